/-
  Several texts in one: Trs Trc.
-/
import Derived.Test.YtjefneaghlohlaaIo
import Derived.Test.YtjefneaghlohlaaHh
/-
  The contracts of the specification's Rounds, l9Power, Parent and Depth.
-/
namespace Go.Proofs.Ytjefneaghlohlaa
set_option linter.unusedVariables false
set_option linter.unusedSimpArgs false
open Go.RowKit Go.Sort

theorem pow_small {r : Nat} (hr : r ≤ 10) : 1 ≤ 2 ^ r ∧ 2 ^ r ≤ 1024 := ⟨Nat.one_le_two_pow, Nat.le_trans (Nat.pow_le_pow_right (by omega) hr) (by decide)⟩
theorem wrap_pow {r : Nat} (hr : r ≤ 10) : wrap64 ((2 : Int) ^ r) = ((2 ^ r : Nat) : Int) := by
  have h := pow_small hr
  have e : (2 : Int) ^ r = ((2 ^ r : Nat) : Int) := by simp
  rw [e]
  unfold wrap64
  omega
set_option maxHeartbeats 800000 in
theorem powS_any (k : Nat) (h1 : 1 ≤ k) (h2 : k ≤ 100000) (w : World) : Calls Try.prog 78 #[.int .i64 (k : Int)] w fun e w' => e = .returned (.int .i64 (pw k : Int)) ∧ w' = w := by
  go_enter Try.func78, Try.ntmps78
  go_wp2
  go_loop [3] (fun i => ∃ j : Nat, 2 ^ j ≤ k ∧ i = .int .i64 ((2 ^ j : Nat) : Int)) (fun i => k - (intOf i).toNat)
  case atStart => exact ⟨0, by simpa using h1, rfl⟩
  case round =>
    obtain ⟨j, hj, rfl⟩ := hrel
    by_cases hlt : 2 * 2 ^ j ≤ k
    · have HP : Hid (2 ^ (j + 1) = 2 * 2 ^ j) := by rw [Hid, Nat.pow_succ]; omega
      have hpos : 1 ≤ 2 ^ j := Nat.one_le_two_pow
      generalize 2 ^ j = q at *
      have hi : (2 : Int) * (q : Int) ≤ (k : Int) := by omega
      go_wp2
      go_round
      case rel => exact ⟨j + 1, by rw [HP.out]; exact hlt, by rw [HP.out]; go_num⟩
      case measure => simp [intOf]; omega
    · have HZ : Hid (pw k = 2 ^ j) := pw_is hj (by omega)
      have hpos : 1 ≤ 2 ^ j := Nat.one_le_two_pow
      generalize 2 ^ j = q at *
      have hi : ¬ ((2 : Int) * (q : Int) ≤ (k : Int)) := by omega
      go_wp2
      go_ret
      exact ⟨ret_int (by rw [HZ.out]), rfl⟩

set_option maxHeartbeats 800000 in
theorem parS_any (k : Int) (w : World) : Calls Try.prog 34 #[.int .i64 k] w fun e w' => e = .returned (.int .i64 (parL k)) ∧ w' = w := by
  cases e0 : inB k 1 999 with
  | false =>
    have HZ : Hid (parL k = -1) := by rw [Hid, parL, e0]; rfl
    go_enter Try.func34, Try.ntmps34
    go_wp2_with (go_at_call 71; refine (l1In_any _ _ _ _).mono ?_; rintro e w' ⟨rfl, rfl⟩)
    go_ret
    exact ⟨ret_int (by rw [HZ.out]), rfl⟩
  | true =>
    have hk := inB7.1 e0
    obtain ⟨K, rfl⟩ : ∃ K : Nat, k = (K : Int) := ⟨k.toNat, by omega⟩
    have hP := fun w => powS_any K (by omega) (by omega) w
    have hle := pw_le (k := K) (by omega)
    have HZ : Hid (parL (K : Int) = (K : Int) - (pw K : Int)) := by rw [Hid, parL, e0]; simp only [if_true, Int.toNat_natCast, par]; omega
    generalize pw K = q at *
    go_enter Try.func34, Try.ntmps34
    go_wp2_with (first | (go_at_call 71; refine (l1In_any _ _ _ _).mono ?_; rintro e w' ⟨rfl, rfl⟩) | (go_at_call 78; refine (hP _).mono ?_; rintro e w' ⟨rfl, rfl⟩))
    go_ret
    exact ⟨ret_int (by rw [HZ.out]), rfl⟩

set_option maxHeartbeats 800000 in
theorem rndS_any (n : Int) (w : World) : Calls Try.prog 46 #[.int .i64 n] w fun e w' => e = .returned (.int .i64 (rndL n)) ∧ w' = w := by
  cases e0 : inB n 1 1000 with
  | false =>
    have HZ : Hid (rndL n = -1) := by rw [Hid, rndL, e0]; rfl
    go_enter Try.func46, Try.ntmps46
    go_wp2_with (go_at_call 71; refine (l1In_any _ _ _ _).mono ?_; rintro e w' ⟨rfl, rfl⟩)
    go_ret
    exact ⟨ret_int (by rw [HZ.out]), rfl⟩
  | true =>
    have hk := inB7.1 e0
    obtain ⟨N, rfl⟩ : ∃ N : Nat, n = (N : Int) := ⟨n.toNat, by omega⟩
    have HZ : Hid (rndL (N : Int) = (rnd N : Int)) := by rw [Hid, rndL, e0]; simp
    go_enter Try.func46, Try.ntmps46
    go_wp2_with (go_at_call 71; refine (l1In_any _ _ _ _).mono ?_; rintro e w' ⟨rfl, rfl⟩)
    go_loop [3] (fun i => ∃ r : Nat, r ≤ 10 ∧ (∀ s, s < r → 2 ^ s < N) ∧ i = .int .i64 (r : Int)) (fun i => 10 - (intOf i).toNat)
    case atStart => exact ⟨0, by omega, fun s hs => by omega, rfl⟩
    case round =>
      obtain ⟨r, hr, hall, rfl⟩ := hrel
      have hw := wrap_pow hr
      have hq := pow_small hr
      by_cases hlt : 2 ^ r < N
      · have HA : Hid (∀ s, s < r + 1 → 2 ^ s < N) := fun s hs => by
          by_cases e : s = r
          · subst e; exact hlt
          · exact hall s (by omega)
        have hr9 : r + 1 ≤ 10 := by
          rcases Nat.lt_or_ge r 10 with h | h
          · exact h
          · obtain rfl : r = 10 := by omega
            have : 2 ^ 10 = 1024 := rfl
            omega
        clear hall
        generalize 2 ^ r = q at *
        have hi : (q : Int) < (N : Int) := by omega
        go_wp2
        go_round
        case rel => exact ⟨r + 1, hr9, HA.out, by go_num⟩
        case measure => simp [intOf]; omega
      · have HR : Hid (rnd N = r) := rnd_is (by omega) hall
        clear hall
        generalize 2 ^ r = q at *
        have hi : ¬ ((q : Int) < (N : Int)) := by omega
        go_wp2
        go_ret
        exact ⟨ret_int (by rw [HZ.out, HR.out]), rfl⟩

set_option maxHeartbeats 800000 in
theorem depS_any (k : Int) (w : World) : Calls Try.prog 37 #[.int .i64 k] w fun e w' => e = .returned (.int .i64 (depL k)) ∧ w' = w := by
  cases e0 : inB k 0 999 with
  | false =>
    have HZ : Hid (depL k = -1) := by rw [Hid, depL, e0]; rfl
    go_enter Try.func37, Try.ntmps37
    go_wp2_with (go_at_call 71; refine (l1In_any _ _ _ _).mono ?_; rintro e w' ⟨rfl, rfl⟩)
    go_ret
    exact ⟨ret_int (by rw [HZ.out]), rfl⟩
  | true =>
    have hk := inB7.1 e0
    obtain ⟨K, rfl⟩ : ∃ K : Nat, k = (K : Int) := ⟨k.toNat, by omega⟩
    have HZ : Hid (depL (K : Int) = (dep K : Int)) := by rw [Hid, depL, e0]; simp
    have hdK : dep K ≤ 1000 := by
      rcases Nat.eq_zero_or_pos K with h | h
      · subst h; rw [dep_zero]; omega
      · have h1 := dep_log K h
        have h2 : Nat.log2 K < 10 := by
          rcases Nat.lt_or_ge (Nat.log2 K) 10 with h3 | h3
          · exact h3
          · have h4 : 2 ^ 10 ≤ 2 ^ Nat.log2 K := Nat.pow_le_pow_right (by omega) h3
            have h5 := pw_le h
            unfold pw at h5
            have : 2 ^ 10 = 1024 := rfl
            omega
        omega
    go_enter Try.func37, Try.ntmps37
    go_wp2_with (go_at_call 71; refine (l1In_any _ _ _ _).mono ?_; rintro e w' ⟨rfl, rfl⟩)
    go_loop [0, 3] (fun x c => ∃ m d : Nat, m ≤ K ∧ d + dep m = dep K ∧ x = .int .i64 (m : Int) ∧ c = .int .i64 (d : Int)) (fun x _ => (intOf x).toNat)
    case atStart => exact ⟨K, 0, Nat.le_refl _, by omega, rfl, rfl⟩
    case round =>
      obtain ⟨m, d, hm, hd, rfl, rfl⟩ := hrel
      rcases Nat.eq_zero_or_pos m with h | h
      · subst h
        rw [dep_zero] at hd
        have HD : Hid (dep K = d) := by rw [Hid]; omega
        clear hd
        go_wp2
        go_ret
        exact ⟨ret_int (by rw [HZ.out, HD.out]), rfl⟩
      · have hP := fun w => powS_any m h (by omega) w
        have hle := pw_le h
        have hlt := pw_pos m
        have HD : Hid (d + 1 + dep (par m) = dep K) := by rw [Hid]; rw [dep_succ h] at hd; omega
        have HP : Hid (par m = m - pw m) := rfl
        have hm0 : (0 : Int) < (m : Int) := by omega
        have hd1 : (d : Int) ≤ 1000 := by omega
        clear hd
        generalize pw m = q at *
        go_wp2_with (go_at_call 78; refine (hP _).mono ?_; rintro e w' ⟨rfl, hw'⟩; rw [hw']; clear hw')
        go_round
        case rel => exact ⟨m - q, d + 1, by omega, by rw [← HP.out]; exact HD.out, by go_num, by go_num⟩
        case measure => simp [intOf]; omega
end Go.Proofs.Ytjefneaghlohlaa

/-
  The contracts of the specification's Children and Calls; lists of calls in memory.
-/
namespace Go.Proofs.Ytjefneaghlohlaa
set_option linter.unusedVariables false
set_option linter.unusedSimpArgs false
open Go.RowKit Go.Sort

theorem chl_one (k : Nat) : chl 1 k = [] := by
  rw [chl_succ]
  simp [chl, isCh]

set_option maxRecDepth 100000 in
set_option maxHeartbeats 1600000 in
theorem chlS_any (n k : Int) (hn : -9223372036854775808 ≤ n ∧ n ≤ 9223372036854775807) (w : World) : Calls Try.prog 35 #[.int .i64 n, .int .i64 k] w fun e w' => AnsN w w' e (chlL n k) := by
  obtain ⟨i0, hi0, hz0, hz1, hz2⟩ := info_parts2n Try.info2n
  cases e0 : inB n 1 1000 with
  | false =>
    have HZ : Hid (chlL n k = []) := by rw [Hid, chlL, e0]; rfl
    go_enter Try.func35, Try.ntmps35
    go_wp2_with (go_at_call 71; refine (l1In_any _ _ _ _).mono ?_; rintro e w' ⟨rfl, hw'⟩; rw [hw']; clear hw')
    go_ret
    rw [HZ.out]
    exact ⟨_, 0, 0, rfl, Nat.le_refl _, num_empty _ 2, (Below.refl _ _).alloc (Nat.le_refl _) _⟩
  | true =>
    have hk := inB7.1 e0
    cases e1 : inB k 0 (n - 1) with
    | false =>
      have HZ : Hid (chlL n k = []) := by rw [Hid, chlL, e0, e1]; rfl
      go_enter Try.func35, Try.ntmps35
      go_wp2_with (go_at_call 71; refine (l1In_any _ _ _ _).mono ?_; rintro e w' ⟨rfl, hw'⟩; rw [hw']; clear hw')
      go_ret
      rw [HZ.out]
      exact ⟨_, 0, 0, rfl, Nat.le_refl _, num_empty _ 2, (Below.refl _ _).alloc (Nat.le_refl _) _⟩
    | true =>
      have hk2 := inB7.1 e1
      obtain ⟨N, rfl⟩ : ∃ N : Nat, n = (N : Int) := ⟨n.toNat, by omega⟩
      obtain ⟨K, rfl⟩ : ∃ K : Nat, k = (K : Int) := ⟨k.toNat, by omega⟩
      have HZ : Hid (chlL (N : Int) (K : Int) = chl N K) := by rw [Hid, chlL, e0, e1]; simp
      have hN1 : 1 ≤ N := by omega
      go_enter Try.func35, Try.ntmps35
      go_wp2_with (go_at_call 71; refine (l1In_any _ _ _ _).mono ?_; rintro e w' ⟨rfl, hw'⟩; rw [hw']; clear hw')
      go_loopw [5, 6] (fun v i wr => ∃ (j g og cg : Nat), (1 ≤ j ∧ j ≤ N) ∧ i = .int .i64 j ∧ v = .slice (some ⟨g, og, none⟩) (chl j K).length cg ∧ w.heap.size ≤ g ∧ OI wr g og (chl j K).length cg (chl j K) ∧ Below w.heap.size w wr) (fun _ i _ => N - (intOf i).toNat)
      case atStart => exact ⟨1, w.heap.size, 0, 0, ⟨Nat.le_refl _, hN1⟩, rfl, by rw [chl_one]; rfl, Nat.le_refl _, by rw [chl_one]; exact num_empty _ 2, (Below.refl _ _).alloc (Nat.le_refl _) _⟩
      case round =>
        obtain ⟨j, g, og, cg, ⟨hj1, hj⟩, rfl, rfl, hg, hO, hB⟩ := hrel
        have LO : Hid (OI wr g og (chl j K).length cg (chl j K)) := hO
        have LB : Hid (Below w.heap.size w wr) := hB
        have LG : Hid (w.heap.size ≤ g) := hg
        have LLE : (chl j K).length ≤ 1000 := Nat.le_trans (chl_len j K) (by omega)
        clear hO hB hg
        by_cases hlt : j < N
        · have hP := fun w => powS_any j hj1 (by omega) w
          have hle := pw_le hj1
          have j1 : (j : Int) < (N : Int) := by omega
          have HR := chl_succ j K
          have HI : isCh K j = decide (j - pw j = K) := Bool.eq_iff_iff.2 (isCh_iff.trans ⟨fun h => decide_eq_true h.2, fun h => ⟨hj1, of_decide_eq_true h⟩⟩)
          rw [HI] at HR
          have HR' : Hid (chl (j + 1) K = chl j K ++ (if decide (j - pw j = K) = true then [(j : Int)] else [])) := HR
          clear HR HI
          generalize pw j = q at *
          by_cases hx : j - q = K
          · have hx2 : ((j : Int) - (q : Int) == (K : Int)) = true := by simp; omega
            rw [decide_eq_true hx, if_pos rfl] at HR'
            generalize hW : chl (j + 1) K = W1 at *
            generalize chl j K = W0 at *
            have hO2 : OSl (wr.alloc (.cells #[.int .i64 (j : Int)] 2)) 1 g og W0.length cg (W0.map (Value.int .i64)) := OSl.below LO.out ((Below.refl _ _).alloc (Nat.le_refl _) _) LO.out.blk
            go_wp2_with (first | (go_at_call 78; refine (hP _).mono ?_; rintro e w' ⟨rfl, hw'⟩; rw [hw']; clear hw') | (at_builtin; refine wpList_append_os _ rfl _ _ _ rfl 2 i0 _ 1 8 Try.underlying24 hi0 hz0 hz1 hz2 rfl (by omega) g og W0.length cg _ rfl hO2 ⟨wr.heap.size, 0, none⟩ 1 1 [.int .i64 (j : Int)] rfl rfl (World.news_of_block (cs := #[.int .i64 (j : Int)]) (t := 2) (fr := (0, 0)) (heap_alloc_new _ _)) (by simp [Value.oneCell']) (by unfold maxLen; omega) (by omega) ?_; intro g6 o6 c6 w6 hO6 hg6 hat6))
            have NG : Hid (w.heap.size ≤ g6) := by
              rcases hat6 with h | h
              · rw [h]; exact LG.out
              · rw [h]; exact Nat.le_trans LB.out.size (by simp)
            have NL : Hid (W1.length = W0.length + 1) := by rw [Hid, HR'.out]; simp
            have NO : Hid (OI w6 g6 o6 W1.length c6 W1) := by
              rw [Hid, NL.out, HR'.out, OI, List.map_append]; exact hO6
            have NB : Hid (Below w.heap.size w w6) := below_grown6 (LB.out.alloc LB.out.size _) hg6 LG.out (Nat.le_trans LB.out.size (by simp))
            clear hO6 hg6 hat6 hO2
            go_roundw
            case rel => exact ⟨j + 1, g6, o6, c6, ⟨by omega, by omega⟩, by go_num, by rw [hW, NL.out], NG.out, by rw [hW]; exact NO.out, NB.out⟩
            case measure => simp [intOf]; omega
          · have hx2 : ((j : Int) - (q : Int) == (K : Int)) = false := by simp; omega
            rw [decide_eq_false hx, if_neg (by simp), List.append_nil] at HR'
            go_wp2_with (go_at_call 78; refine (hP _).mono ?_; rintro e w' ⟨rfl, hw'⟩; rw [hw']; clear hw')
            go_roundw
            case rel => exact ⟨j + 1, g, og, cg, ⟨by omega, by omega⟩, by go_num, by rw [HR'.out], LG.out, by rw [HR'.out]; exact LO.out, LB.out⟩
            case measure => simp [intOf]; omega
        · have hjN : j = N := by omega
          subst hjN
          go_wp2
          go_ret
          rw [HZ.out]
          exact ⟨g, og, cg, rfl, LG.out, LO.out, LB.out⟩

/-- Calls as cells. -/
def cvs (L : List (Int × Int)) : List Value := L.flatMap (fun c => [.int .i64 c.1, .int .i64 c.2])
theorem cvs_len (L : List (Int × Int)) : (cvs L).length = L.length * 2 := by
  induction L with
  | nil => rfl
  | cons c L ih => simp only [cvs, List.flatMap_cons, List.length_append, List.length_cons, List.length_nil] at ih ⊢; omega
theorem cvs_snoc (L : List (Int × Int)) (c : Int × Int) : cvs (L ++ [c]) = cvs L ++ [.int .i64 c.1, .int .i64 c.2] := by simp [cvs]
def cat (L : List (Int × Int)) (i : Nat) : Int × Int := L.getD i (0, 0)
theorem cvs_at (L : List (Int × Int)) : ∀ i, i < L.length → (cvs L)[i * 2]? = some (.int .i64 (cat L i).1) ∧ (cvs L)[i * 2 + 1]? = some (.int .i64 (cat L i).2) := by
  induction L with
  | nil => intro i hi; simp at hi
  | cons c L ih =>
    intro i hi
    have e : cvs (c :: L) = .int .i64 c.1 :: .int .i64 c.2 :: cvs L := by simp [cvs]
    rw [e]
    cases i with
    | zero => simp [cat]
    | succ i =>
      have := ih i (by simpa using hi)
      rw [show (i + 1) * 2 = i * 2 + 1 + 1 by omega]
      simpa [cat] using this
/-- A list of calls in a slice of one's own. -/
def OC (w : World) (g off n cap : Nat) (L : List (Int × Int)) : Prop := OSl w 2 g off n cap (cvs L)
theorem OC.length {w : World} {g off n cap : Nat} {L : List (Int × Int)} (h : OC w g off n cap L) : L.length = n := by
  have := h.len
  rw [cvs_len] at this
  omega
theorem OC.c0 {w : World} {g off n cap : Nat} {L : List (Int × Int)} (h : OC w g off n cap L) {i : Nat} (hi : i < n) : w.cell? ⟨g, off + i * 2, none⟩ = some (.int .i64 (cat L i).1) := by
  rw [h.cell (i * 2) (by omega)]
  exact (cvs_at L i (by rw [h.length]; exact hi)).1
theorem OC.c1 {w : World} {g off n cap : Nat} {L : List (Int × Int)} (h : OC w g off n cap L) {i : Nat} (hi : i < n) : w.cell? ⟨g, off + i * 2 + 1, none⟩ = some (.int .i64 (cat L i).2) := by
  rw [Nat.add_assoc, h.cell (i * 2 + 1) (by omega)]
  exact (cvs_at L i (by rw [h.length]; exact hi)).2
theorem OC.below {w w' : World} {g off n cap B : Nat} {L : List (Int × Int)} (h : OC w g off n cap L) (hb : Below B w w') (hg : g < B) : OC w' g off n cap L := OSl.below h hb hg
theorem OC.drewN {w : World} {g off n cap : Nat} {L : List (Int × Int)} (h : OC w g off n cap L) (k : Nat) : OC (w.drewN k) g off n cap L := OSl.drewN h k
theorem call_empty (w : World) (T : TypeId) : OC (w.alloc (.cells #[] T)) w.heap.size 0 0 0 [] :=
  ⟨rfl, Nat.le_refl _, Nat.zero_le _, by simp, fun i hi => by omega, fun i hi => by omega, fun i hi => by omega⟩
/-- An answer that is a list of calls. -/
def AnsC (w w' : World) (e : Ending) (L : List (Int × Int)) : Prop := ∃ g off c, e = .returned (.slice (some ⟨g, off, none⟩) L.length c) ∧ w.heap.size ≤ g ∧ OC w' g off L.length c L ∧ Below w.heap.size w w'
theorem infoCall : (Try.prog.info? 43).map (fun i => (i.zero, i.size, i.bytes)) = some (some (.agg #[.int .i64 0, .int .i64 0]), 2, 16) := by kernel_rfl

theorem wrap_pow2 {r : Nat} (hr : r ≤ 9) : wrap64 (2 * (2 : Int) ^ r) = ((2 * 2 ^ r : Nat) : Int) := by
  have h := pow_small (r := r) (by omega)
  have e : (2 : Int) ^ r = ((2 ^ r : Nat) : Int) := by simp
  rw [e]
  unfold wrap64
  omega

set_option maxRecDepth 100000 in
set_option maxHeartbeats 1600000 in
theorem calS_any (n r : Int) (w : World) : Calls Try.prog 45 #[.int .i64 n, .int .i64 r] w fun e w' => AnsC w w' e (calL n r) := by
  obtain ⟨i0, hi0, hz0, hz1, hz2⟩ := info_parts2n infoCall
  cases e0 : inB n 1 1000 with
  | false =>
    have HZ : Hid (calL n r = []) := by rw [Hid, calL, e0]; rfl
    go_enter Try.func45, Try.ntmps45
    go_wp2_with (go_at_call 71; refine (l1In_any _ _ _ _).mono ?_; rintro e w' ⟨rfl, hw'⟩; rw [hw']; clear hw')
    go_ret
    rw [HZ.out]
    exact ⟨_, 0, 0, rfl, Nat.le_refl _, call_empty _ _, (Below.refl _ _).alloc (Nat.le_refl _) _⟩
  | true =>
    have hk := inB7.1 e0
    cases e1 : inB r 0 9 with
    | false =>
      have HZ : Hid (calL n r = []) := by rw [Hid, calL, e0, e1]; rfl
      go_enter Try.func45, Try.ntmps45
      go_wp2_with (go_at_call 71; refine (l1In_any _ _ _ _).mono ?_; rintro e w' ⟨rfl, hw'⟩; rw [hw']; clear hw')
      go_ret
      rw [HZ.out]
      exact ⟨_, 0, 0, rfl, Nat.le_refl _, call_empty _ _, (Below.refl _ _).alloc (Nat.le_refl _) _⟩
    | true =>
      have hk2 := inB7.1 e1
      obtain ⟨N, rfl⟩ : ∃ N : Nat, n = (N : Int) := ⟨n.toNat, by omega⟩
      obtain ⟨R, rfl⟩ : ∃ R : Nat, r = (R : Int) := ⟨r.toNat, by omega⟩
      have HZ : Hid (calL (N : Int) (R : Int) = cal R (calN N R)) := by rw [Hid, calL, e0, e1]; simp
      have hq := pow_small (r := R) (by omega)
      have hw1 := wrap_pow (r := R) (by omega)
      have hw2 := wrap_pow2 (r := R) (by omega)
      go_enter Try.func45, Try.ntmps45
      go_wp2_with (go_at_call 71; refine (l1In_any _ _ _ _).mono ?_; rintro e w' ⟨rfl, hw'⟩; rw [hw']; clear hw')
      have hC : ∀ t, t < calN N R → 2 ^ R + t < 2 * 2 ^ R ∧ 2 ^ R + t < N := fun t ht => by unfold calN at ht; omega
      have hC2 : ¬ (2 ^ R + calN N R < 2 * 2 ^ R ∧ 2 ^ R + calN N R < N) := by unfold calN; omega
      have hCm : calN N R ≤ 512 := by
        have : 2 ^ R ≤ 2 ^ 9 := Nat.pow_le_pow_right (by omega) (by omega)
        have e : (2 : Nat) ^ 9 = 512 := rfl
        unfold calN
        omega
      have HPW : Hid (∀ t, t < calN N R → pw (2 ^ R + t) = 2 ^ R) := fun t ht => pw_is (by omega) (hC t ht).1
      have HCS : Hid (∀ t, cal R (t + 1) = cal R t ++ [((t : Int), ((2 ^ R + t : Nat) : Int))]) := fun t => cal_succ R t
      generalize hQ : 2 ^ R = Q at *
      generalize calN N R = M at *
      simp only [hw1]
      go_loopw [5, 6] (fun v i wr => ∃ (t g og cg : Nat), t ≤ M ∧ i = .int .i64 ((Q + t : Nat) : Int) ∧ v = .slice (some ⟨g, og, none⟩) (cal R t).length cg ∧ w.heap.size ≤ g ∧ OC wr g og (cal R t).length cg (cal R t) ∧ Below w.heap.size w wr) (fun _ i _ => Q + M - (intOf i).toNat)
      case atStart => exact ⟨0, w.heap.size, 0, 0, Nat.zero_le _, rfl, rfl, Nat.le_refl _, call_empty _ _, (Below.refl _ _).alloc (Nat.le_refl _) _⟩
      case round =>
        obtain ⟨t, g, og, cg, ht, rfl, rfl, hg, hO, hB⟩ := hrel
        have LO : Hid (OC wr g og (cal R t).length cg (cal R t)) := hO
        have LB : Hid (Below w.heap.size w wr) := hB
        have LG : Hid (w.heap.size ≤ g) := hg
        have LLE : (cal R t).length ≤ 1000 := by rw [cal_len]; omega
        clear hO hB hg
        by_cases hlt : t < M
        · obtain ⟨h1, h2⟩ := hC t hlt
          have hP := fun w => powS_any (Q + t) (by omega) (by omega) w
          rw [HPW.out t hlt] at hP
          have HR := HCS.out t
          have HR' : Hid (cal R (t + 1) = cal R t ++ [(((Q + t : Nat) : Int) - (Q : Int), ((Q + t : Nat) : Int))]) := by rw [Hid, HR]; congr 3; omega
          clear HR
          generalize hkk : Q + t = kk at *
          have hkk' : Hid (Q + t = kk) := hkk
          have k1 : (kk : Int) < ((2 * Q : Nat) : Int) := by omega
          have k2 : (kk : Int) < (N : Int) := by omega
          have hkq : (Q : Int) ≤ (kk : Int) := by omega
          clear hkk
          generalize hW : cal R (t + 1) = W1 at *
          generalize cal R t = W0 at *
          have hO2 : OSl (wr.alloc (.cells #[.int .i64 ((kk : Int) - (Q : Int)), .int .i64 (kk : Int)] 43)) 2 g og W0.length cg (cvs W0) := OSl.below LO.out ((Below.refl _ _).alloc (Nat.le_refl _) _) LO.out.blk
          go_wp2_with (first | (go_at_call 78; refine (hP _).mono ?_; rintro e w' ⟨rfl, hw'⟩; rw [hw']; clear hw') | (at_builtin; refine wpList_append_os _ rfl _ _ _ rfl 43 i0 _ 2 16 Try.underlying39 hi0 hz0 hz1 hz2 rfl (by omega) g og W0.length cg _ rfl hO2 ⟨wr.heap.size, 0, none⟩ 1 1 [.int .i64 ((kk : Int) - (Q : Int)), .int .i64 (kk : Int)] rfl rfl (World.news_of_block (cs := #[.int .i64 ((kk : Int) - (Q : Int)), .int .i64 (kk : Int)]) (t := 43) (fr := (0, 0)) (heap_alloc_new _ _)) (by simp [Value.oneCell']) (by unfold maxLen; omega) (by omega) ?_; intro g6 o6 c6 w6 hO6 hg6 hat6))
          have NG : Hid (w.heap.size ≤ g6) := by
            rcases hat6 with h | h
            · rw [h]; exact LG.out
            · rw [h]; exact Nat.le_trans LB.out.size (by simp)
          have NL : Hid (W1.length = W0.length + 1) := by rw [Hid, HR'.out]; simp
          have NO : Hid (OC w6 g6 o6 W1.length c6 W1) := by
            rw [Hid, NL.out, HR'.out, OC, cvs_snoc]; exact hO6
          have NB : Hid (Below w.heap.size w w6) := below_grown6 (LB.out.alloc LB.out.size _) hg6 LG.out (Nat.le_trans LB.out.size (by simp))
          clear hO6 hg6 hat6 hO2
          go_roundw
          case rel => exact ⟨t + 1, g6, o6, c6, by omega, by have := hkk'.out; go_num, by rw [hW, NL.out], NG.out, by rw [hW]; exact NO.out, NB.out⟩
          case measure => have := hkk'.out; simp [intOf]; omega
        · obtain rfl : t = M := by omega
          have HF : Hid (AnsC w wr (.returned (.slice (some ⟨g, og, none⟩) (cal R t).length cg)) (calL (N : Int) (R : Int))) := by
            rw [Hid, HZ.out]
            exact ⟨g, og, cg, rfl, LG.out, LO.out, LB.out⟩
          by_cases h1 : Q + t < 2 * Q
          · have k1 : ((Q + t : Nat) : Int) < ((2 * Q : Nat) : Int) := by omega
            have k2 : ¬ (((Q + t : Nat) : Int) < (N : Int)) := by omega
            generalize Q + t = kk at *
            go_wp2
            go_ret
            exact HF.out
          · have k1 : ¬ (((Q + t : Nat) : Int) < ((2 * Q : Nat) : Int)) := by omega
            generalize Q + t = kk at *
            go_wp2
            go_ret
            exact HF.out
end Go.Proofs.Ytjefneaghlohlaa
