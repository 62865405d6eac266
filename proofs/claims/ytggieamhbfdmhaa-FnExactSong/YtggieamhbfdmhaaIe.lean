/-
  Several texts in one: Irs.
-/
import Derived.Test.YtggieamhbfdmhaaIa
/-
  The program's SeqOf, SenderOf, IndexOf, and what they and the rest go by: areSenders, isWithin, isTurn, areCounts.
-/
namespace Go.Proofs.Ytggieamhbfdmhaa
set_option linter.unusedVariables false
set_option linter.unusedSimpArgs false
open Go.RowKit Go.Sort

set_option maxHeartbeats 400000 in
theorem isW7_any (n last : Int) (w : World) : Calls Try.prog 71 #[.int .i64 n, .int .i64 last] w fun e w' => e = .returned (.bool (inB n 0 last)) ∧ w' = w := by
  by_cases h0 : (0 : Int) ≤ n
  · have H : Hid (inB n 0 last = decide (n ≤ last)) := by rw [Hid, inB]; simp [h0]
    go_enter Try.func71, Try.ntmps71
    go_wp2
    go_ret
    exact ⟨ret_bool (by rw [H.out]), rfl⟩
  · have H : Hid (inB n 0 last = false) := by rw [Hid, inB]; simp [h0]
    go_enter Try.func71, Try.ntmps71
    go_wp2
    go_ret
    exact ⟨ret_bool (by rw [H.out]), rfl⟩
set_option maxHeartbeats 400000 in
theorem senders_any (n : Int) (w : World) : Calls Try.prog 89 #[.int .i64 n] w fun e w' => e = .returned (.bool (inB n 1 8)) ∧ w' = w := by
  by_cases h0 : (1 : Int) ≤ n
  · have H : Hid (inB n 1 8 = decide (n ≤ 8)) := by rw [Hid, inB]; simp [h0]
    go_enter Try.func89, Try.ntmps89
    go_wp2
    go_ret
    exact ⟨ret_bool (by rw [H.out]), rfl⟩
  · have H : Hid (inB n 1 8 = false) := by rw [Hid, inB]; simp [h0]
    go_enter Try.func89, Try.ntmps89
    go_wp2
    go_ret
    exact ⟨ret_bool (by rw [H.out]), rfl⟩
set_option maxHeartbeats 800000 in
theorem seqI_any (n s i : Int) (hn : I64 n) (w : World) : Calls Try.prog 88 #[.int .i64 n, .int .i64 s, .int .i64 i] w fun e w' => e = .returned (.int .i64 (seqL n s i)) ∧ w' = w := by
  unfold I64 at hn
  cases e0 : inB n 1 8 with
  | false =>
    have HZ : Hid (seqL n s i = -1) := by rw [Hid, seqL, seqB, e0]; rfl
    go_enter Try.func88, Try.ntmps88
    go_wp2_with (first | (go_at_call 89; refine (senders_any _ _).mono ?_; rintro e w' ⟨rfl, rfl⟩) | (go_at_call 71; refine (isW7_any _ _ _).mono ?_; rintro e w' ⟨rfl, rfl⟩))
    go_ret
    exact ⟨ret_int (by rw [HZ.out]), rfl⟩
  | true =>
    have hk := inB7.1 e0
    cases e1 : inB s 0 (n - 1) with
    | false =>
      have HZ : Hid (seqL n s i = -1) := by rw [Hid, seqL, seqB, e0, e1]; rfl
      go_enter Try.func88, Try.ntmps88
      go_wp2_with (first | (go_at_call 89; refine (senders_any _ _).mono ?_; rintro e w' ⟨rfl, rfl⟩) | (go_at_call 71; refine (isW7_any _ _ _).mono ?_; rintro e w' ⟨rfl, rfl⟩))
      go_ret
      exact ⟨ret_int (by rw [HZ.out]), rfl⟩
    | true =>
      have hs := inB7.1 e1
      cases e2 : inB i 0 100000 with
      | false =>
        have HZ : Hid (seqL n s i = -1) := by rw [Hid, seqL, seqB, e0, e1, e2]; rfl
        go_enter Try.func88, Try.ntmps88
        go_wp2_with (first | (go_at_call 89; refine (senders_any _ _).mono ?_; rintro e w' ⟨rfl, rfl⟩) | (go_at_call 71; refine (isW7_any _ _ _).mono ?_; rintro e w' ⟨rfl, rfl⟩))
        go_ret
        exact ⟨ret_int (by rw [HZ.out]), rfl⟩
      | true =>
        have hi := inB7.1 e2
        have HZ : Hid (seqL n s i = n * i + s) := by rw [Hid, seqL, seqB, e0, e1, e2]; rfl
        have m0 : 0 ≤ n * i := Int.mul_nonneg (by omega) hi.1
        have m1 : n * i ≤ 8 * 100000 := Int.mul_le_mul hk.2 hi.2 hi.1 (by omega)
        generalize hm : n * i = m at *
        go_enter Try.func88, Try.ntmps88
        go_wp2_with (first | (go_at_call 89; refine (senders_any _ _).mono ?_; rintro e w' ⟨rfl, rfl⟩) | (go_at_call 71; refine (isW7_any _ _ _).mono ?_; rintro e w' ⟨rfl, rfl⟩))
        go_ret
        exact ⟨ret_int (by rw [HZ.out]), rfl⟩

theorem implSeqOf : ImplSeqOf := fun n s i w hn _ _ => (seqI_any n s i hn w).mono (fun e w' ⟨he, hw⟩ => ⟨he, hw ▸ Below.refl _ _⟩)
/-- The greatest of the counts. -/
def gr (cs : List Int) : Int := hiL (el cs 0) cs.tail
theorem hiL_le {x m : Int} : ∀ {xs : List Int}, hiL x xs ≤ m ↔ x ≤ m ∧ ∀ y ∈ xs, y ≤ m := by
  intro xs
  induction xs generalizing x with
  | nil => simp [hiL]
  | cons y ys ih =>
    show hiL (max x y) ys ≤ m ↔ _
    rw [ih]
    simp only [List.mem_cons]
    constructor
    · rintro ⟨h1, h2⟩
      exact ⟨by omega, fun z hz => by rcases hz with rfl | hz; omega; exact h2 z hz⟩
    · rintro ⟨h1, h2⟩
      exact ⟨by have := h2 y (.inl rfl); omega, fun z hz => h2 z (.inr hz)⟩
theorem gr_le {cs : List Int} {m : Int} (h1 : 1 ≤ cs.length) : gr cs ≤ m ↔ ∀ i, i < cs.length → el cs i ≤ m := by
  cases cs with
  | nil => simp at h1
  | cons c ds =>
    have e : gr (c :: ds) = hiL c ds := rfl
    rw [e, hiL_le]
    constructor
    · rintro ⟨a, b⟩ i hi
      rw [el_eq hi]
      have := List.getElem_mem hi
      rcases List.mem_cons.1 this with h | h
      · rw [h]; exact a
      · exact b _ h
    · intro h
      refine ⟨h 0 (by simp), fun y hy => ?_⟩
      obtain ⟨i, hi, rfl⟩ := List.getElem_of_mem hy
      have := h (i + 1) (by simp; omega)
      rw [el_eq (by simp; omega)] at this
      simpa using this
theorem gr_ge {cs : List Int} {i : Nat} (hi : i < cs.length) : el cs i ≤ gr cs := (gr_le (by omega)).1 (Int.le_refl _) i hi
theorem okCt_gr {cs : List Int} (h : okB cs = true) : okCt cs = decide (gr cs ≤ 100000) := by
  have h1 := (okB_len h).1
  rw [Bool.eq_iff_iff, decide_eq_true_eq, gr_le h1]
  exact ⟨fun k => fun i hi => ((okCt_all k).2 i hi).2, fun k => okCt_of h k⟩

set_option maxRecDepth 100000 in
set_option maxHeartbeats 800000 in
theorem areCounts_any (a : Option Addr) (len cap : Nat) (cs : List Int) (w : World) (hv : Vec w a len cs) (hcap : len ≤ cap) (hm : cap ≤ maxLen) :
    Calls Try.prog 81 #[.slice a len cap] w fun e w' => e = .returned (.bool (okCt cs)) ∧ ∃ n, w' = w.drewN n := by
  have hV := implOk_any a len cap cs w hv hcap hm
  cases hb : okB cs with
  | false =>
    rw [hb] at hV
    have HZ : Hid (okCt cs = false) := by rw [Hid, okCt, hb]; rfl
    clear hb
    go_enter Try.func81, Try.ntmps81
    go_wp2_with (go_at_call 23; refine hV.mono ?_; rintro e w' ⟨rfl, n1, rfl⟩)
    go_ret
    exact ⟨ret_bool (by rw [HZ.out]), _, rfl⟩
  | true =>
    rw [hb] at hV
    have HZ : Hid (okCt cs = decide (gr cs ≤ 100000)) := okCt_gr hb
    have h18 := okB_len hb
    clear hb
    obtain ⟨hlen, hf, hcs⟩ := hv
    have hG : Hid (∀ n, Calls Try.prog 78 #[.slice a len cap] (w.drewN n) fun e w' => e = .returned (.int .i64 (gr cs)) ∧ ∃ m, w' = (w.drewN n).drewN m) := by
      intro n
      rcases hcs with h0 | ⟨b, off, rfl, hc⟩
      · omega
      · exact vgreatest_any b off len cap cs _ hlen hf (fun k hk => by rw [World.cell?_drewN]; exact hc k hk) (by omega) hcap hm
    have HL : Hid (cs.length = len) := hlen
    clear hlen hcs hf h18
    generalize gr cs = G at *
    go_enter Try.func81, Try.ntmps81
    go_wp2_with (first | (go_at_call 23; refine hV.mono ?_; rintro e w' ⟨rfl, n1, rfl⟩) | (go_at_call 78; refine (hG.out _).mono ?_; rintro e w' ⟨rfl, n2, rfl⟩))
    go_ret
    exact ⟨ret_bool (by rw [HZ.out]), _, rfl⟩
end Go.Proofs.Ytggieamhbfdmhaa
