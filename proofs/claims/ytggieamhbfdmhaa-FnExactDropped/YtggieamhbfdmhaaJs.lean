/-
  Several texts in one: Rhv Rhm.
-/
import Derived.Test.YtggieamhbfdmhaaJq
/-
  The laws' own helpers on lists of lists of numbers: szInt64SS, toInt64SS, eqInt64SS, markInt64SS, heldInt64SS, likeVectors.
-/
namespace Go.Proofs.Ytggieamhbfdmhaa
set_option linter.unusedVariables false
set_option linter.unusedSimpArgs false
open Go.RowKit Go.Sort

set_option maxHeartbeats 400000 in
theorem szI10_any (a : Option Addr) (len cap : Nat) (left : Int) (w : World) (hm : len ≤ maxLen) (hl : 0 ≤ left ∧ left ≤ 1048576) :
    Calls Try.prog 64 #[.slice a len cap, .int .i64 left] w fun e w' => e = .returned (.int .i64 (if (len : Int) ≤ left then left - (len : Int) else -1)) ∧ w' = w := by
  unfold maxLen at hm
  have h1 : wrap64 (left - (len : Int)) = left - (len : Int) := by unfold wrap64; omega
  by_cases h : (len : Int) ≤ left
  · rw [if_pos h]
    have h2 : decide (left - (len : Int) < 0) = false := by simp; omega
    go_enter Try.func64, Try.ntmps64
    go_wp2
    go_ret
    exact ⟨rfl, rfl⟩
  · rw [if_neg h]
    have h2 : decide (left - (len : Int) < 0) = true := by simp; omega
    go_enter Try.func64, Try.ntmps64
    go_wp2
    go_ret
    exact ⟨rfl, rfl⟩

/-- How many numbers there are in the first k lists. -/
def tot (H : List (List Int)) : Nat → Nat
  | 0 => 0
  | k + 1 => tot H k + (row H k).length
theorem tot_mono (H : List (List Int)) : ∀ {i k : Nat}, i < k → (row H i).length ≤ tot H k
  | i, 0, h => by omega
  | i, k + 1, h => by
    rcases Nat.lt_succ_iff_lt_or_eq.1 h with h | rfl
    · have := tot_mono H h
      simp only [tot]; omega
    · simp only [tot]; omega

set_option maxRecDepth 100000 in
set_option maxHeartbeats 800000 in
/-- What is left of the room, or -1. -/
theorem szII_any (a : Option Addr) (len cap : Nat) (H : List (List Int)) (left : Int) (w : World) (hv : VV w a len cap H) (hl : 0 ≤ left ∧ left ≤ 1048576) :
    Calls Try.prog 26 #[.slice a len cap, .int .i64 left] w fun e w' => ∃ q : Int, e = .returned (.int .i64 q) ∧ (q = -1 ∨ 0 ≤ q ∧ q + (len : Int) + (tot H len : Int) = left) ∧ w' = w := by
  have HV : Hid (VV w a len cap H) := hv
  have hm : len ≤ maxLen := Nat.le_trans hv.le hv.mx
  unfold maxLen at hm
  have h1 : wrap64 (left - (len : Int)) = left - (len : Int) := by unfold wrap64; omega
  clear hv
  by_cases h : (len : Int) ≤ left
  · have h2 : decide (left - (len : Int) < 0) = false := by simp; omega
    go_enter Try.func26, Try.ntmps26
    go_wp2_with fail
    clear h2 h1
    go_loop [1, 5] (fun q i => ∃ (k : Nat) (p : Int), k ≤ len ∧ i = .int .i64 k ∧ q = .int .i64 p ∧ 0 ≤ p ∧ p + (len : Int) + (tot H k : Int) = left) (fun _ i => len - (intOf i).toNat)
    case atStart => exact ⟨0, left - (len : Int), Nat.zero_le _, rfl, rfl, by omega, by simp [tot]⟩
    case round =>
      obtain ⟨k, p, hk, rfl, rfl, hp0, hp⟩ := hrel
      by_cases hlt : k < len
      · obtain ⟨b, off, x, c, rfl, hc, hvec, hle, hcm⟩ := HV.out.row k hlt
        have k1 : (k : Int) < (len : Int) := by omega
        have k0 : (0 : Int) ≤ (k : Int) := by omega
        have hS := szI10_any x (row H k).length c p w (Nat.le_trans hle hcm) ⟨hp0, by omega⟩
        have HT : Hid (tot H (k + 1) = tot H k + (row H k).length) := rfl
        by_cases hq : ((row H k).length : Int) ≤ p
        · rw [if_pos hq] at hS
          have h2 : decide (p - ((row H k).length : Int) < 0) = false := by simp; omega
          clear hvec
          go_wp2_with (go_at_call 64; refine hS.mono ?_; rintro e w' ⟨rfl, hw'⟩; rw [hw']; clear hw')
          go_round
          case rel => exact ⟨k + 1, p - ((row H k).length : Int), by omega, by go_num, rfl, by omega, by rw [HT.out]; omega⟩
          case measure => simp [intOf]; omega
        · rw [if_neg hq] at hS
          clear hvec
          go_wp2_with (go_at_call 64; refine hS.mono ?_; rintro e w' ⟨rfl, hw'⟩; rw [hw']; clear hw')
          go_ret
          exact ⟨-1, rfl, .inl rfl, rfl⟩
      · have e : len = k := by omega
        subst e
        go_wp2
        go_ret
        exact ⟨p, rfl, .inr ⟨hp0, hp⟩, rfl⟩
  · have h2 : decide (left - (len : Int) < 0) = true := by simp; omega
    go_enter Try.func26, Try.ntmps26
    go_wp2
    go_ret
    exact ⟨-1, rfl, .inl rfl, rfl⟩

/-- The first k rows, the others none. -/
def prt (H : List (List Int)) (k : Nat) : List (List Int) := H.take k ++ List.replicate (H.length - k) []
theorem prt_len {H : List (List Int)} {k : Nat} (hk : k ≤ H.length) : (prt H k).length = H.length := by simp [prt]; omega
theorem prt_full (H : List (List Int)) : prt H H.length = H := by simp [prt]
theorem prt_set {H : List (List Int)} {k : Nat} (hk : k < H.length) : (prt H k).set k (row H k) = prt H (k + 1) := by
  apply List.ext_getElem
  · simp [prt]; omega
  · intro i h1 h2
    rw [List.getElem_set]
    have hi : i < H.length := by simp [prt] at h1; omega
    by_cases e : k = i
    · subst e
      rw [if_pos rfl]
      simp [prt, row, List.getD, hk]
      rw [List.getElem_append_left (by simp; omega)]
      simp
    · rw [if_neg e]
      simp only [prt]
      by_cases hlt : i < k
      · rw [List.getElem_append_left (by simp; omega), List.getElem_append_left (by simp; omega)]
        simp
      · rw [List.getElem_append_right (by simp; omega), List.getElem_append_right (by simp; omega)]
        simp
theorem prt_row {H : List (List Int)} {k : Nat} (hk : k < H.length) : (prt H k).map icl = (prt H k).map icl := rfl
theorem rowOf_ow {w : World} {b : Nat} {xs : List Int} (h : RowOf w b xs) (hm : xs.length ≤ maxLen) : Cel.ow w (icl xs) (.slice (some ⟨b, 0, none⟩) xs.length xs.length) (fun g => g = b) :=
  ow_icl.2 ⟨_, _, some b, rfl, OSo.of (OI.own (h.own hm)), fun g => by simp [eq_comm]⟩

set_option maxRecDepth 100000 in
set_option maxHeartbeats 1600000 in
theorem toII_any (a : Option Addr) (len cap : Nat) (H : List (List Int)) (w : World) (hv : VV w a len cap H) (hl : len ≤ 1048576) (hr : ∀ i, i < len → (row H i).length ≤ 17592186044416) :
    Calls Try.prog 28 #[.slice a len cap] w fun e w' => e = .returned (.slice (some ⟨w.heap.size, 0, none⟩) len len) ∧ NewO w w' (iicl H) (.slice (some ⟨w.heap.size, 0, none⟩) len len) := by
  have HV : Hid (VV w a len cap H) := hv
  have HL : Hid (H.length = len) := hv.n
  have HR : Hid (∀ i, i < len → (row H i).length ≤ 17592186044416) := hr
  have hmk := run_make_row' (P := Try.prog) 33 24 (.slice none 0 0) 24 Try.underlying33 infoSl10 rfl .i64 .i64 len (by omega) (by omega)
  have HS : Hid (∃ us f, OSl (w.alloc (.cells (madeCells #[.slice none 0 0] len) 24)) 1 w.heap.size 0 len len us ∧ owL (w.alloc (.cells (madeCells #[.slice none 0 0] len) 24)) ((prt H 0).map icl) us f ∧ (∀ b, f b → w.heap.size < b) ∧ Below w.heap.size w (w.alloc (.cells (madeCells #[.slice none 0 0] len) 24))) := by
    have h := osl_made w #[.slice none 0 0] 1 len 24 rfl (by omega) (by unfold maxLen; omega)
    rw [Nat.mul_one] at h
    refine ⟨_, fun _ => False, h, ?_, fun _ h => absurd h id, one_alloc10 _ _⟩
    have e1 : (prt H 0).map icl = List.replicate len (icl []) := by simp [prt, hv.n]
    have e2 : (List.replicate len (#[Value.slice none 0 0] : Array Value).toList).flatten = List.replicate len (.slice none 0 0) := by simp
    rw [e1, e2]
    exact owL_nils len
  clear hv hr
  go_enter Try.func28, Try.ntmps28
  go_wp2_with fail
  clear hmk
  generalize w.alloc (.cells (madeCells #[.slice none 0 0] len) 24) = W0 at *
  go_loopw [4] (fun i wr => ∃ k : Nat, k ≤ len ∧ i = .int .i64 k ∧ ∃ us f, OSl wr 1 w.heap.size 0 len len us ∧ owL wr ((prt H k).map icl) us f ∧ (∀ b, f b → w.heap.size < b) ∧ Below w.heap.size w wr) (fun i _ => len - (intOf i).toNat)
  case atStart => exact ⟨0, Nat.zero_le _, rfl, HS.out⟩
  case round =>
    obtain ⟨k, hk, rfl, us, f, ho, hL, hf, hb⟩ := hrel
    by_cases hlt : k < len
    · obtain ⟨b, off, x, c, rfl, hc, hvec, hle, hcm⟩ := (HV.out.below hb).row k hlt
      have k1 : (k : Int) < (len : Int) := by omega
      have k0 : (0 : Int) ≤ (k : Int) := by omega
      have hC := copy_any x (row H k).length c (row H k) wr hvec (HR.out k hlt)
      have HP : Hid (∀ (w1 : World) (b1 : Nat), wr.heap.size ≤ b1 → RowOf w1 b1 (row H k) → Below wr.heap.size wr w1 → (∃ v, w1.cell? ⟨w.heap.size, k, none⟩ = some v) ∧ w1.frozen? ⟨w.heap.size, k, none⟩ = false ∧
          ∃ us f, OSl (w1.setCell ⟨w.heap.size, k, none⟩ (.slice (some ⟨b1, 0, none⟩) (row H k).length (row H k).length)) 1 w.heap.size 0 len len us ∧ owL (w1.setCell ⟨w.heap.size, k, none⟩ (.slice (some ⟨b1, 0, none⟩) (row H k).length (row H k).length)) ((prt H (k + 1)).map icl) us f ∧ (∀ b, f b → w.heap.size < b) ∧ Below w.heap.size w (w1.setCell ⟨w.heap.size, k, none⟩ (.slice (some ⟨b1, 0, none⟩) (row H k).length (row H k).length))) := by
        intro w1 b1 hb1 hro hbw
        have hkH : k < (prt H k).length := by rw [prt_len (by rw [HL.out]; omega), HL.out]; exact hlt
        obtain ⟨u, fu, hu, hcu, hsub, hput⟩ := owL_at hL (map_row hkH)
        have ho1 := ho.below hbw ho.blk
        have hcell : w1.cell? ⟨w.heap.size, k, none⟩ = some u := by
          have := ho1.cell k (by omega)
          rw [Nat.zero_add] at this
          exact this.trans hu
        have hfz : w1.frozen? ⟨w.heap.size, k, none⟩ = false := by
          have := ho1.free k (by omega)
          rwa [Nat.zero_add] at this
        have hbl := ho.blk
        have hlt' : ∀ b, f b → b < wr.heap.size := owL_lt hL
        have hw : Wrt (fun b => b = w.heap.size) w1 (w1.setCell ⟨w.heap.size, k, none⟩ (.slice (some ⟨b1, 0, none⟩) (row H k).length (row H k).length)) := Wrt.set w1 _ _ _
        have hO := Cel.ow_wrt (rowOf_ow hro (Nat.le_trans hle hcm)) hw (fun b e1 e2 => by omega)
        have hk2 := hput (w1.setCell ⟨w.heap.size, k, none⟩ (.slice (some ⟨b1, 0, none⟩) (row H k).length (row H k).length)) (icl (row H k)) _ (fun g => g = b1) (by have := hbw.size; simp [World.setCell]; omega) hO
          (fun b hb2 _ => by
            rw [hw.block b (Nat.lt_of_lt_of_le (hlt' b hb2) hbw.size) (by have := hf b hb2; omega)]
            exact hbw.block b (hlt' b hb2))
          (fun b e1 hb2 => by have := hlt' b hb2; omega)
        refine ⟨⟨u, hcell⟩, hfz, us.set k (.slice (some ⟨b1, 0, none⟩) (row H k).length (row H k).length), fun b => b = b1 ∨ f b ∧ ¬ fu b, ?_, ?_, fun b hb2 => ?_, (hb.trans (hbw.mono hb.size)).setCell (p := ⟨w.heap.size, k, none⟩) (Nat.le_refl _) _⟩
        · have := osl_put ho1 (j := k) (by omega) (.slice (some ⟨b1, 0, none⟩) (row H k).length (row H k).length)
          rwa [Nat.zero_add] at this
        · rw [← prt_set (by rw [HL.out]; exact hlt), List.map_set]
          exact hk2
        · rcases hb2 with h | ⟨h, _⟩
          · omega
          · exact hf b h
      clear hvec ho hL hf hb
      go_wp2_with fail
      refine hC.mono ?_
      rintro e w1 ⟨b1, rfl, hb1, hro, hbw⟩
      obtain ⟨⟨v, hcell⟩, hfz, hn⟩ := HP.out w1 b1 hb1 hro hbw
      clear hC hro hbw
      go_wp2
      go_roundw
      case rel => exact ⟨k + 1, by omega, by go_num, hn⟩
      case measure => simp [intOf]; omega
    · have e : len = k := by omega
      subst e
      have HN : Hid (NewO w wr (iicl H) (.slice (some ⟨w.heap.size, 0, none⟩) len len)) := by
        have e1 : prt H len = H := by rw [← HL.out]; exact prt_full H
        rw [e1] at hL
        refine ⟨fun b => b = w.heap.size ∨ f b, ?_, fun b h => by rcases h with h | h; omega; have := hf b h; omega, hb⟩
        rw [iicl, HL.out]
        exact ⟨_, _, us, some w.heap.size, f, rfl, OSo.of ho, hL, fun b e h => by cases e; have := hf _ h; omega, fun b => by simp [eq_comm]⟩
      go_wp2
      go_ret
      exact ⟨rfl, HN.out⟩
end Go.Proofs.Ytggieamhbfdmhaa

/-
  The laws' own helpers on lists of lists of numbers that are one's own: markInt64SS, heldInt64SS; eqInt64SS and likeVectors of two that are alike.
-/
namespace Go.Proofs.Ytggieamhbfdmhaa
set_option linter.unusedVariables false
set_option linter.unusedSimpArgs false
open Go.RowKit Go.Sort

theorem Touch.wrt {g : Nat} {w w' : World} (h : Touch g w w') : Wrt (fun b => b = g) w w' := (Wrt.of_grown h.grown).mono (fun b _ e => by simpa using e.symm)
theorem mark_ow (u : Value) (k0 : Nat) (Z : List Int) (f : Fp) (w : World) (h : Cel.ow w (icl Z) u f) (hk : k0 ≤ 10000000) (hn : Z.length ≤ 10000000) :
    Calls Try.prog 36 #[u, .int .i64 (k0 : Int)] w fun e w' => e = .returned (.int .i64 ((k0 : Int) + (Z.length : Int))) ∧ Cel.ow w' (icl (marks Z.length k0)) u f ∧ Wrt f w w' := by
  obtain ⟨a, c, G, rfl, ho, hf⟩ := ow_icl.1 h
  rcases ho.oi with ⟨rfl, rfl, rfl⟩ | ⟨g, off, rfl, ho', rfl⟩
  · refine (mark0_any a 0 (k0 : Int) w).mono ?_
    rintro e w' ⟨rfl, rfl⟩
    exact ⟨by simp, h, Wrt.refl _ _⟩
  · refine (markN_any g off c k0 _ (k0 : Int) Z w ho' rfl hk hn).mono ?_
    rintro e w' ⟨rfl, h1, h2⟩
    refine ⟨rfl, ow_icl.2 ⟨_, c, some g, by rw [marks_len], by rw [marks_len]; exact OSo.of h1, hf⟩, h2.wrt.mono (fun b _ e => (hf b).2 (by rw [e]))⟩
theorem held_ow (u : Value) (k0 n : Nat) (f : Fp) (w : World) (h : Cel.ow w (icl (marks n k0)) u f) (hk : k0 ≤ 10000000) (hn : n ≤ 10000000) :
    Calls Try.prog 37 #[u, .int .i64 (k0 : Int)] w fun e w' => e = .returned (.int .i64 ((k0 : Int) + (n : Int))) ∧ w' = w := by
  obtain ⟨a, c, G, rfl, ho, hf⟩ := ow_icl.1 h
  have := ho.slc
  rw [marks_len]
  exact heldC_any a c k0 n (k0 : Int) w this rfl hk hn

theorem set_same {α : Type} : ∀ {l : List α} {k : Nat} {x : α}, l[k]? = some x → l.set k x = l
  | [], k, x, h => by simp at h
  | y :: l, 0, x, h => by simp at h; rw [h]; rfl
  | y :: l, k + 1, x, h => by rw [List.set_cons_succ, set_same (by simpa using h)]
/-- The lists of which the first i are marked from k on. -/
def mkd (H : List (List Int)) (k : Nat) : Nat → List (List Int)
  | 0 => H
  | i + 1 => (mkd H k i).set i (marks (row H i).length (k + tot H i))
theorem mkd_len (H : List (List Int)) (k : Nat) : ∀ i, (mkd H k i).length = H.length
  | 0 => rfl
  | i + 1 => by rw [mkd, List.length_set, mkd_len H k i]
theorem mkd_row (H : List (List Int)) (k : Nat) : ∀ i j, row (mkd H k i) j = if j < i ∧ j < H.length then marks (row H j).length (k + tot H j) else row H j
  | 0, j => by simp [mkd]
  | i + 1, j => by
    rw [mkd]
    by_cases hi : i < H.length
    · rw [row_set (by rw [mkd_len]; exact hi), mkd_row H k i j]
      by_cases e : j = i
      · subst e
        rw [if_pos rfl, if_pos ⟨by omega, hi⟩]
      · rw [if_neg e]
        by_cases h : j < i ∧ j < H.length
        · rw [if_pos h, if_pos ⟨by omega, h.2⟩]
        · rw [if_neg h, if_neg (fun h' => h ⟨by omega, h'.2⟩)]
    · rw [List.set_eq_of_length_le (by rw [mkd_len]; omega), mkd_row H k i j]
      by_cases h : j < i ∧ j < H.length
      · rw [if_pos h, if_pos ⟨by omega, h.2⟩]
      · rw [if_neg h, if_neg (fun h' => h ⟨by omega, h'.2⟩)]
theorem tot_le (H : List (List Int)) {i n : Nat} (h : i ≤ n) : tot H i ≤ tot H n := by
  induction n with
  | zero => obtain rfl : i = 0 := by omega
            exact Nat.le_refl _
  | succ n ih =>
    rcases Nat.le_succ_iff.1 h with h | rfl
    · have := ih h
      simp only [tot]; omega
    · exact Nat.le_refl _

set_option maxRecDepth 100000 in
set_option maxHeartbeats 1600000 in
theorem markII_any (a : Option Addr) (c k0 : Nat) (H : List (List Int)) (fp : Fp) (w : World) (h : Cel.ow w (iicl H) (.slice a H.length c) fp) (hk : k0 ≤ 1000) (hn : H.length ≤ 1048576) (ht : tot H H.length ≤ 9000000) :
    Calls Try.prog 34 #[.slice a H.length c, .int .i64 (k0 : Int)] w fun e w' => e = .returned (.int .i64 ((k0 + tot H H.length : Nat) : Int)) ∧ Cel.ow w' (iicl (mkd H k0 H.length)) (.slice a H.length c) fp ∧ Wrt fp w w' := by
  generalize hlen : H.length = n at *
  have HL : Hid (H.length = n) := hlen
  have HS : Hid (Cel.ow w (.sl 1 n ((mkd H k0 0).map icl)) (.slice a n c) fp) := by rw [Hid]; rw [iicl, hlen] at h; exact h
  have HT : Hid (tot H n ≤ 9000000) := ht
  clear h ht hlen
  go_enter Try.func34, Try.ntmps34
  go_wp2_with fail
  go_loopw [1, 5] (fun q i wr => ∃ k : Nat, k ≤ n ∧ i = .int .i64 k ∧ q = .int .i64 ((k0 + tot H k : Nat) : Int) ∧ Cel.ow wr (.sl 1 n ((mkd H k0 k).map icl)) (.slice a n c) fp ∧ Wrt fp w wr) (fun _ i _ => n - (intOf i).toNat)
  case atStart => exact ⟨0, Nat.zero_le _, rfl, rfl, HS.out, Wrt.refl _ _⟩
  case round =>
    obtain ⟨k, hk', rfl, rfl, hO, hW⟩ := hrel
    by_cases hlt : k < n
    · obtain ⟨a0, c0, us, G, f, e0, hs, hL, hG, hf⟩ := hO
      cases e0
      have hkH : k < (mkd H k0 k).length := by rw [mkd_len, HL.out]; exact hlt
      obtain ⟨u, fu, hu, hcu, hsub, hput⟩ := owL_at hL (map_row hkH)
      have hrk : row (mkd H k0 k) k = row H k := by rw [mkd_row, if_neg (by omega)]
      rw [hrk] at hcu
      obtain ⟨g, off, rfl, rfl, hcell, _⟩ := hs.cell (by omega)
      have hck : wr.cell? ⟨g, off + k, none⟩ = some u := (hcell k (by omega)).trans hu
      have HTT : Hid (tot H (k + 1) = tot H k + (row H k).length) := rfl
      have htk := tot_le H (show k + 1 ≤ n by omega)
      have ht9 := HT.out
      have hrl : (row H k).length ≤ 9000000 := by have := HTT.out; omega
      have hM := mark_ow u (k0 + tot H k) (row H k) fu wr hcu (by have := HTT.out; omega) (by omega)
      have k1 : (k : Int) < (n : Int) := by omega
      have k0' : (0 : Int) ≤ (k : Int) := by omega
      have HP : Hid (∀ w1 : World, Cel.ow w1 (icl (marks (row H k).length (k0 + tot H k))) u fu → Wrt fu wr w1 → Cel.ow w1 (.sl 1 n ((mkd H k0 (k + 1)).map icl)) (.slice (some ⟨g, off, none⟩) n c) fp ∧ Wrt fp w w1) := fun w1 hc1 hw1 => by
        have hGg : ¬ fu g := fun h => hG g rfl (hsub g h)
        have hlt' : ∀ b, f b → b < wr.heap.size := owL_lt hL
        have hk2 := hput w1 (icl (marks (row H k).length (k0 + tot H k))) u fu hw1.size hc1 (fun b hb hnb => hw1.block b (hlt' b hb) hnb) (fun b hb _ => hb)
        have e1 : us.set k u = us := set_same hu
        rw [e1] at hk2
        refine ⟨⟨_, c, us, some g, _, rfl, hs.wrt hw1 (fun b hb h => by cases hb; exact hGg h), (by rw [mkd, List.map_set]; exact hk2), fun b hb h => ?_, fun b => ?_⟩, hW.trans hw1 (fun b _ hb => (hf b).2 (.inr (hsub b hb)))⟩
        · cases hb
          rcases h with h | ⟨h, _⟩
          · exact hGg h
          · exact hG g rfl h
        · rw [hf b]
          constructor
          · rintro (h | h)
            · exact .inl h
            · by_cases hb : fu b
              · exact .inr (.inl hb)
              · exact .inr (.inr ⟨h, hb⟩)
          · rintro (h | h | ⟨h, _⟩)
            · exact .inl h
            · exact .inr (hsub b h)
            · exact .inr h
      have hcast : (((k0 + tot H k : Nat) : Int)) + ((row H k).length : Int) = ((k0 + tot H (k + 1) : Nat) : Int) := by rw [HTT.out]; omega
      rw [hcast] at hM
      have hshape : ∃ ua uc, u = .slice ua (row H k).length uc := by
        obtain ⟨ua, uc, Gu, e, _⟩ := ow_icl.1 hcu
        exact ⟨ua, uc, e⟩
      clear hs hL hG hf hcu hput hcell hW hu
      generalize k0 + tot H k = q0 at *
      generalize hq1 : ((k0 + tot H (k + 1) : Nat) : Int) = q1 at *
      have HQ : Hid (q1 = ((k0 + tot H (k + 1) : Nat) : Int)) := hq1.symm
      clear hq1
      obtain ⟨ua, uc, rfl⟩ := hshape
      go_wp2_with (go_at_call 36; refine hM.mono ?_; rintro e w1 ⟨rfl, hc1, hw1⟩)
      go_roundw
      case rel => exact ⟨k + 1, by omega, by go_num, by rw [HQ.out], HP.out w1 hc1 hw1⟩
      case measure => simp [intOf]; omega
    · have e : n = k := by omega
      subst e
      go_wp2
      go_ret
      exact ⟨rfl, by rw [iicl, mkd_len, HL.out]; exact hO, hW⟩

theorem vv_of_vw {w : World} {a : Option Addr} {c : Nat} {H : List (List Int)} (h : Cel.vw w (iicl H) (.slice a H.length c)) (hf : ∀ i, i < H.length → Fits (row H i)) : VV w a H.length c H := by
  obtain ⟨a0, c0, us, e0, h1, h2, h3, h4, hL⟩ := h
  cases e0
  refine ⟨rfl, h1, h2, fun i hi => ?_⟩
  rcases h4 with h4 | ⟨b, off, rfl, hc⟩
  · omega
  obtain ⟨u, hu, hv⟩ := vwL_at hL (map_row hi)
  obtain ⟨x, cx, rfl, hvec, hle, hmx⟩ := vw_icl hv (hf i hi)
  exact ⟨b, off, x, cx, rfl, (hc i (by omega)).trans hu, hvec, hle, hmx⟩

theorem drew_more10 {w w' : World} {q x : Nat} (h : ∃ n, w' = (w.drewN (q + x)).drewN n) : ∃ n, w' = w.drewN (q + n) := by
  obtain ⟨n, rfl⟩ := h
  exact ⟨x + n, by rw [World.drewN_drewN, Nat.add_assoc]⟩
set_option maxRecDepth 100000 in
set_option maxHeartbeats 800000 in
theorem eqII_any (a a' : Option Addr) (n c c' : Nat) (H : List (List Int)) (w : World) (h : VV w a n c H) (h' : VV w a' n c' H) :
    Calls Try.prog 32 #[.slice a n c, .slice a' n c'] w fun e w' => e = .returned (.bool true) ∧ ∃ q, w' = w.drewN q := by
  have hm : n ≤ maxLen := Nat.le_trans h.le h.mx
  unfold maxLen at hm
  have HV : Hid (VV w a n c H) := h
  have HV' : Hid (VV w a' n c' H) := h'
  clear h h'
  go_enter Try.func32, Try.ntmps32
  go_wp2
  go_loopw [5] (fun i wr => ∃ k : Nat, k ≤ n ∧ i = .int .i64 k ∧ ∃ q, wr = w.drewN q) (fun i _ => n - (intOf i).toNat)
  case atStart => exact ⟨0, Nat.zero_le _, rfl, 0, rfl⟩
  case round =>
    obtain ⟨k, hk, rfl, q, rfl⟩ := hrel
    by_cases hlt : k < n
    · obtain ⟨b, off, x, cx, rfl, hc, hvec, hle, hcm⟩ := HV.out.row k hlt
      obtain ⟨b', off', x', cx', rfl, hc', hvec', hle', hcm'⟩ := HV'.out.row k hlt
      have hi1 : (k : Int) < (n : Int) := by omega
      have hi0 : (0 : Int) ≤ (k : Int) := by omega
      have hE := fun (X : Nat) => eq_any x x' (row H k).length cx (row H k).length cx' (row H k) (row H k) (w.drewN X) (hvec.drewN X) (hvec'.drewN X) (Nat.le_trans hle hcm)
      have hd : decide (row H k = row H k) = true := by simp
      rw [hd] at hE
      clear hvec hvec'
      have hmix := mixedR
      go_wp2_with fail
      go_quiet (first | (go_at_call 31; exact (hE (q + _)).mono (fun e w' h => ⟨h.1, drew_more10 h.2⟩)))
      go_wp2
      go_roundw
      case rel => exact ⟨k + 1, by omega, by go_num, _, rfl⟩
      case measure => simp [intOf]; omega
    · go_wp2
      go_ret
      exact ⟨rfl, _, rfl⟩
end Go.Proofs.Ytggieamhbfdmhaa
