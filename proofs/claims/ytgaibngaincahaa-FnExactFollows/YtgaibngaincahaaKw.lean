/-
  Several texts in one: Lgm.
-/
import Derived.Test.YtgaibngaincahaaGs
import Derived.Test.YtgaibngaincahaaJn
/-
  Lists of texts in memory (general): to be read, as trees of cells; the laws' own helpers on them: szStringS, toStringS, eqStringS, likeTexts, markStringS, heldStringS.
-/
namespace Go.Proofs.Ytgaibngaincahaa
set_option linter.unusedVariables false
set_option linter.unusedSimpArgs false
open Go.RowKit Go.Sort

/-- A list of texts, to be read. -/
def TxS (w : World) (a : Option Addr) (T : List (List UInt8)) : Prop := T.length = 0 ∨ ∃ b off, a = some ⟨b, off, none⟩ ∧ ∀ i, i < T.length → w.cell? ⟨b, off + i, none⟩ = some (.string (sv (T.getD i [])))
theorem TxS.below {w w' : World} {a : Option Addr} {T : List (List UInt8)} (h : TxS w a T) (hb : Below w.heap.size w w') : TxS w' a T := by
  rcases h with h | ⟨b, off, ha, hc⟩
  · exact .inl h
  · exact .inr ⟨b, off, ha, fun i hi => (hb.cell (World.block_lt_of_cell? _ _ (hc i hi))).trans (hc i hi)⟩
theorem TxS.grew {w w' : World} {a : Option Addr} {T : List (List UInt8)} (h : TxS w a T) (hg : Grew w w') : TxS w' a T := h.below hg.1
theorem TxS.drewN {w : World} {a : Option Addr} {T : List (List UInt8)} (h : TxS w a T) (n : Nat) : TxS (w.drewN n) a T := h
/-- A list of texts as a tree of cells. -/
def scl (T : List (List UInt8)) : Cel := .sl 1 T.length (pl (svs T))
theorem svs_len (T : List (List UInt8)) : (svs T).length = T.length := by simp [svs]
theorem svs_get {T : List (List UInt8)} {i : Nat} (h : i < T.length) : (svs T)[i]? = some (.string (sv (T.getD i []))) := by simp [svs, h]
theorem svs_drop (T : List (List UInt8)) (k : Nat) : svs (T.drop k) = (svs T).drop k := by simp [svs]
theorem svs_take (T : List (List UInt8)) (k : Nat) : svs (T.take k) = (svs T).take k := by simp [svs]
theorem ow_scl {w : World} {T : List (List UInt8)} {u : Value} {fp : Fp} : Cel.ow w (scl T) u fp ↔ ∃ a c G, u = .slice a T.length c ∧ OSo w 1 a T.length c (svs T) G ∧ ∀ b, fp b ↔ G = some b := by
  constructor
  · rintro ⟨a, c, us, G, f, rfl, ho, hl, hn, hf⟩
    obtain ⟨rfl, h0⟩ := owL_pl.1 hl
    exact ⟨a, c, G, rfl, ho, fun b => (hf b).trans ⟨fun h => h.elim id (fun h => absurd h (h0 b)), .inl⟩⟩
  · rintro ⟨a, c, G, rfl, ho, hf⟩
    exact ⟨a, c, _, G, fun _ => False, rfl, ho, owL_pl.2 ⟨rfl, fun _ h => h⟩, fun _ _ h => h, fun b => (hf b).trans ⟨.inl, fun h => h.elim id False.elim⟩⟩
theorem vw_scl {w : World} {T : List (List UInt8)} {u : Value} (h : Cel.vw w (scl T) u) : ∃ a c, u = .slice a T.length c ∧ TxS w a T ∧ T.length ≤ c ∧ c ≤ maxLen := by
  obtain ⟨a, c, us, rfl, h1, h2, h3, h, hl⟩ := h
  have e := vwL_pl.1 hl
  subst e
  refine ⟨a, c, rfl, ?_, h1, h2⟩
  rcases h with h | ⟨b, off, ha, hc⟩
  · exact .inl h
  · refine .inr ⟨b, off, ha, fun i hi => ?_⟩
    rw [hc i (by omega), svs_get hi]
theorem it_scl {w : World} {a : Option Addr} {c lo hi : Nat} {T : List (List UInt8)} (h : It w [scl T] [.slice a T.length c] lo hi) : TxS w a T ∧ T.length ≤ c ∧ c ≤ maxLen := by
  obtain ⟨a', c', e, h1, h2, h3⟩ := vw_scl h.vw1
  cases e
  exact ⟨h1, h2, h3⟩
theorem OSo.os {w : World} {a : Option Addr} {c : Nat} {T : List (List UInt8)} {G : Option Nat} (h : OSo w 1 a T.length c (svs T) G) : (T = [] ∧ c = 0 ∧ G = none) ∨ ∃ g off, a = some ⟨g, off, none⟩ ∧ OS w g off T.length c T ∧ G = some g := by
  rcases h with ⟨h1, h2, h3, h4, _⟩ | h
  · exact .inl ⟨List.eq_nil_of_length_eq_zero h1, h2, h4⟩
  · exact .inr h
/-- What is appended to a list of texts of one's own, or to none. -/
theorem TxS.news {w : World} {a : Option Addr} {T : List (List UInt8)} (h : TxS w a T) : T.length = 0 ∨ ∃ ad, a = some ad ∧ ∀ j u, (svs T)[j]? = some u → w.cell? (ad.add j) = some u := by
  rcases h with h | ⟨b, off, rfl, hc⟩
  · exact .inl h
  · refine .inr ⟨_, rfl, fun j u hu => ?_⟩
    have hl := (List.getElem?_eq_some_iff.1 hu).1
    rw [svs_len] at hl
    rw [svs_get hl] at hu
    cases hu
    rw [add_lit0]
    exact hc j hl
theorem TxS.drop {w : World} {b off : Nat} {T : List (List UInt8)} (h : TxS w (some ⟨b, off, none⟩) T) (k : Nat) : TxS w (some ⟨b, off + k, none⟩) (T.drop k) := by
  rcases h with h | ⟨b', off', e, hc⟩
  · exact .inl (by rw [List.length_drop]; omega)
  · cases e
    refine .inr ⟨_, _, rfl, fun i hi => ?_⟩
    rw [List.length_drop] at hi
    rw [Nat.add_assoc, hc (k + i) (by omega)]
    simp [List.getD_eq_getElem?_getD, List.getElem?_drop]
theorem TxS.take {w : World} {a : Option Addr} {T : List (List UInt8)} (h : TxS w a T) (k : Nat) : TxS w a (T.take k) := by
  rcases h with h | ⟨b, off, rfl, hc⟩
  · exact .inl (by rw [List.length_take]; omega)
  · refine .inr ⟨_, _, rfl, fun i hi => ?_⟩
    rw [List.length_take] at hi
    rw [hc i (by omega)]
    simp [List.getD_eq_getElem?_getD, List.getElem?_take_of_lt (show i < k by omega)]

/-- How many texts and bytes there are in the first k. -/
def totS (T : List (List UInt8)) : Nat → Nat
  | 0 => 0
  | k + 1 => totS T k + (T.getD k []).length
theorem totS_at (T : List (List UInt8)) : ∀ {i k : Nat}, i < k → (T.getD i []).length ≤ totS T k
  | i, 0, h => by omega
  | i, k + 1, h => by
    rcases Nat.lt_succ_iff_lt_or_eq.1 h with h | rfl
    · have := totS_at T h
      simp only [totS]; omega
    · simp only [totS]; omega
/-- Texts as a value may hold them. -/
def LongT (T : List (List UInt8)) : Prop := ∀ i, i < T.length → (T.getD i []).length ≤ 9223372036854775807

attribute [local irreducible] sv
set_option maxRecDepth 100000 in
set_option maxHeartbeats 800000 in
/-- What is left of the room, or -1. -/
theorem szS_any (a : Option Addr) (cap : Nat) (T : List (List UInt8)) (left : Int) (w : World) (hv : TxS w a T) (hlg : LongT T) (hm : T.length ≤ maxLen) (hl : 0 ≤ left ∧ left ≤ 1048576) :
    Calls Try.prog 74 #[.slice a T.length cap, .int .i64 left] w fun e w' => ∃ q : Int, e = .returned (.int .i64 q) ∧ (q = -1 ∨ 0 ≤ q ∧ q + (T.length : Int) + (totS T T.length : Int) = left) ∧ w' = w := by
  have HV : Hid (TxS w a T) := hv
  unfold maxLen at hm
  have h1 : wrap64 (left - (T.length : Int)) = left - (T.length : Int) := by unfold wrap64; omega
  clear hv
  by_cases h : (T.length : Int) ≤ left
  · have h2 : decide (left - (T.length : Int) < 0) = false := by simp; omega
    go_enter Try.func74, Try.ntmps74
    go_wp2_with fail
    clear h2 h1
    go_loop [1, 5] (fun q i => ∃ (k : Nat) (p : Int), k ≤ T.length ∧ i = .int .i64 k ∧ q = .int .i64 p ∧ 0 ≤ p ∧ p + (T.length : Int) + (totS T k : Int) = left) (fun _ i => T.length - (intOf i).toNat)
    case atStart => exact ⟨0, left - (T.length : Int), Nat.zero_le _, rfl, rfl, by omega, by simp [totS]⟩
    case round =>
      obtain ⟨k, p, hk, rfl, rfl, hp0, hp⟩ := hrel
      by_cases hlt : k < T.length
      · rcases HV.out with h0 | ⟨b, off, rfl, hc⟩
        · omega
        have hck := hc k hlt
        have hll := hlg k hlt
        clear hc
        have k1 : (k : Int) < (T.length : Int) := by omega
        have k0 : (0 : Int) ≤ (k : Int) := by omega
        have HT : Hid (totS T (k + 1) = totS T k + (T.getD k []).length) := rfl
        generalize T.getD k [] = t at *
        have hsz := sv_size t
        have hwr : wrap64 (p - (t.length : Int)) = p - (t.length : Int) := by unfold wrap64; omega
        by_cases hq : (t.length : Int) ≤ p
        · have h3 : decide (p - (t.length : Int) < 0) = false := by simp; omega
          go_wp2
          go_round
          case rel => exact ⟨k + 1, p - (t.length : Int), by omega, by go_num, rfl, by omega, by rw [HT.out]; omega⟩
          case measure => simp [intOf]; omega
        · have h3 : decide (p - (t.length : Int) < 0) = true := by simp; omega
          go_wp2
          go_ret
          exact ⟨-1, rfl, .inl rfl, rfl⟩
      · have hkl : k = T.length := by omega
        have HP : Hid (p + (T.length : Int) + (totS T T.length : Int) = left) := by rw [hkl] at hp; exact hp
        subst hkl
        go_wp2
        go_ret
        exact ⟨p, rfl, .inr ⟨hp0, HP.out⟩, rfl⟩
  · have h2 : decide (left - (T.length : Int) < 0) = true := by simp; omega
    go_enter Try.func74, Try.ntmps74
    go_wp2
    go_ret
    exact ⟨-1, rfl, .inl rfl, rfl⟩

/-- What toStringS holds: the first k are copied. -/
def cpS (T : List (List UInt8)) (k : Nat) : List (List UInt8) := T.take k ++ List.replicate (T.length - k) []
theorem cpS_len {T : List (List UInt8)} {k : Nat} (h : k ≤ T.length) : (cpS T k).length = T.length := by simp [cpS]; omega
theorem cpS_zero (T : List (List UInt8)) : cpS T 0 = List.replicate T.length [] := by simp [cpS]
theorem cpS_all (T : List (List UInt8)) : cpS T T.length = T := by simp [cpS]
theorem cpS_step {T : List (List UInt8)} {k : Nat} (h : k < T.length) : (cpS T k).set k (T.getD k []) = cpS T (k + 1) := by
  unfold cpS
  have e1 : (T.take k).length = k := by rw [List.length_take]; omega
  obtain ⟨d, hd⟩ : ∃ d, T.length - k = d + 1 := ⟨T.length - k - 1, by omega⟩
  have e2 : T.length - (k + 1) = d := by omega
  have e3 : T.getD k [] = T[k] := by simp [h]
  rw [hd, e2, List.replicate_succ, List.set_append_right _ _ (by omega), e1, Nat.sub_self, List.set_cons_zero, List.take_succ_eq_append_getElem h, e3, List.append_assoc]
  rfl
theorem made_os (w : World) (n : Nat) (hn : n ≤ maxLen) : OS (w.alloc (.cells (madeCells #[.string ⟨#[]⟩] n) 9)) w.heap.size 0 n n (List.replicate n []) := by
  have h := osl_made w #[.string ⟨#[]⟩] 1 n 9 rfl (by omega) hn
  have e : (List.replicate n (#[Value.string ⟨#[]⟩] : Array Value).toList).flatten = svs (List.replicate n []) := by
    unfold svs
    rw [List.map_replicate]
    have : sv [] = ⟨#[]⟩ := by unfold sv; rfl
    rw [this]
    simp
  rw [e, Nat.mul_one] at h
  exact h
set_option maxRecDepth 100000 in
set_option maxHeartbeats 1600000 in
theorem toS_any (a : Option Addr) (cap : Nat) (T : List (List UInt8)) (w : World) (hv : TxS w a T) (hm : T.length ≤ 1048576) :
    Calls Try.prog 76 #[.slice a T.length cap] w fun e w' => ∃ a' c', e = .returned (.slice a' T.length c') ∧ NewO w w' (scl T) (.slice a' T.length c') := by
  have HV : Hid (TxS w a T) := hv
  have hmk := run_make_row' (P := Try.prog) 33 9 (.string ⟨#[]⟩) 16 Try.underlying33 Try.info9 rfl .i64 .i64 T.length (by omega) (by omega)
  have HS0 : Hid (OS (w.alloc (.cells (madeCells #[.string ⟨#[]⟩] T.length) 9)) w.heap.size 0 T.length T.length (cpS T 0)) := by
    rw [Hid, cpS_zero]
    exact made_os w T.length (by unfold maxLen; omega)
  have HB0 : Hid (Below w.heap.size w (w.alloc (.cells (madeCells #[.string ⟨#[]⟩] T.length) 9))) := (Below.refl _ _).alloc (Nat.le_refl _) _
  clear hv
  go_enter Try.func76, Try.ntmps76
  go_wp2_with fail
  clear hmk
  go_loopw [4] (fun i wr => ∃ k : Nat, k ≤ T.length ∧ i = .int .i64 k ∧ OS wr w.heap.size 0 T.length T.length (cpS T k) ∧ Below w.heap.size w wr) (fun i _ => T.length - (intOf i).toNat)
  case atStart => exact ⟨0, Nat.zero_le _, rfl, HS0.out, HB0.out⟩
  case round =>
    obtain ⟨k, hk, rfl, ho, hb⟩ := hrel
    by_cases hlt : k < T.length
    · rcases HV.out with h0 | ⟨b, off, rfl, hc⟩
      · omega
      have hck := (hb.cell (World.block_lt_of_cell? _ _ (hc k hlt))).trans (hc k hlt)
      have hcg := ho.cellAt hlt
      have hfr := ho.free k (by omega)
      rw [Nat.zero_add] at hcg hfr
      have k1 : (k : Int) < (T.length : Int) := by omega
      have k0 : (0 : Int) ≤ (k : Int) := by omega
      have HO : Hid (OS (wr.setCell ⟨w.heap.size, k, none⟩ (.string (sv (T.getD k [])))) w.heap.size 0 T.length T.length (cpS T (k + 1))) := by
        have := ho.set hlt (T.getD k [])
        rw [Nat.zero_add, cpS_step hlt] at this
        exact this
      have HB : Hid (Below w.heap.size w (wr.setCell ⟨w.heap.size, k, none⟩ (.string (sv (T.getD k []))))) := hb.setCell (p := ⟨w.heap.size, k, none⟩) (Nat.le_refl _) _
      clear ho hb hc
      generalize T.getD k [] = t at *
      go_wp2
      go_roundw
      case rel => exact ⟨k + 1, by omega, by go_num, HO.out, HB.out⟩
      case measure => simp [intOf]; omega
    · have hkl : k = T.length := by omega
      subst hkl
      rw [cpS_all] at ho
      have HE : Hid (NewO w wr (scl T) (.slice (some ⟨w.heap.size, 0, none⟩) T.length T.length)) := ⟨fun b => b = w.heap.size, ow_scl.2 ⟨_, _, some w.heap.size, rfl, OSo.of ho, fun b => by simp [eq_comm]⟩, fun b hb => by omega, hb⟩
      clear ho hb
      go_wp2
      go_ret
      exact ⟨_, _, rfl, HE.out⟩

set_option maxRecDepth 100000 in
set_option maxHeartbeats 1600000 in
theorem eqSV_any (a a' : Option Addr) (cap cap' : Nat) (T : List (List UInt8)) (w : World) (hz : TxS w a T) (hy : TxS w a' T) (hm : T.length ≤ maxLen) :
    Calls Try.prog 78 #[.slice a T.length cap, .slice a' T.length cap'] w fun e w' => e = .returned (.bool true) ∧ Grew w w' := by
  unfold maxLen at hm
  have HZ : Hid (TxS w a T) := hz
  have HY : Hid (TxS w a' T) := hy
  have hne : ((T.length : Int) != (T.length : Int)) = false := by simp
  clear hz hy
  go_enter Try.func78, Try.ntmps78
  go_wp2
  clear hne
  go_loopw [5] (fun i wr => ∃ j : Nat, j ≤ T.length ∧ i = .int .i64 j ∧ ∃ q, wr = w.drewN q) (fun i _ => T.length - (intOf i).toNat)
  case atStart => exact ⟨0, Nat.zero_le _, rfl, 0, rfl⟩
  case round =>
    obtain ⟨j, hj, rfl, q, rfl⟩ := hrel
    by_cases hlt : j < T.length
    · rcases HZ.out with h0 | ⟨b, off, rfl, hc⟩
      · omega
      rcases HY.out with h0 | ⟨b', off', rfl, hc'⟩
      · omega
      have c1 := hc j hlt
      have c2 := hc' j hlt
      have j1 : (j : Int) < (T.length : Int) := by omega
      have j0 : (0 : Int) ≤ (j : Int) := by omega
      generalize T.getD j [] = A at *
      have hb : ((sv A).toList == (sv A).toList) = true := by simp
      clear hc hc'
      go_wp2_with fail
      go_quiet (fail)
      go_wp2
      go_roundw
      case rel => exact ⟨j + 1, by omega, by go_num, _, rfl⟩
      case measure => simp [intOf]; omega
    · have hjl : j = T.length := by omega
      subst hjl
      go_wp2
      go_ret
      exact ⟨rfl, (Grew.refl _).drewN _⟩

set_option maxRecDepth 100000 in
set_option maxHeartbeats 1600000 in
theorem likeSV_any (a a' : Option Addr) (cap cap' : Nat) (T : List (List UInt8)) (w : World) (hz : TxS w a T) (hy : TxS w a' T) (hm : T.length ≤ maxLen) :
    Calls Try.prog 72 #[.slice a T.length cap, .slice a' T.length cap'] w fun e w' => e = .returned (.bool true) ∧ Grew w w' := by
  unfold maxLen at hm
  have HZ : Hid (TxS w a T) := hz
  have HY : Hid (TxS w a' T) := hy
  have hne : ((T.length : Int) != (T.length : Int)) = false := by simp
  clear hz hy
  go_enter Try.func72, Try.ntmps72
  go_wp2
  clear hne
  go_loopw [5] (fun i wr => ∃ j : Nat, j ≤ T.length ∧ i = .int .i64 j ∧ ∃ q, wr = w.drewN q) (fun i _ => T.length - (intOf i).toNat)
  case atStart => exact ⟨0, Nat.zero_le _, rfl, 0, rfl⟩
  case round =>
    obtain ⟨j, hj, rfl, q, rfl⟩ := hrel
    by_cases hlt : j < T.length
    · rcases HZ.out with h0 | ⟨b, off, rfl, hc⟩
      · omega
      rcases HY.out with h0 | ⟨b', off', rfl, hc'⟩
      · omega
      have c1 := hc j hlt
      have c2 := hc' j hlt
      have j1 : (j : Int) < (T.length : Int) := by omega
      have j0 : (0 : Int) ≤ (j : Int) := by omega
      generalize T.getD j [] = A at *
      have hb : ((sv A).toList == (sv A).toList) = true := by simp
      clear hc hc'
      go_wp2_with fail
      go_quiet (fail)
      go_wp2
      go_roundw
      case rel => exact ⟨j + 1, by omega, by go_num, _, rfl⟩
      case measure => simp [intOf]; omega
    · have hjl : j = T.length := by omega
      subst hjl
      go_wp2
      go_ret
      exact ⟨rfl, (Grew.refl _).drewN _⟩

set_option maxHeartbeats 400000 in
theorem markS0_any (a : Option Addr) (cap : Nat) (q : Int) (w : World) : Calls Try.prog 80 #[.slice a 0 cap, .int .i64 q] w fun e w' => e = .returned (.int .i64 q) ∧ w' = w := by
  go_enter Try.func80, Try.ntmps80
  go_wp2
  go_loop [1, 5] (fun x i => x = .int .i64 q ∧ i = .int .i64 0) (fun _ _ => 0)
  case atStart => exact ⟨rfl, rfl⟩
  case round =>
    obtain ⟨rfl, rfl⟩ := hrel
    go_wp2
    go_ret
    exact ⟨rfl, rfl⟩
set_option maxHeartbeats 400000 in
theorem heldS0_any (a : Option Addr) (cap : Nat) (q : Int) (w : World) : Calls Try.prog 82 #[.slice a 0 cap, .int .i64 q] w fun e w' => e = .returned (.int .i64 q) ∧ w' = w := by
  go_enter Try.func82, Try.ntmps82
  go_wp2
  go_loop [1, 5] (fun x i => x = .int .i64 q ∧ i = .int .i64 0) (fun _ _ => 0)
  case atStart => exact ⟨rfl, rfl⟩
  case round =>
    obtain ⟨rfl, rfl⟩ := hrel
    go_wp2
    go_ret
    exact ⟨rfl, rfl⟩
theorem marksS_len (n k : Nat) : (marksS n k).length = n := by simp [marksS]
theorem markS_it (a : Option Addr) (c k0 lo hi : Nat) (T : List (List UInt8)) (w : World) (h : It w [scl T] [.slice a T.length c] lo hi) (hk1 : 1 ≤ k0) (hk : k0 ≤ 10000000) (hn : T.length ≤ 10000000) :
    Calls Try.prog 80 #[.slice a T.length c, .int .i64 (k0 : Int)] w fun e w' => e = .returned (.int .i64 ((k0 : Int) + (T.length : Int))) ∧ It w' [scl (marksS T.length k0)] [.slice a T.length c] lo hi ∧ Wrt (Iv lo hi) w w' := by
  obtain ⟨f, h1, h2⟩ := h.ow1
  obtain ⟨a', c', G, e, ho, hf⟩ := ow_scl.1 h1
  cases e
  rcases ho.os with ⟨rfl, rfl, rfl⟩ | ⟨g, off, rfl, ho', rfl⟩
  · refine (markS0_any a 0 (k0 : Int) w).mono ?_
    rintro e w' ⟨rfl, rfl⟩
    exact ⟨by simp, h, Wrt.refl _ _⟩
  · refine (markS_any g off c k0 T.length T w ho' hk1 hk hn).mono ?_
    rintro e w' ⟨rfl, h3, h4⟩
    have hg := h2 g ((hf g).2 rfl)
    refine ⟨rfl, It.of1 (f := fun b => b = g) (ow_scl.2 ⟨_, c, some g, by rw [marksS_len], by rw [marksS_len]; exact OSo.of h3, fun b => by simp [eq_comm]⟩) (fun b hb => by rw [hb]; exact hg), (Wrt.of_grown h4).mono (fun b _ e => by cases e; exact hg)⟩
theorem heldS_it (a : Option Addr) (c k0 n lo hi : Nat) (w : World) (h : It w [scl (marksS n k0)] [.slice a n c] lo hi) (hk1 : 1 ≤ k0) (hk : k0 ≤ 10000000) (hn : n ≤ 10000000) :
    Calls Try.prog 82 #[.slice a n c, .int .i64 (k0 : Int)] w fun e w' => e = .returned (.int .i64 ((k0 : Int) + (n : Int))) ∧ Below w.heap.size w w' := by
  obtain ⟨f, h1, h2⟩ := h.ow1
  obtain ⟨a', c', G, e, ho, hf⟩ := ow_scl.1 h1
  rw [marksS_len] at e ho
  have e1 : a = a' := by injection e
  have e2 : c = c' := by injection e
  subst e1 e2
  have ho2 : OSo w 1 a (marksS n k0).length c (svs (marksS n k0)) G := by rw [marksS_len]; exact ho
  rcases ho2.os with ⟨e0, rfl, rfl⟩ | ⟨g, off, rfl, ho', rfl⟩
  · have : n = 0 := by have := congrArg List.length e0; rw [marksS_len] at this; simpa using this
    subst this
    exact (heldS0_any a 0 (k0 : Int) w).mono (fun e w' ⟨h1, h2⟩ => ⟨by rw [h1]; simp, by rw [h2]; exact Below.refl _ _⟩)
  · rw [marksS_len] at ho'
    exact heldS_any g off c k0 n w ho' hk1 hk hn
end Go.Proofs.Ytgaibngaincahaa
