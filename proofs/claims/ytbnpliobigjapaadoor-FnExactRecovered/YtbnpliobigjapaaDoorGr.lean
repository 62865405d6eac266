/-
  Several texts in one: Frs Rdl Wds Fra Frt.
-/
import Derived.Test.YtbnpliobigjapaaDoorGq
/-
  The contracts of the specification's Frame, l5Cut and Torn.
-/
namespace Go.Proofs.YtbnpliobigjapaaDoor
set_option linter.unusedSimpArgs false
set_option linter.unusedVariables false
open Go.RowKit Go.Sort

theorem sv_lit1 (l : List UInt8) (b : UInt8) : sv l ++ (⟨#[b]⟩ : ByteArray) = sv (l ++ [b]) := sv_app l [b]

set_option maxRecDepth 100000 in
set_option maxHeartbeats 1600000 in
theorem specFrame_any (l : List UInt8) (w : World) (hl : l.length ≤ 1048576) :
    Calls Tryd.prog 45 #[.string (sv l)] w fun e w' => e = .returned (.string (sv (frameL l))) ∧ Below w.heap.size w w' := by
  have hsz := sv_size l
  by_cases h2 : l.length ≤ 2000
  · have HF : Hid (frameL l = ((((dec l.length ++ [32]) ++ dec (chk l).toNat) ++ [10]) ++ l) ++ [10]) := by rw [Hid, frameL, if_pos h2, frL, headL]; simp
    have b1 := dec_len (n := l.length) (k := 3) (by omega)
    have b2 := dec_len (n := (chk l).toNat) (k := 5) (by have := chk_bound l; omega)
    have c0 := chk_bound l
    have hI1 := fun X => specInt_any l.length X (by omega)
    have hI2 := fun X => specInt_any (chk l).toNat X (by omega)
    rw [show (((chk l).toNat : Nat) : Int) = chk l by omega] at hI2
    have hC := fun X => specCheck_any l X hl
    generalize dec l.length = D1 at *
    generalize dec (chk l).toNat = D2 at *
    generalize chk l = c at *
    have s1 := sv_size D1
    have s2 := sv_size D2
    have a1 := sv_lit1 D1 32
    have a2 := sv_app (D1 ++ [32]) D2
    have a3 := sv_lit1 ((D1 ++ [32]) ++ D2) 10
    have a4 := sv_app (((D1 ++ [32]) ++ D2) ++ [10]) l
    have a5 := sv_lit1 ((((D1 ++ [32]) ++ D2) ++ [10]) ++ l) 10
    have t1 : (sv (D1 ++ [32])).size = D1.length + 1 := by rw [sv_size]; simp
    have t2 : (sv ((D1 ++ [32]) ++ D2)).size = D1.length + 1 + D2.length := by rw [sv_size]; simp; omega
    have t3 : (sv (((D1 ++ [32]) ++ D2) ++ [10])).size = D1.length + 1 + D2.length + 1 := by rw [sv_size]; simp; omega
    have t4 : (sv ((((D1 ++ [32]) ++ D2) ++ [10]) ++ l)).size = D1.length + 1 + D2.length + 1 + l.length := by rw [sv_size]; simp; omega
    generalize sv ((((D1 ++ [32]) ++ D2) ++ [10]) ++ l) = S4 at *
    generalize sv (((D1 ++ [32]) ++ D2) ++ [10]) = S3 at *
    generalize sv ((D1 ++ [32]) ++ D2) = S2 at *
    generalize sv (D1 ++ [32]) = S1 at *
    have HA5 : Hid (S4 ++ (⟨#[10]⟩ : ByteArray) = sv (frameL l)) := by rw [Hid, a5, HF.out]
    clear a5
    go_enter Tryd.func45, Tryd.ntmps45
    go_wp2_with fail
    refine (hI1 w).mono ?_
    rintro e w1 ⟨rfl, hb1⟩
    have HB1 : Hid (Below w.heap.size w w1) := hb1
    clear hb1
    go_wp2_with fail
    refine (hC w1).mono ?_
    rintro e w2 ⟨rfl, hw2⟩
    have HB2 : Hid (Below w.heap.size w w2) := by rw [Hid, hw2]; exact HB1.out
    clear hw2
    go_wp2_with fail
    refine (hI2 w2).mono ?_
    rintro e w3 ⟨rfl, hb3⟩
    have HB3 : Hid (Below w.heap.size w w3) := HB2.out.trans (hb3.mono HB2.out.size)
    clear hb3
    go_wp2
    go_ret
    exact ⟨by rw [← HA5.out]; rfl, HB3.out⟩
  · have HF : Hid (frameL l = []) := by rw [Hid, frameL, if_neg h2]
    have hi : (2000 : Int) < (l.length : Int) := by omega
    go_enter Tryd.func45, Tryd.ntmps45
    go_wp2
    go_ret
    exact ⟨by rw [HF.out]; rfl, Below.refl _ _⟩

theorem firstB_len (l : List UInt8) (n : Int) : (firstB l n).length ≤ l.length := by unfold firstB; rw [List.length_take]; omega

end Go.Proofs.YtbnpliobigjapaaDoor

/-
  The contract of the specification's l1Read: what is a number.
-/
namespace Go.Proofs.YtbnpliobigjapaaDoor
set_option linter.unusedSimpArgs false
set_option linter.unusedVariables false
open Go.RowKit Go.Sort

def digB (b : UInt8) : Bool := decide (48 ≤ b.toNat) && decide (b.toNat ≤ 57)
/-- Is there a - ahead? -/
def negB (s : List UInt8) : Bool := decide (s.head? = some 45)
/-- What stands behind it. -/
def bodyL (s : List UInt8) : List UInt8 := if negB s = true then s.drop 1 else s
/-- The number that a text tells, and whether it is one. -/
def rdL (s : List UInt8) : Int × Bool :=
  if (bodyL s).length < 1 ∨ 9 < (bodyL s).length then (0, false)
  else if (bodyL s).all digB = false then (0, false)
  else if (bodyL s).head? = some 48 ∧ (negB s = true ∨ 1 < s.length) then (0, false)
  else (if negB s = true then - ((numL (bodyL s) : Nat) : Int) else ((numL (bodyL s) : Nat) : Int), true)
theorem numL_bound (l : List UInt8) (h : l.all digB = true) : ∀ {k : Nat}, l.length ≤ k → numL l < 10 ^ k := by
  suffices H : ∀ (l : List UInt8) (x : Nat), l.all digB = true → l.foldl (fun n b => n * 10 + (b.toNat - 48)) x + 1 ≤ (x + 1) * 10 ^ l.length by
    intro k hk
    have h1 := H l 0 h
    have h2 : 10 ^ l.length ≤ 10 ^ k := Nat.pow_le_pow_right (by omega) hk
    unfold numL
    omega
  intro l
  induction l with
  | nil => intro x _; simp
  | cons b l ih =>
    intro x hx
    simp only [List.all_cons, Bool.and_eq_true, digB, decide_eq_true_eq] at hx
    have := ih (x * 10 + (b.toNat - 48)) (by simpa [digB] using hx.2)
    simp only [List.foldl_cons, List.length_cons]
    refine Nat.le_trans this ?_
    rw [Nat.pow_succ, Nat.mul_comm (10 ^ l.length) 10, ← Nat.mul_assoc]
    exact Nat.mul_le_mul_right _ (by omega)
theorem all_take {l : List UInt8} {k : Nat} (h : k < l.length) : (l.take (k + 1)).all digB = ((l.take k).all digB && digB l[k]) := by
  rw [take_byte h, List.all_append]; simp only [List.all_cons, List.all_nil, Bool.and_true]
theorem all_miss {l : List UInt8} {k : Nat} (h : k < l.length) (hd : digB l[k] = false) : l.all digB = false := by
  rw [List.all_eq_false]
  exact ⟨l[k], List.getElem_mem h, by simp [hd]⟩
/-- A number of at most nine digits is read. -/
theorem rdL_dec {n : Nat} (h : n < 1000000000) : rdL (dec n) = ((n : Int), true) := by
  have h0 : negB (dec n) = false := by
    unfold negB
    rw [decide_eq_false_iff_not]
    intro hh
    have hm : (45 : UInt8) ∈ dec n := List.mem_of_head? hh
    have := dec_dig n _ hm
    unfold isDig at this
    simp at this
  have hb : bodyL (dec n) = dec n := by unfold bodyL; rw [h0]; rfl
  have hl := dec_len (n := n) (k := 8) (by omega)
  have hp := dec_len_pos n
  have hd : (dec n).all digB = true := by
    rw [List.all_eq_true]
    intro b hb'
    have := dec_dig n b hb'
    unfold isDig at this
    simp [digB, this.1, this.2]
  unfold rdL
  rw [hb, h0, if_neg (by omega), if_neg (by rw [hd]; simp), if_neg]
  · simp [numL_dec]
  · rintro ⟨h1, h2⟩
    have h3 : n = 0 := dec_head n h1
    subst h3
    rw [dec_small (by omega)] at h2
    simp at h2

theorem head_byt {l : List UInt8} (h : 0 < l.length) (b : UInt8) : l.head? = some b ↔ byt l 0 = b.toNat := by
  cases l with
  | nil => simp at h
  | cons x l =>
    simp only [List.head?_cons, Option.some.injEq, byt, List.getD_cons_zero]
    exact UInt8.toNat_inj.symm
attribute [local irreducible] sv
set_option maxRecDepth 100000 in
set_option maxHeartbeats 1600000 in
theorem specRead_any (s : List UInt8) (w : World) (hl : s.length ≤ 1048576) :
    Calls Tryd.prog 49 #[.string (sv s)] w fun e w' => e = .returned (.tuple #[.int .i64 (rdL s).1, .bool (rdL s).2]) ∧ w' = w := by
  have hsz := sv_size s
  cases hs : s with
  | nil =>
    subst hs
    go_enter Tryd.func49, Tryd.ntmps49
    have hq : ((sv ([] : List UInt8)).toList == []) = true := by rw [sv_list]; rfl
    go_wp2
    go_ret2
    exact ⟨rfl, rfl⟩
  | cons x t =>
    have hq : ((sv s).toList == []) = false := by rw [sv_list, hs]; rfl
    have hpos : 0 < s.length := by rw [hs]; simp
    have h0 := sv_byt hpos
    have hx0 : byt s 0 = x.toNat := by subst hs; rfl
    rw [← hs]
    by_cases hx : x = 45
    · have HN : Hid (negB s = true) := by rw [Hid, negB, hs, hx]; rfl
      have hx45 : byt s 0 = 45 := by rw [hx0, hx]; rfl
      rw [hx45] at h0
      clear hx0 hx45
      have HBL : Hid (bodyL s = t) := by rw [Hid, bodyL, HN.out]; subst hs; rfl
      have hbl : s.length = t.length + 1 := by rw [hs]; simp
      have HGT : Hid (∀ j, j < t.length → byt s (j + 1) = byt t j) := fun j _ => by subst hs; rfl
      clear hs hx
      by_cases hr : t.length < 1 ∨ 9 < t.length
      · have HR : Hid (rdL s = (0, false)) := by rw [Hid, rdL, HBL.out, if_pos hr]
        rcases hr with hr | hr
        · have r1 : t.length = 0 := by omega
          rw [r1] at hbl
          clear r1
          go_enter Tryd.func49, Tryd.ntmps49
          go_wp2
          go_ret2
          exact ⟨by rw [HR.out]; rfl, rfl⟩
        · have r1 : (9 : Int) < (t.length : Int) := by omega
          have r3 : decide ((t.length : Int) < 1) = false := by simp; omega
          have r4 : (1 : Int) ≤ (t.length : Int) := by omega
          go_enter Tryd.func49, Tryd.ntmps49
          go_wp2
          go_ret2
          exact ⟨by rw [HR.out]; rfl, rfl⟩
      · have r0 : 1 ≤ t.length ∧ t.length ≤ 9 := by omega
        have r1 : decide ((9 : Int) < (t.length : Int)) = false := by simp; omega
        have r3 : decide ((t.length : Int) < 1) = false := by simp; omega
        have HR0 : Hid (¬ (t.length < 1 ∨ 9 < t.length)) := hr
        clear hr
        go_enter Tryd.func49, Tryd.ntmps49
        go_wp2
        go_loop [6, 7] (fun n k => ∃ j : Nat, j ≤ t.length ∧ k = .int .i64 ((j + 1 : Nat) : Int) ∧ n = .int .i64 (numL (t.take j) : Nat) ∧ (t.take j).all digB = true) (fun _ k => s.length + 1 - (intOf k).toNat)
        case atStart => exact ⟨0, Nat.zero_le _, rfl, rfl, rfl⟩
        case round =>
          obtain ⟨j, hj, rfl, rfl, hall⟩ := hrel
          have HALL : Hid ((t.take j).all digB = true) := hall
          clear hall
          by_cases hlt : j < t.length
          · have hb := sv_byt (l := s) (k := j + 1) (by omega)
            rw [HGT.out j hlt] at hb
            have hb256 := byt_lt t j
            have HSN : Hid (numL (t.take (j + 1)) = numL (t.take j) * 10 + (byt t j - 48)) := by rw [Hid, take_byte hlt, numL_snoc, byt_get hlt]
            have HAS : Hid ((t.take (j + 1)).all digB = (decide (48 ≤ byt t j) && decide (byt t j ≤ 57))) := by rw [Hid, all_take hlt, HALL.out, digB, byt_get hlt]; rfl
            have HMS : Hid ((decide (48 ≤ byt t j) && decide (byt t j ≤ 57)) = false → rdL s = (0, false)) := fun h => by
              have := all_miss hlt (by rw [digB, ← byt_get hlt]; exact h)
              rw [rdL, HBL.out, if_neg HR0.out, if_pos this]
            have hnb : numL (t.take j) < 1000000000 := numL_bound _ HALL.out (k := 9) (by rw [List.length_take]; omega)
            generalize numL (t.take j) = N at *
            generalize byt t j = B at *
            have k1 : (j : Int) < (t.length : Int) := by omega
            have k0 : (0 : Int) ≤ (j : Int) := by omega
            have j9 : j ≤ 9 := by omega
            have k2 : (j : Int) + 1 < (t.length : Int) + 1 := by omega
            by_cases hlo : B < 48
            · have hi1 : (B : Int) < 48 := by omega
              have HR : Hid (rdL s = (0, false)) := HMS.out (by simp; omega)
              clear HMS HAS
              go_wp2
              go_ret2
              exact ⟨by rw [HR.out]; rfl, rfl⟩
            · have hi1 : decide ((B : Int) < 48) = false := by simp; omega
              by_cases hhi : 57 < B
              · have hi2 : (57 : Int) < (B : Int) := by omega
                have HR : Hid (rdL s = (0, false)) := HMS.out (by simp; omega)
                clear HMS HAS hlo
                go_wp2
                go_ret2
                exact ⟨by rw [HR.out]; rfl, rfl⟩
              · have hi2 : decide ((57 : Int) < (B : Int)) = false := by simp; omega
                obtain ⟨D, hD⟩ : ∃ D, B = 48 + D := ⟨B - 48, by omega⟩
                subst hD
                have hD9 : D ≤ 9 := by omega
                have HA' : Hid ((t.take (j + 1)).all digB = true) := by rw [Hid, HAS.out]; simp; omega
                have HN' : Hid ((numL (t.take (j + 1)) : Nat) = N * 10 + D) := by rw [Hid, HSN.out]; omega
                clear HMS HAS hlo hhi HSN
                go_wp2
                go_round
                case rel => exact ⟨j + 1, by omega, by go_num, by rw [HN'.out]; go_num, HA'.out⟩
                case measure => simp [intOf]; omega
          · have hjl : j = t.length := by omega
            subst hjl
            have HAL : Hid (t.all digB = true) := by have := HALL.out; rwa [List.take_length] at this
            have hb := sv_byt (l := s) (k := 1) (by omega)
            rw [HGT.out 0 (by omega)] at hb
            have HH := head_byt (l := t) (by omega) 48
            have hnb : numL t < 1000000000 := numL_bound _ HAL.out (k := 9) (by omega)
            rw [List.take_length]
            by_cases hz : byt t 0 = 48
            · rw [hz] at hb
              have HR : Hid (rdL s = (0, false)) := by rw [Hid, rdL, HBL.out, if_neg HR0.out, if_neg (by rw [HAL.out]; simp), if_pos ⟨HH.2 hz, .inl HN.out⟩]
              clear HH hz
              go_wp2
              go_ret2
              exact ⟨by rw [HR.out]; rfl, rfl⟩
            · have hz48 : ((byt t 0 : Int) == 48) = false := by simp; omega
              have HR : Hid (rdL s = (- ((numL t : Nat) : Int), true)) := by rw [Hid, rdL, HBL.out, if_neg HR0.out, if_neg (by rw [HAL.out]; simp), if_neg (fun h => hz (HH.1 h.1)), if_pos HN.out]
              clear HH hz
              generalize numL t = N at *
              go_wp2
              go_ret2
              exact ⟨by rw [HR.out]; rfl, rfl⟩
    · have HN : Hid (negB s = false) := by rw [Hid, negB, hs]; simp [hx]
      have hx45 : ((byt s 0 : Int) == 45) = false := by
        rw [hx0]
        simp
        intro h
        exact hx (UInt8.toNat_inj.1 (by have h' : x.toNat = 45 := by omega
                                        simpa using h'))
      clear hx0
      have HBL : Hid (bodyL s = s) := by rw [Hid, bodyL, HN.out]; rfl
      have hbl : s.length = s.length := by rfl
      clear hs hx
      by_cases hr : s.length < 1 ∨ 9 < s.length
      · have HR : Hid (rdL s = (0, false)) := by rw [Hid, rdL, HBL.out, if_pos hr]
        rcases hr with hr | hr
        · have r1 : s.length = 0 := by omega
          rw [r1] at hbl
          omega
        · have r1 : (9 : Int) < (s.length : Int) := by omega
          have r3 : decide ((s.length : Int) < 1) = false := by simp; omega
          have r4 : (1 : Int) ≤ (s.length : Int) := by omega
          go_enter Tryd.func49, Tryd.ntmps49
          go_wp2
          go_ret2
          exact ⟨by rw [HR.out]; rfl, rfl⟩
      · have r0 : 1 ≤ s.length ∧ s.length ≤ 9 := by omega
        have r1 : decide ((9 : Int) < (s.length : Int)) = false := by simp; omega
        have r3 : decide ((s.length : Int) < 1) = false := by simp; omega
        have HR0 : Hid (¬ (s.length < 1 ∨ 9 < s.length)) := hr
        clear hr
        go_enter Tryd.func49, Tryd.ntmps49
        go_wp2
        go_loop [6, 7] (fun n k => ∃ j : Nat, j ≤ s.length ∧ k = .int .i64 (j : Int) ∧ n = .int .i64 (numL (s.take j) : Nat) ∧ (s.take j).all digB = true) (fun _ k => s.length + 1 - (intOf k).toNat)
        case atStart => exact ⟨0, Nat.zero_le _, rfl, rfl, rfl⟩
        case round =>
          obtain ⟨j, hj, rfl, rfl, hall⟩ := hrel
          have HALL : Hid ((s.take j).all digB = true) := hall
          clear hall
          by_cases hlt : j < s.length
          · have hb := sv_byt (l := s) (k := j) (by omega)
            have hb256 := byt_lt s j
            have HSN : Hid (numL (s.take (j + 1)) = numL (s.take j) * 10 + (byt s j - 48)) := by rw [Hid, take_byte hlt, numL_snoc, byt_get hlt]
            have HAS : Hid ((s.take (j + 1)).all digB = (decide (48 ≤ byt s j) && decide (byt s j ≤ 57))) := by rw [Hid, all_take hlt, HALL.out, digB, byt_get hlt]; rfl
            have HMS : Hid ((decide (48 ≤ byt s j) && decide (byt s j ≤ 57)) = false → rdL s = (0, false)) := fun h => by
              have := all_miss hlt (by rw [digB, ← byt_get hlt]; exact h)
              rw [rdL, HBL.out, if_neg HR0.out, if_pos this]
            have hnb : numL (s.take j) < 1000000000 := numL_bound _ HALL.out (k := 9) (by rw [List.length_take]; omega)
            generalize numL (s.take j) = N at *
            generalize byt s j = B at *
            have k1 : (j : Int) < (s.length : Int) := by omega
            have k0 : (0 : Int) ≤ (j : Int) := by omega
            have j9 : j ≤ 9 := by omega
            have k2 : (j : Int) + 1 < (s.length : Int) + 1 := by omega
            by_cases hlo : B < 48
            · have hi1 : (B : Int) < 48 := by omega
              have HR : Hid (rdL s = (0, false)) := HMS.out (by simp; omega)
              clear HMS HAS
              go_wp2
              go_ret2
              exact ⟨by rw [HR.out]; rfl, rfl⟩
            · have hi1 : decide ((B : Int) < 48) = false := by simp; omega
              by_cases hhi : 57 < B
              · have hi2 : (57 : Int) < (B : Int) := by omega
                have HR : Hid (rdL s = (0, false)) := HMS.out (by simp; omega)
                clear HMS HAS hlo
                go_wp2
                go_ret2
                exact ⟨by rw [HR.out]; rfl, rfl⟩
              · have hi2 : decide ((57 : Int) < (B : Int)) = false := by simp; omega
                obtain ⟨D, hD⟩ : ∃ D, B = 48 + D := ⟨B - 48, by omega⟩
                subst hD
                have hD9 : D ≤ 9 := by omega
                have HA' : Hid ((s.take (j + 1)).all digB = true) := by rw [Hid, HAS.out]; simp; omega
                have HN' : Hid ((numL (s.take (j + 1)) : Nat) = N * 10 + D) := by rw [Hid, HSN.out]; omega
                clear HMS HAS hlo hhi HSN
                go_wp2
                go_round
                case rel => exact ⟨j + 1, by omega, by go_num, by rw [HN'.out]; go_num, HA'.out⟩
                case measure => simp [intOf]; omega
          · have hjl : j = s.length := by omega
            subst hjl
            have HAL : Hid (s.all digB = true) := by have := HALL.out; rwa [List.take_length] at this
            have hb := sv_byt (l := s) (k := 0) (by omega)
            have HH := head_byt (l := s) (by omega) 48
            have hnb : numL s < 1000000000 := numL_bound _ HAL.out (k := 9) (by omega)
            rw [List.take_length]
            by_cases hz : byt s 0 = 48
            · have hz48 : ((byt s 0 : Int) == 48) = true := by simp [hz]
              by_cases h1 : 1 < s.length
              · have HR : Hid (rdL s = (0, false)) := by rw [Hid, rdL, HBL.out, if_neg HR0.out, if_neg (by rw [HAL.out]; simp), if_pos ⟨HH.2 hz, .inr h1⟩]
                have h1i : (1 : Int) < (s.length : Int) := by omega
                clear HH hz
                go_wp2
                go_ret2
                exact ⟨by rw [HR.out]; rfl, rfl⟩
              · have HR : Hid (rdL s = (((numL s : Nat) : Int), true)) := by rw [Hid, rdL, HBL.out, if_neg HR0.out, if_neg (by rw [HAL.out]; simp), if_neg (by rintro ⟨_, h⟩; exact h.elim (fun h => by rw [HN.out] at h; cases h) h1), if_neg (by rw [HN.out]; simp)]
                have h1i : decide ((1 : Int) < (s.length : Int)) = false := by simp; omega
                clear HH hz h1
                generalize numL s = N at *
                go_wp2
                go_ret2
                exact ⟨by rw [HR.out]; rfl, rfl⟩
            · have hz48 : ((byt s 0 : Int) == 48) = false := by simp; omega
              have HR : Hid (rdL s = (((numL s : Nat) : Int), true)) := by rw [Hid, rdL, HBL.out, if_neg HR0.out, if_neg (by rw [HAL.out]; simp), if_neg (fun h => hz (HH.1 h.1)), if_neg (by rw [HN.out]; simp)]
              clear HH hz
              generalize numL s = N at *
              go_wp2
              go_ret2
              exact ⟨by rw [HR.out]; rfl, rfl⟩
end Go.Proofs.YtbnpliobigjapaaDoor

/-
  Slices of strings in memory of one's own; the contract of the specification's l1Words.
-/
namespace Go.Proofs.YtbnpliobigjapaaDoor
set_option linter.unusedSimpArgs false
set_option linter.unusedVariables false
open Go.RowKit Go.Sort

theorem Tryd.info9 : (Tryd.prog.info? 9).map (fun i => (i.zero, i.size, i.bytes)) = some (some (.string ⟨#[]⟩), 1, 16) := by kernel_rfl
theorem info_parts9 {T s b : Nat} {z : Value} (h : (Tryd.prog.info? T).map (fun i => (i.zero, i.size, i.bytes)) = some (some z, s, b)) : ∃ i, Tryd.prog.info? T = some i ∧ i.zero = some z ∧ i.size = s ∧ i.bytes = b := by
  cases hq : Tryd.prog.info? T with
  | none => rw [hq] at h; simp at h
  | some i => rw [hq] at h; simp at h; exact ⟨i, rfl, h.1, h.2.1, h.2.2⟩
/-- The strings of lists of bytes. -/
def svs (zs : List (List UInt8)) : List Value := zs.map (fun s => Value.string (sv s))
theorem svs_app (a b : List (List UInt8)) : svs (a ++ b) = svs a ++ svs b := by simp [svs]
theorem svs_one (zs : List (List UInt8)) : ∀ u ∈ svs zs, u.oneCell' = true := by
  intro u hu
  simp only [svs, List.mem_map] at hu
  obtain ⟨s, _, rfl⟩ := hu
  rfl
/-- A slice of one's own that holds the texts zs. -/
def OS (w : World) (g off n cap : Nat) (zs : List (List UInt8)) : Prop := OSl w 1 g off n cap (svs zs)
theorem OS.length {w : World} {g off n cap : Nat} {zs : List (List UInt8)} (h : OS w g off n cap zs) : zs.length = n := by have := h.len; simpa [svs] using this
theorem OS.cellAt {w : World} {g off n cap : Nat} {zs : List (List UInt8)} (h : OS w g off n cap zs) {i : Nat} (hi : i < n) : w.cell? ⟨g, off + i, none⟩ = some (.string (sv (zs.getD i []))) := by
  have hl := h.length
  rw [h.cell i (by omega)]
  simp [svs, show i < zs.length by omega]
theorem OS.below {w w' : World} {g off n cap B : Nat} {zs : List (List UInt8)} (h : OS w g off n cap zs) (hb : Below B w w') (hg : g < B) : OS w' g off n cap zs := OSl.below h hb hg
theorem OS.drewN {w : World} {g off n cap : Nat} {zs : List (List UInt8)} (h : OS w g off n cap zs) (k : Nat) : OS (w.drewN k) g off n cap zs := OSl.drewN h k
theorem os_empty (w : World) (T : TypeId) : OS (w.alloc (.cells #[] T)) w.heap.size 0 0 0 [] :=
  ⟨rfl, Nat.le_refl _, Nat.zero_le _, by simp, fun i hi => by omega, fun i hi => by omega, fun i hi => by omega⟩
theorem os_app {w : World} {g off n cap : Nat} {zs : List (List UInt8)} {s : List UInt8} (h : OSl w 1 g off (n + 1) cap (svs zs ++ [.string (sv s)])) : OS w g off (n + 1) cap (zs ++ [s]) := by
  unfold OS; rw [svs_app]; exact h
/-- What an answer that is a slice of texts comes to. -/
def AnsS (w w' : World) (v : Value) (Z : List (List UInt8)) : Prop := ∃ g off c, v = .slice (some ⟨g, off, none⟩) Z.length c ∧ w.heap.size ≤ g ∧ OS w' g off Z.length c Z ∧ Below w.heap.size w w'

theorem below_grown9 {B g : Nat} {w w1 w2 : World} (h : Below B w w1) (hg : w1.grownBy w2 (some g)) (hB : B ≤ g) (hs : B ≤ w1.heap.size) : Below B w w2 :=
  ⟨hg.os.trans h.os, hg.tape.trans h.tape, hg.output.trans h.output, Nat.le_trans h.size hg.size, fun k hk => (hg.block k (by omega) (by simp; omega)).trans (h.block k hk)⟩
/-- The words of a line: with one blank between each two. -/
def splitW : List UInt8 → List (List UInt8)
  | [] => [[]]
  | b :: l => if b = 32 then [] :: splitW l else match splitW l with
    | [] => [[b]]
    | u :: us => (b :: u) :: us
theorem splitW_ne (l : List UInt8) : splitW l ≠ [] := by
  cases l with
  | nil => simp [splitW]
  | cons b l =>
    unfold splitW
    split
    · simp
    · split <;> simp
theorem splitW_head (l : List UInt8) : (splitW l).head? = some (upto 32 l) := by
  induction l with
  | nil => rfl
  | cons b l ih =>
    unfold splitW upto
    by_cases h : b = 32
    · simp [h]
    · rw [if_neg h, if_neg h]
      cases hs : splitW l with
      | nil => exact absurd hs (splitW_ne l)
      | cons u us => rw [hs] at ih; simp at ih; simp [ih]
/-- p ahead of the first word. -/
def joinH (p : List UInt8) : List (List UInt8) → List (List UInt8)
  | [] => [p]
  | u :: us => (p ++ u) :: us
theorem joinH_nil {us : List (List UInt8)} (h : us ≠ []) : joinH [] us = us := by
  cases us with
  | nil => exact absurd rfl h
  | cons u us => rfl
theorem split_blank {l : List UInt8} {i : Nat} (h : i < l.length) (hb : byt l i = 32) (p : List UInt8) : joinH p (splitW (l.drop i)) = p :: splitW (l.drop (i + 1)) := by
  rw [List.drop_eq_getElem_cons h]
  have e : l[i] = 32 := UInt8.toNat_inj.1 (by rw [← byt_get h, hb]; rfl)
  simp [splitW, e, joinH]
theorem split_more {l : List UInt8} {i : Nat} (h : i < l.length) (hb : byt l i ≠ 32) (p : List UInt8) : joinH p (splitW (l.drop i)) = joinH (p ++ [l[i]]) (splitW (l.drop (i + 1))) := by
  rw [List.drop_eq_getElem_cons h]
  have e : l[i] ≠ 32 := fun e => hb (by rw [byt_get h, e]; rfl)
  conv => lhs; unfold splitW
  rw [if_neg e]
  cases hs : splitW (l.drop (i + 1)) with
  | nil => exact absurd hs (splitW_ne _)
  | cons u us => simp [joinH]
/-- From place f on, ahead of place i. -/
def mid (l : List UInt8) (f i : Nat) : List UInt8 := (l.drop f).take (i - f)
theorem mid_self (l : List UInt8) (i : Nat) : mid l i i = [] := by simp [mid]
theorem mid_snoc {l : List UInt8} {f i : Nat} (hf : f ≤ i) (h : i < l.length) : mid l f (i + 1) = mid l f i ++ [l[i]] := by
  unfold mid
  rw [show i + 1 - f = (i - f) + 1 by omega, List.take_succ_eq_append_getElem (by rw [List.length_drop]; omega), List.getElem_drop]
  congr 2
  congr 1
  omega
/-- How far the words are told. -/
def Wst (l : List UInt8) (i f : Nat) (O : List (List UInt8)) : Prop := (i ≤ l.length ∧ f ≤ i ∧ splitW l = O ++ joinH (mid l f i) (splitW (l.drop i))) ∨ (i = l.length + 1 ∧ splitW l = O)
theorem Wst.start (l : List UInt8) : Wst l 0 0 [] := .inl ⟨Nat.zero_le _, Nat.le_refl _, by rw [mid_self, List.drop_zero, joinH_nil (splitW_ne l)]; rfl⟩
theorem Wst.cut {l : List UInt8} {i f : Nat} {O : List (List UInt8)} (h : Wst l i f O) (hi : i < l.length) (hb : byt l i = 32) : f ≤ i ∧ Wst l (i + 1) (i + 1) (O ++ [mid l f i]) := by
  rcases h with ⟨_, hf, h⟩ | ⟨h, _⟩
  · refine ⟨hf, .inl ⟨by omega, Nat.le_refl _, ?_⟩⟩
    rw [h, split_blank hi hb, mid_self, joinH_nil (splitW_ne _)]
    simp
  · omega
theorem Wst.more {l : List UInt8} {i f : Nat} {O : List (List UInt8)} (h : Wst l i f O) (hi : i < l.length) (hb : byt l i ≠ 32) : Wst l (i + 1) f O := by
  rcases h with ⟨_, hf, h⟩ | ⟨h, _⟩
  · exact .inl ⟨by omega, by omega, by rw [h, split_more hi hb, mid_snoc hf hi]⟩
  · omega
theorem Wst.last {l : List UInt8} {f : Nat} {O : List (List UInt8)} (h : Wst l l.length f O) : f ≤ l.length ∧ Wst l (l.length + 1) (l.length + 1) (O ++ [mid l f l.length]) := by
  rcases h with ⟨_, hf, h⟩ | ⟨h, _⟩
  · refine ⟨hf, .inr ⟨rfl, ?_⟩⟩
    rw [h, List.drop_eq_nil_of_le (Nat.le_refl _)]
    simp [splitW, joinH]
  · omega

/-- One text more at the end of a slice of one's own. -/
theorem os_push {w wr w6 : World} {g g6 o6 c6 : Nat} {O : List (List UInt8)} {M : List UInt8} (hg : w.heap.size ≤ g) (hb : Below w.heap.size w wr) (hO6 : OSl w6 1 g6 o6 (O.length + 1) c6 (svs O ++ [.string (sv M)]))
    (hg6 : (wr.alloc (.cells #[.string (sv M)] 9)).grownBy w6 (some g)) (hat : g6 = g ∨ g6 = (wr.alloc (.cells #[.string (sv M)] 9)).heap.size) :
    w.heap.size ≤ g6 ∧ OS w6 g6 o6 (O ++ [M]).length c6 (O ++ [M]) ∧ Below w.heap.size w w6 := by
  have hs := hb.size
  refine ⟨?_, by rw [List.length_append]; exact os_app hO6, below_grown9 (hb.alloc hb.size _) hg6 hg (by simp; omega)⟩
  rcases hat with h | h
  · rw [h]; exact hg
  · rw [h]; simp; omega

attribute [local irreducible] sv
set_option maxRecDepth 100000 in
set_option maxHeartbeats 1600000 in
theorem specWords_any (l : List UInt8) (w : World) (hl : l.length ≤ 1048576) :
    Calls Tryd.prog 78 #[.string (sv l)] w fun e w' => ∃ v, e = .returned v ∧ AnsS w w' v (splitW l) := by
  obtain ⟨i0, hi0, hz0, hz1, hz2⟩ := info_parts9 Tryd.info9
  have hsz := sv_size l
  have HO0 : Hid (OS (w.alloc (.cells #[] 9)) w.heap.size 0 0 0 []) := os_empty w 9
  have HB0 : Hid (Below w.heap.size w (w.alloc (.cells #[] 9))) := (Below.refl _ _).alloc (Nat.le_refl _) _
  go_enter Tryd.func78, Tryd.ntmps78
  go_wp2
  go_loopw [3, 4, 5] (fun o fr i wr => ∃ (k f : Nat) (O : List (List UInt8)) (g og cg : Nat), k ≤ l.length + 1 ∧ i = .int .i64 k ∧ fr = .int .i64 f ∧ f ≤ l.length + 1 ∧ o = .slice (some ⟨g, og, none⟩) O.length cg ∧ O.length ≤ k ∧ w.heap.size ≤ g ∧ OS wr g og O.length cg O ∧ Wst l k f O ∧ Below w.heap.size w wr) (fun _ _ i _ => l.length + 1 - (intOf i).toNat)
  case atStart => exact ⟨0, 0, [], w.heap.size, 0, 0, by omega, rfl, rfl, by omega, rfl, by simp, Nat.le_refl _, HO0.out, Wst.start l, HB0.out⟩
  case round =>
    obtain ⟨k, f, O, g, og, cg, hk, rfl, rfl, hfl, rfl, hOk, hg, hO, hW, hb⟩ := hrel
    have KO : Hid (OS wr g og O.length cg O) := hO
    have KW : Hid (Wst l k f O) := hW
    have KB : Hid (Below w.heap.size w wr) := hb
    have KG : Hid (w.heap.size ≤ g) := hg
    clear hO hW hb hg HO0 HB0
    by_cases hlt : k ≤ l.length
    · have k1 : (k : Int) ≤ (l.length : Int) := by omega
      have k0 : (0 : Int) ≤ (k : Int) := by omega
      have app : ∀ (s : List UInt8), OSl (wr.alloc (.cells #[.string (sv s)] 9)) 1 g og O.length cg (svs O) := fun s => OSl.below KO.out ((Below.refl _ _).alloc (Nat.le_refl _) _) KO.out.blk
      have hcut : ∀ (h : f ≤ k), (sv l).extract f k = sv (mid l f k) := fun h => by rw [sv_sub]; rfl
      by_cases he : k = l.length
      · subst he
        obtain ⟨hf, HW'⟩ := KW.out.last
        have f0 : (0 : Int) ≤ (f : Int) := by omega
        have f1 : (f : Int) ≤ (l.length : Int) := by omega
        have hc := hcut hf
        have HWK : Hid (Wst l (l.length + 1) (l.length + 1) (O ++ [mid l f l.length])) := HW'
        clear hcut HW'
        generalize mid l f l.length = M at *
        have hO1 := app M
        go_wp2_with (at_builtin; refine wpList_append_os _ rfl _ _ 24 rfl 9 i0 _ 1 16 Tryd.underlying24 hi0 hz0 hz1 hz2 rfl (by omega) g og O.length cg _ rfl hO1 ⟨wr.heap.size, 0, none⟩ 1 1 [.string (sv M)] rfl rfl (World.news_of_block (cs := #[.string (sv M)]) (t := 9) (fr := (0, 0)) (heap_alloc_new _ _)) (by simp [Value.oneCell']) (by unfold maxLen; omega) (by omega) ?_; intro g6 o6 c6 w6 hO6 hg6 hat6)
        obtain ⟨p1, p2, p3⟩ := os_push KG.out KB.out hO6 hg6 hat6
        go_roundw
        case rel => exact ⟨l.length + 1, l.length + 1, O ++ [M], g6, o6, c6, by omega, by go_num, by go_num, by omega, by rw [List.length_append]; rfl, by rw [List.length_append]; simp; omega, p1, p2, HWK.out, p3⟩
        case measure => simp [intOf]
      · have hkl : k < l.length := by omega
        have k2 : (k : Int) < (l.length : Int) := by omega
        have k3 : ((k : Int) == (l.length : Int)) = false := by simp; omega
        have hby := sv_byt hkl
        by_cases hbl : byt l k = 32
        · obtain ⟨hf, HW'⟩ := KW.out.cut hkl hbl
          rw [hbl] at hby
          have f0 : (0 : Int) ≤ (f : Int) := by omega
          have f1 : (f : Int) ≤ (k : Int) := by omega
          have hc := hcut hf
          have HWK : Hid (Wst l (k + 1) (k + 1) (O ++ [mid l f k])) := HW'
          clear hcut HW' hbl he
          generalize mid l f k = M at *
          have hO1 := app M
          go_wp2_with (at_builtin; refine wpList_append_os _ rfl _ _ 24 rfl 9 i0 _ 1 16 Tryd.underlying24 hi0 hz0 hz1 hz2 rfl (by omega) g og O.length cg _ rfl hO1 ⟨wr.heap.size, 0, none⟩ 1 1 [.string (sv M)] rfl rfl (World.news_of_block (cs := #[.string (sv M)]) (t := 9) (fr := (0, 0)) (heap_alloc_new _ _)) (by simp [Value.oneCell']) (by unfold maxLen; omega) (by omega) ?_; intro g6 o6 c6 w6 hO6 hg6 hat6)
          obtain ⟨p1, p2, p3⟩ := os_push KG.out KB.out hO6 hg6 hat6
          go_roundw
          case rel => exact ⟨k + 1, k + 1, O ++ [M], g6, o6, c6, by omega, by go_num, by go_num, by omega, by rw [List.length_append]; rfl, by rw [List.length_append]; simp; omega, p1, p2, HWK.out, p3⟩
          case measure => simp [intOf]; omega
        · have HWK : Hid (Wst l (k + 1) f O) := KW.out.more hkl hbl
          have hb32 : ((byt l k : Int) == 32) = false := by simp; omega
          clear hcut hbl he
          go_wp2
          go_roundw
          case rel => exact ⟨k + 1, f, O, g, og, cg, by omega, by go_num, rfl, by omega, rfl, by omega, KG.out, KO.out, HWK.out, KB.out⟩
          case measure => simp [intOf]; omega
    · have hkl : k = l.length + 1 := by omega
      subst hkl
      have HZ : Hid (splitW l = O) := by
        rcases KW.out with ⟨h, _⟩ | ⟨_, h⟩
        · omega
        · exact h
      have k1 : ¬ ((l.length : Int) + 1 ≤ (l.length : Int)) := by omega
      have k2 : decide ((l.length : Int) + 1 ≤ (l.length : Int)) = false := by simp; omega
      go_wp2
      go_ret
      rw [HZ.out]
      exact ⟨_, rfl, g, og, cg, rfl, KG.out, KO.out, KB.out⟩
end Go.Proofs.YtbnpliobigjapaaDoor

/-
  The contracts of the specification's l5Frame and Frames.
-/
namespace Go.Proofs.YtbnpliobigjapaaDoor
set_option linter.unusedSimpArgs false
set_option linter.unusedVariables false
open Go.RowKit Go.Sort

/-- No byte 10 among the first k. -/
def No10 (d : List UInt8) (k : Nat) : Prop := ∀ j, j < k → byt d j ≠ 10
theorem no10_mem {d : List UInt8} {k : Nat} (h : No10 d k) (hk : k ≤ d.length) : ∀ x ∈ d.take k, x ≠ 10 := by
  intro x hx e
  obtain ⟨j, hj, rfl⟩ := List.getElem_of_mem hx
  rw [List.length_take] at hj
  have := h j (by omega)
  rw [byt_get (by omega)] at this
  rw [List.getElem_take] at e
  rw [e] at this
  exact this rfl
theorem upto_end {d : List UInt8} (h : No10 d d.length) : upto 10 d = d := by
  have := no10_mem h (Nat.le_refl _)
  rw [List.take_length] at this
  exact upto_none this
theorem upto_mid {d : List UInt8} {k : Nat} (h : No10 d k) (hk : k < d.length) (hb : byt d k = 10) : upto 10 d = d.take k := by
  have e : d[k] = 10 := UInt8.toNat_inj.1 (by rw [← byt_get hk, hb]; rfl)
  have : d = d.take k ++ 10 :: d.drop (k + 1) := by
    rw [← e, ← List.drop_eq_getElem_cons hk, List.take_append_drop]
  conv => lhs; rw [this]
  exact upto_at (no10_mem h (by omega)) _
/-- What l5Frame tells. -/
def Tells (d : List UInt8) (o : Option (List UInt8)) : Prop := ∀ t, o = some t ↔ Begins d t
theorem tells_none {d : List UInt8} (h : ∀ t, ¬ Begins d t) : Tells d none := fun t => Iff.intro (fun e => by cases e) (fun e => absurd e (h t))
theorem tells_some {d t : List UInt8} (h : Begins d t) : Tells d (some t) := fun s => ⟨fun e => by cases e; exact h, fun e => by rw [begins_unique h e]⟩
def telN : Option (List UInt8) → Nat
  | none => 0
  | some t => (frL t).length
/-- No frame where the line does not end, or its first word is no number in range, or the text goes beyond the disk. -/
theorem begins_end {d t : List UInt8} (h : Begins d t) : (upto 10 d).length < d.length := by
  have := (begins_text h).2
  omega
theorem begins_read {d t : List UInt8} (h : Begins d t) : rdL (upto 32 (upto 10 d)) = ((t.length : Int), true) := by
  rw [begins_num h]
  exact rdL_dec (by have := h.1; omega)
theorem frameL_small {t : List UInt8} (h : t.length ≤ 2000) : frameL t = frL t := by unfold frameL; rw [if_pos h]
theorem frameL_len (t : List UInt8) : (frameL t).length ≤ t.length + 13 := by
  unfold frameL
  split
  · rename_i h
    have := headL_len h
    rw [frL_len]
    omega
  · simp

attribute [local irreducible] sv
set_option maxRecDepth 100000 in
set_option maxHeartbeats 3200000 in
theorem l5Frame_any (d : List UInt8) (w : World) (hl : d.length ≤ 1048576) :
    Calls Tryd.prog 66 #[.string (sv d)] w fun e w' => ∃ o, Tells d o ∧ e = .returned (.tuple #[.string (sv (o.getD [])), .int .i64 (telN o : Nat)]) ∧ Below w.heap.size w w' := by
  have hsz := sv_size d
  have hnil : (⟨#[]⟩ : ByteArray) = sv [] := by unfold sv; rfl
  go_enter Tryd.func66, Tryd.ntmps66
  go_wp2
  go_loop [4] (fun i => ∃ k : Nat, k ≤ d.length ∧ i = .int .i64 k ∧ No10 d k) (fun i => d.length - (intOf i).toNat)
  case atStart => exact ⟨0, Nat.zero_le _, rfl, fun j hj => by omega⟩
  case round =>
    obtain ⟨k, hk, rfl, hno⟩ := hrel
    have HN : Hid (No10 d k) := hno
    clear hno
    have k0 : (0 : Int) ≤ (k : Int) := by omega
    by_cases hlt : k < d.length
    · have hby := sv_byt hlt
      have k1 : (k : Int) < (d.length : Int) := by omega
      by_cases h10 : byt d k = 10
      · have HU : Hid (upto 10 d = d.take k) := upto_mid HN.out hlt h10
        rw [h10] at hby
        have hcut : (sv d).extract 0 k = sv (d.take k) := by rw [sv_sub, List.drop_zero, Nat.sub_zero]
        have hW := specWords_any (d.take k) w (by rw [List.length_take]; omega)
        have HSH := splitW_head (d.take k)
        have HNE := splitW_ne (d.take k)
        have hR := fun X => specRead_any (upto 32 (d.take k)) X (by have := (upto_prefix 32 (d.take k)).length_le; rw [List.length_take] at this; omega)
        have HRD : Hid (∀ t, Begins d t → rdL (upto 32 (d.take k)) = ((t.length : Int), true)) := fun t ht => by rw [← HU.out]; exact begins_read ht
        clear h10
        go_wp2_with fail
        refine hW.mono ?_
        rintro e w1 ⟨v, rfl, g, og, cg, rfl, hg, hO, hb1⟩
        have hz : 0 < (splitW (d.take k)).length := List.length_pos_iff.2 HNE
        have c0 := hO.cellAt hz
        rw [show (splitW (d.take k)).getD 0 [] = upto 32 (d.take k) by cases hs : splitW (d.take k) with | nil => exact absurd hs HNE | cons u us => rw [hs] at HSH; simpa using HSH, Nat.add_zero] at c0
        have hzi : (0 : Int) < ((splitW (d.take k)).length : Int) := by omega
        have HB1 : Hid (Below w.heap.size w w1) := hb1
        clear hW hg hO hb1 HSH HNE
        generalize (splitW (d.take k)).length = nw at *
        generalize rdL (upto 32 (d.take k)) = rd at *
        obtain ⟨n, is⟩ := rd
        go_wp2_with fail
        refine (hR w1).mono ?_
        rintro e w2 ⟨rfl, hw2⟩
        have HB2 : Hid (Below w.heap.size w w2) := by rw [Hid, hw2]; exact HB1.out
        clear hw2 hR c0
        have ke : ((k : Int) == (d.length : Int)) = false := by simp; omega
        cases is
        · have HT : Hid (Tells d none) := tells_none (fun t ht => by have := HRD.out t ht; cases this)
          go_wp2
          go_ret2
          exact ⟨none, HT.out, by rw [show (none : Option (List UInt8)).getD [] = [] from rfl, ← hnil]; rfl, HB2.out⟩
        · by_cases hin : 0 ≤ n ∧ n ≤ 2000
          · have hin1 := hin.1
            obtain ⟨m, hm⟩ : ∃ m : Nat, n = (m : Int) := ⟨n.toNat, by omega⟩
            subst hm
            have hI : inB (m : Int) 0 2000 = true := by unfold inB; simp; omega
            by_cases hfit : (d.length : Int) - ((k : Int) + 1) < (m : Int)
            · have HT : Hid (Tells d none) := tells_none (fun t ht => by
                have e := HRD.out t ht
                have h2 := (begins_text ht).2
                rw [HU.out, List.length_take] at h2
                simp only [Prod.mk.injEq] at e
                omega)
              clear HRD
              go_wp2_with (go_at_call 47; refine (l1In_any _ _ _ _).mono ?_; rintro e w3 ⟨rfl, rfl⟩; rw [hI])
              go_ret2
              exact ⟨none, HT.out, by rw [show (none : Option (List UInt8)).getD [] = [] from rfl, ← hnil]; rfl, HB2.out⟩
            · have hfit2 : decide ((d.length : Int) - ((k : Int) + 1) < (m : Int)) = false := by simp; omega
              have hfn : k + 1 + m ≤ d.length := by omega
              have hex : (sv d).extract (k + 1) (k + 1 + m) = sv ((d.drop (k + 1)).take m) := by rw [sv_sub]; congr 3; omega
              have HTX : Hid (∀ t, Begins d t → t = (d.drop (k + 1)).take m) := fun t ht => by
                have e := HRD.out t ht
                simp only [Prod.mk.injEq] at e
                have h2 := (begins_text ht).1
                rw [HU.out, List.length_take, show min k d.length = k by omega, show t.length = m by omega] at h2
                exact h2.symm
              have hTl : ((d.drop (k + 1)).take m).length = m := by rw [List.length_take, List.length_drop]; omega
              generalize (d.drop (k + 1)).take m = T at *
              have hm2 : m ≤ 2000 := by omega
              have hF := fun X => specFrame_any T X (by omega)
              rw [frameL_small (by omega)] at hF
              have hRl : (frL T).length ≤ m + 13 := by have := frameL_len T; rw [frameL_small (by omega), hTl] at this; exact this
              have HTB : Hid (frL T <+: d → Begins d T) := fun h => ⟨by omega, h⟩
              have HTN : Hid (¬ frL T <+: d → Tells d none) := fun h => tells_none (fun t ht => h (by rw [← HTX.out t ht]; exact ht.2))
              obtain ⟨R, hRE⟩ : ∃ R, frL T = R := ⟨_, rfl⟩
              have HRE : Hid (frL T = R) := hRE
              rw [hRE] at hF hRl HTB HTN
              clear hRE
              have hRs := sv_size R
              have q1 : (0 : Int) ≤ (k : Int) + 1 := by omega
              have q2 : (k : Int) + 1 ≤ (k : Int) + 1 + (m : Int) := by omega
              have q3 : (k : Int) + 1 + (m : Int) ≤ (d.length : Int) := by omega
              have q4 : ((k : Int) + 1).toNat = k + 1 := by omega
              have q5 : ((k : Int) + 1 + (m : Int)).toNat = k + 1 + m := by omega
              by_cases hbig : d.length < R.length
              · have HT : Hid (Tells d none) := HTN.out (fun h => by have := h.length_le; omega)
                have hbi : (d.length : Int) < (R.length : Int) := by omega
                clear HRD HTB HTN HTX
                go_wp2_with (first | (go_at_call 47; refine (l1In_any _ _ _ _).mono ?_; rintro e w3 ⟨rfl, rfl⟩; rw [hI]) | (go_at_call 45; refine (hF _).mono ?_; rintro e w4 ⟨rfl, hb4⟩; have HB4 : Hid (Below w.heap.size w w4) := HB2.out.trans (hb4.mono HB2.out.size); clear hb4))
                go_ret2
                exact ⟨none, HT.out, by rw [show (none : Option (List UInt8)).getD [] = [] from rfl, ← hnil]; rfl, HB4.out⟩
              · have hbi : decide ((d.length : Int) < (R.length : Int)) = false := by simp; omega
                have hRd : (R.length : Int) ≤ (d.length : Int) := by omega
                have hR0 : (0 : Int) ≤ (R.length : Int) := by omega
                have hcut2 : (sv d).extract 0 R.length = sv (d.take R.length) := by rw [sv_sub, List.drop_zero, Nat.sub_zero]
                by_cases hp : d.take R.length = R
                · have hq : ((sv (d.take R.length)).toList == (sv R).toList) = true := by rw [sv_list, sv_list, hp]; simp
                  have HT : Hid (Begins d T) := HTB.out ⟨d.drop R.length, by rw [← hp, List.length_take, show min R.length d.length = R.length by omega]; exact List.take_append_drop _ _⟩
                  have HTE : Hid (frL T = R) := HRE.out
                  clear HRD HTB HTN HTX hp
                  go_wp2_with (first | (go_at_call 47; refine (l1In_any _ _ _ _).mono ?_; rintro e w3 ⟨rfl, rfl⟩; rw [hI]) | (go_at_call 45; refine (hF _).mono ?_; rintro e w4 ⟨rfl, hb4⟩; have HB4 : Hid (Below w.heap.size w w4) := HB2.out.trans (hb4.mono HB2.out.size); clear hb4))
                  go_ret2
                  exact ⟨some T, tells_some HT.out, by rw [telN, HTE.out]; rfl, HB4.out⟩
                · have hq : ((sv (d.take R.length)).toList == (sv R).toList) = false := by rw [sv_list, sv_list]; simpa using hp
                  have HT : Hid (Tells d none) := HTN.out (fun h => hp (by obtain ⟨q, hq⟩ := h; rw [← hq, List.take_left]))
                  clear HRD HTB HTN HTX hp
                  go_wp2_with (first | (go_at_call 47; refine (l1In_any _ _ _ _).mono ?_; rintro e w3 ⟨rfl, rfl⟩; rw [hI]) | (go_at_call 45; refine (hF _).mono ?_; rintro e w4 ⟨rfl, hb4⟩; have HB4 : Hid (Below w.heap.size w w4) := HB2.out.trans (hb4.mono HB2.out.size); clear hb4))
                  go_ret2
                  exact ⟨none, HT.out, by rw [show (none : Option (List UInt8)).getD [] = [] from rfl, ← hnil]; rfl, HB4.out⟩
          · have hI : inB n 0 2000 = false := by unfold inB; simp; omega
            have HT : Hid (Tells d none) := tells_none (fun t ht => by
              have e := HRD.out t ht
              simp only [Prod.mk.injEq] at e
              have := ht.1
              omega)
            clear HRD
            go_wp2_with (go_at_call 47; refine (l1In_any _ _ _ _).mono ?_; rintro e w3 ⟨rfl, rfl⟩; rw [hI])
            go_ret2
            exact ⟨none, HT.out, by rw [show (none : Option (List UInt8)).getD [] = [] from rfl, ← hnil]; rfl, HB2.out⟩
      · have HN' : Hid (No10 d (k + 1)) := fun j hj => by
          rcases Nat.lt_succ_iff_lt_or_eq.1 hj with h | h
          · exact HN.out j h
          · rw [h]; exact h10
        have hb10 : ((byt d k : Int) != 10) = true := by simp; omega
        have hb10' : ((byt d k : Int) == 10) = false := by simp; omega
        clear h10
        go_wp2
        go_round
        case rel => exact ⟨k + 1, by omega, by go_num, HN'.out⟩
        case measure => simp [intOf]; omega
    · have hkl : k = d.length := by omega
      subst hkl
      have HT : Hid (Tells d none) := tells_none (fun t ht => by have := begins_end ht; rw [upto_end HN.out] at this; omega)
      have hcut : (sv d).extract 0 d.length = sv d := by rw [sv_sub, List.drop_zero, Nat.sub_zero, List.take_length]
      have hW := specWords_any d w hl
      have HSH := splitW_head d
      have HNE := splitW_ne d
      have hR := fun X => specRead_any (upto 32 d) X (by have := (upto_prefix 32 d).length_le; omega)
      go_wp2_with fail
      refine hW.mono ?_
      rintro e w1 ⟨v, rfl, g, og, cg, rfl, hg, hO, hb1⟩
      have hz : 0 < (splitW d).length := List.length_pos_iff.2 HNE
      have c0 := hO.cellAt hz
      rw [show (splitW d).getD 0 [] = upto 32 d by cases hs : splitW d with | nil => exact absurd hs HNE | cons u us => rw [hs] at HSH; simpa using HSH, Nat.add_zero] at c0
      have hzi : (0 : Int) < ((splitW d).length : Int) := by omega
      have HB1 : Hid (Below w.heap.size w w1) := hb1
      clear hW hg hO hb1 HSH HNE
      generalize (splitW d).length = nw at *
      generalize rdL (upto 32 d) = rd at *
      obtain ⟨n, is⟩ := rd
      go_wp2_with fail
      refine (hR w1).mono ?_
      rintro e w2 ⟨rfl, hw2⟩
      have HB2 : Hid (Below w.heap.size w w2) := by rw [Hid, hw2]; exact HB1.out
      clear hw2 hR c0
      go_wp2
      go_ret2
      exact ⟨none, HT.out, by rw [show (none : Option (List UInt8)).getD [] = [] from rfl, ← hnil]; rfl, HB2.out⟩
end Go.Proofs.YtbnpliobigjapaaDoor

/-
  The contract of the specification's Frames.
-/
namespace Go.Proofs.YtbnpliobigjapaaDoor
set_option linter.unusedSimpArgs false
set_option linter.unusedVariables false
open Go.RowKit Go.Sort

theorem frL_pos (t : List UInt8) : 0 < (frL t).length := by rw [frL_len]; omega
/-- What Frames answers: the texts and how many bytes they take. -/
def AnsF (w w' : World) (e : Ending) (ts : List (List UInt8)) : Prop := ∃ g off c, e = .returned (.tuple #[.slice (some ⟨g, off, none⟩) ts.length c, .int .i64 ((bytesOf ts).length : Nat)]) ∧ w.heap.size ≤ g ∧ OS w' g off ts.length c ts ∧ Below w.heap.size w w'
/-- How far the disk is read. -/
structure Rd (d : List UInt8) (O : List (List UInt8)) : Prop where
  pre : ∃ r, d = bytesOf O ++ r
  small : ∀ t ∈ O, t.length ≤ 2000
theorem Rd.start (d : List UInt8) : Rd d [] := ⟨⟨d, rfl⟩, fun t h => by simp at h⟩
theorem Rd.drop {d : List UInt8} {O : List (List UInt8)} (h : Rd d O) : d = bytesOf O ++ d.drop (bytesOf O).length := by
  obtain ⟨r, hr⟩ := h.pre
  conv => rhs; rw [hr, List.drop_left]
  exact hr
theorem Rd.le {d : List UInt8} {O : List (List UInt8)} (h : Rd d O) : (bytesOf O).length ≤ d.length := by
  obtain ⟨r, hr⟩ := h.pre
  rw [hr, List.length_append]
  omega
theorem Rd.next {d t : List UInt8} {O : List (List UInt8)} (h : Rd d O) (hb : Begins (d.drop (bytesOf O).length) t) : Rd d (O ++ [t]) := by
  obtain ⟨q, hq⟩ := hb.2
  refine ⟨⟨q, ?_⟩, fun s hs => ?_⟩
  · rw [bytesOf_snoc, List.append_assoc, hq]
    exact h.drop
  · rcases List.mem_append.1 hs with h1 | h1
    · exact h.small s h1
    · rw [List.mem_singleton] at h1; subst h1; exact hb.1
theorem Rd.count {d : List UInt8} {O : List (List UInt8)} (h : Rd d O) : O.length ≤ d.length := by
  refine Nat.le_trans ?_ h.le
  have : ∀ O : List (List UInt8), O.length ≤ (bytesOf O).length := by
    intro O
    induction O with
    | nil => simp
    | cons t O ih => rw [bytesOf_cons, List.length_append, List.length_cons]; have := frL_pos t; omega
  exact this O

attribute [local irreducible] sv
set_option maxRecDepth 100000 in
set_option maxHeartbeats 3200000 in
theorem specFrames_any (d : List UInt8) (w : World) (hl : d.length ≤ 1048576) :
    Calls Tryd.prog 48 #[.string (sv d)] w fun e w' => ∃ ts, IsFrames d ts ∧ AnsF w w' e ts := by
  obtain ⟨i0, hi0, hz0, hz1, hz2⟩ := info_parts9 Tryd.info9
  have hsz := sv_size d
  have HO0 : Hid (OS (w.alloc (.cells #[] 9)) w.heap.size 0 0 0 []) := os_empty w 9
  have HB0 : Hid (Below w.heap.size w (w.alloc (.cells #[] 9))) := (Below.refl _ _).alloc (Nat.le_refl _) _
  go_enter Tryd.func48, Tryd.ntmps48
  go_wp2
  go_loopw [4, 5] (fun o a wr => ∃ (O : List (List UInt8)) (g og cg : Nat), o = .slice (some ⟨g, og, none⟩) O.length cg ∧ a = .int .i64 ((bytesOf O).length : Nat) ∧ w.heap.size ≤ g ∧ OS wr g og O.length cg O ∧ Rd d O ∧ Below w.heap.size w wr) (fun _ a _ => d.length - (intOf a).toNat)
  case atStart => exact ⟨[], w.heap.size, 0, 0, rfl, rfl, Nat.le_refl _, HO0.out, Rd.start d, HB0.out⟩
  case round =>
    obtain ⟨O, g, og, cg, rfl, rfl, hg, hO, hR, hb⟩ := hrel
    have KO : Hid (OS wr g og O.length cg O) := hO
    have KR : Hid (Rd d O) := hR
    have KB : Hid (Below w.heap.size w wr) := hb
    have KG : Hid (w.heap.size ≤ g) := hg
    have hle := hR.le
    have hcnt := hR.count
    have hcut : (sv d).extract (bytesOf O).length d.length = sv (d.drop (bytesOf O).length) := by rw [sv_sub, List.take_of_length_le (by rw [List.length_drop]; omega)]
    have hF := l5Frame_any (d.drop (bytesOf O).length) wr (by rw [List.length_drop]; omega)
    have KN : Hid ((∀ t, ¬ Begins (d.drop (bytesOf O).length) t) → IsFrames d O) := fun h => isFrames_of hR.drop hR.small h
    have KX : Hid (∀ t, Begins (d.drop (bytesOf O).length) t → Rd d (O ++ [t])) := fun t ht => hR.next ht
    clear hO hR hb hg HO0 HB0
    have KL : Hid (∀ t, (bytesOf (O ++ [t])).length = (bytesOf O).length + (frL t).length) := fun t => by rw [bytesOf_snoc, List.length_append]
    obtain ⟨N, hN⟩ : ∃ N, (bytesOf O).length = N := ⟨_, rfl⟩
    have HNE : Hid ((bytesOf O).length = N) := hN
    rw [hN] at hle hcut hF KN KX KL
    rw [hN]
    clear hN
    have n0 : (0 : Int) ≤ (N : Int) := by omega
    have n1 : (N : Int) ≤ (d.length : Int) := by omega
    go_wp2_with fail
    refine hF.mono ?_
    rintro e w1 ⟨o, hT, rfl, hb1⟩
    have KB1 : Hid (Below w.heap.size w w1) := KB.out.trans (hb1.mono KB.out.size)
    have KO1 : Hid (OS w1 g og O.length cg O) := KO.out.below hb1 KO.out.blk
    clear hb1 hF hcut
    cases o with
    | none =>
      have HF : Hid (IsFrames d O) := KN.out (fun t ht => by have := (hT t).2 ht; cases this)
      have e0 : (telN none : Nat) = 0 := rfl
      rw [e0]
      clear hT KN KX
      go_wp2
      go_ret2
      exact ⟨O, HF.out, g, og, cg, by rw [HNE.out]; rfl, KG.out, KO1.out, KB1.out⟩
    | some t =>
      have hBt := (hT t).1 rfl
      have KR' : Hid (Rd d (O ++ [t])) := KX.out t hBt
      have hle' := KR'.out.le
      have e0 : telN (some t) = (frL t).length := rfl
      have e1 : (some t).getD [] = t := rfl
      have hpos := frL_pos t
      rw [e0, e1]
      rw [KL.out t] at hle'
      have KLt : Hid ((bytesOf (O ++ [t])).length = N + (frL t).length) := KL.out t
      clear hT KN KX hBt KL e0 e1
      generalize (frL t).length = L at *
      have b1 : (N : Int) + (L : Int) ≤ 9223372036854775807 := by omega
      have bz : ((L : Int) == 0) = false := by simp; omega
      have hO1 : OSl (w1.alloc (.cells #[.string (sv t)] 9)) 1 g og O.length cg (svs O) := OSl.below KO1.out ((Below.refl _ _).alloc (Nat.le_refl _) _) KO1.out.blk
      go_wp2_with (at_builtin; refine wpList_append_os _ rfl _ _ 24 rfl 9 i0 _ 1 16 Tryd.underlying24 hi0 hz0 hz1 hz2 rfl (by omega) g og O.length cg _ rfl hO1 ⟨w1.heap.size, 0, none⟩ 1 1 [.string (sv t)] rfl rfl (World.news_of_block (cs := #[.string (sv t)]) (t := 9) (fr := (0, 0)) (heap_alloc_new _ _)) (by simp [Value.oneCell']) (by unfold maxLen; omega) (by omega) ?_; intro g6 o6 c6 w6 hO6 hg6 hat6)
      obtain ⟨p1, p2, p3⟩ := os_push KG.out KB1.out hO6 hg6 hat6
      go_roundw
      case rel => exact ⟨O ++ [t], g6, o6, c6, by rw [List.length_append]; rfl, by rw [KLt.out]; go_num, p1, p2, KR'.out, p3⟩
      case measure => simp [intOf]; omega
end Go.Proofs.YtbnpliobigjapaaDoor
