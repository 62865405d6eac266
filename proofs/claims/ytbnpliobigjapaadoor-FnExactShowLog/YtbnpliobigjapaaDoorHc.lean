/-
  Several texts in one: Iat.
-/
import Derived.Test.YtbnpliobigjapaaDoorGy
import Derived.Test.YtbnpliobigjapaaDoorHa
import Derived.Test.YtbnpliobigjapaaDoorCln
import Derived.BigQuiet
/-
  The contract of the program's frameAt: strings.Cut, strconv.Atoi, strings.Clone and strings.HasPrefix by the library's contracts.
-/
namespace Go.Proofs.YtbnpliobigjapaaDoor
set_option linter.unusedSimpArgs false
set_option linter.unusedVariables false
open Go.RowKit Go.Sort Go.Shelf

theorem cellB {w w' : World} {x : Addr} {v : Value} (h : w.cell? x = some v) (hb : Below w.heap.size w w') : w'.cell? x = some v := (hb.cell (World.block_lt_of_cell? _ _ h)).trans h
theorem indexByte_upto (l : List UInt8) (b : UInt8) : (Lib.indexByte l b = -1 ∧ upto b l = l) ∨ (Lib.indexByte l b = ((upto b l).length : Nat) ∧ (upto b l).length + 1 ≤ l.length ∧ l.take (upto b l).length = upto b l) := by
  induction l with
  | nil => exact .inl ⟨rfl, rfl⟩
  | cons x l ih =>
    by_cases h : x = b
    · subst h
      right
      simp [Lib.indexByte, upto]
    · have e1 : upto b (x :: l) = x :: upto b l := by simp [upto, h]
      have hb : (x == b) = false := by simpa using h
      rw [e1]
      rcases ih with ⟨h1, h2⟩ | ⟨h1, h2, h3⟩
      · left
        exact ⟨by simp [Lib.indexByte, hb, h1], by rw [h2]⟩
      · right
        refine ⟨?_, by simp; omega, by simp [h3]⟩
        have : ¬ (((upto b l).length : Nat) : Int) = -1 := by omega
        simp [Lib.indexByte, hb, h1, this]
theorem idx_any (l : List UInt8) (c : UInt8) (w : World) :
    Calls Tryd.prog 84 #[.string (sv l), .string ⟨#[c]⟩] w fun e w' => e = .returned (.int .i64 (Lib.indexByte l c)) ∧ w' = w :=
  Any.stringslite_Index_one Tryd.idxL (sv l) c w
attribute [local irreducible] sv
set_option maxHeartbeats 800000 in
theorem cutS_any (l : List UInt8) (c : UInt8) (w : World) (hl : l.length ≤ 1048576) :
    Calls Tryd.prog 74 #[.string (sv l), .string ⟨#[c]⟩] w fun e w' => ∃ b, e = .returned (.tuple #[.string (sv (upto c l)), .string (sv (l.drop ((upto c l).length + 1))), .bool b]) ∧ Grew w w' := by
  have hsz := sv_size l
  have hI := idx_any l c w
  have HNIL : Hid ((⟨#[]⟩ : ByteArray) = sv []) := by rw [Hid]; unfold sv; rfl
  have hone : (⟨#[c]⟩ : ByteArray).size = 1 := rfl
  rcases indexByte_upto l c with ⟨h1, h2⟩ | ⟨h1, h2, h3⟩
  · rw [h1] at hI
    have HU : Hid (upto c l = l) := h2
    have HD : Hid (l.drop (l.length + 1) = []) := by rw [Hid, List.drop_of_length_le (by omega)]
    clear h1 h2
    go_enter Tryd.func74, Tryd.ntmps74
    go_wp2_with fail
    refine hI.mono ?_
    rintro e w1 ⟨rfl, rfl⟩
    go_wp2
    go_ret3
    exact ⟨false, by rw [HU.out, HD.out, ← HNIL.out]; rfl, Grew.refl _⟩
  · rw [h1] at hI
    have HT : Hid (l.take (upto c l).length = upto c l) := h3
    generalize (upto c l).length = k at *
    have e1 : (sv l).extract 0 k = sv (l.take k) := by rw [sv_sub, List.drop_zero, Nat.sub_zero]
    have e2 : (sv l).extract (k + 1) l.length = sv (l.drop (k + 1)) := by
      rw [sv_sub, List.take_of_length_le (by rw [List.length_drop]; omega)]
    have k0 : (0 : Int) ≤ (k : Int) := by omega
    have k1 : (k : Int) ≤ (l.length : Int) := by omega
    have k2 : (0 : Int) ≤ (k : Int) + 1 := by omega
    have k3 : (k : Int) + 1 ≤ (l.length : Int) := by omega
    have k4 : ((k : Int) + 1).toNat = k + 1 := by omega
    clear h1 h2 h3
    go_enter Tryd.func74, Tryd.ntmps74
    go_wp2_with fail
    refine hI.mono ?_
    rintro e w1 ⟨rfl, rfl⟩
    go_wp2
    go_quiet (fail)
    go_wp2
    go_ret3
    exact ⟨true, by rw [← HT.out]; rfl, (Grew.refl _).drewN _⟩
set_option maxHeartbeats 400000 in
theorem cut_any (l : List UInt8) (c : UInt8) (w : World) (hl : l.length ≤ 1048576) :
    Calls Tryd.prog 61 #[.string (sv l), .string ⟨#[c]⟩] w fun e w' => ∃ b, e = .returned (.tuple #[.string (sv (upto c l)), .string (sv (l.drop ((upto c l).length + 1))), .bool b]) ∧ Grew w w' := by
  go_enter Tryd.func61, Tryd.ntmps61
  go_wp2_with fail
  refine (cutS_any l c w hl).mono ?_
  rintro e w1 ⟨b, rfl, hg⟩
  have HG : Hid (Grew w w1) := hg
  clear hg
  go_wp2
  go_ret3
  exact ⟨b, rfl, HG.out⟩
theorem bytesB (w : World) (t : ByteArray) (T : TypeId) : Below w.heap.size w (Lib.bytesWorld w T t) := Lib.bytesWorld_below _ _ _
theorem atoi_ok (l : List UInt8) (v : Int) (w : World) (hl : l.length ≤ 1048576) (h : Lib.atoiAll l = .ok v) :
    Calls Tryd.prog 62 #[.string (sv l)] w fun e w' => e = .returned (.tuple #[.int .i64 v, .nilIface]) ∧ Below w.heap.size w w' := by
  have hd : (sv l).data.toList = l := by unfold sv; simp
  have h2 := Any.strconv_Atoi_ok Tryd.atoiL (sv l) (by rw [sv_size]; omega) v (by rw [hd]; exact h) w
  refine h2.mono ?_
  rintro e w' ⟨he, hw⟩
  refine ⟨he, ?_⟩
  rcases hw with hw | ⟨t, hw⟩
  · rw [hw]; exact Below.refl _ _
  · rw [hw]; exact bytesB _ _ _
theorem has_any (s p : List UInt8) (w : World) :
    Calls Tryd.prog 63 #[.string (sv s), .string (sv p)] w fun e w' => e = .returned (.bool (Lib.hasPrefix s p)) ∧ w' = w := by
  have hd : ∀ l, (sv l).data.toList = l := fun l => by unfold sv; simp
  have h := Any.strings_HasPrefix Tryd.hasL (sv s) (sv p) w
  rw [hd, hd] at h
  exact h
end Go.Proofs.YtbnpliobigjapaaDoor
