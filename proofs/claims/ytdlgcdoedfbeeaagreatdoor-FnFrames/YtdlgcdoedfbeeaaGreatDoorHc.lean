/-
  Several texts in one: Iat.
-/
import Derived.Test.YtdlgcdoedfbeeaaGreatDoorGy
import Derived.Test.YtdlgcdoedfbeeaaGreatDoorHa
import Derived.BigQuiet
/-
  The contract of the program's frameAt: strings.Cut, strconv.Atoi, strings.Clone and strings.HasPrefix by the library's contracts.
-/
namespace Go.Proofs.YtdlgcdoedfbeeaaGreatDoor
set_option linter.unusedSimpArgs false
set_option linter.unusedVariables false
open Go.RowKit Go.Sort Go.Shelf

/-- What the package-level variables hold: a is where the program's one sentinel lies. -/
structure Glob (a : Addr) (w : World) : Prop where
  tab : Tab w
  syn : ∃ tp p, w.cell? ⟨4, 0, none⟩ = some (.iface tp p)
  rng : ∃ tp p, w.cell? ⟨5, 0, none⟩ = some (.iface tp p)
  err : w.cell? ⟨0, 0, none⟩ = some (.iface 144 (.pointer (some a)))
  typ : w.cell? ⟨1, 0, none⟩ = some (.iface 94 (.agg #[hdl 42]))
theorem cellB {w w' : World} {x : Addr} {v : Value} (h : w.cell? x = some v) (hb : Below w.heap.size w w') : w'.cell? x = some v := (hb.cell (World.block_lt_of_cell? _ _ h)).trans h
theorem Glob.below {a : Addr} {w w' : World} (h : Glob a w) (hb : Below w.heap.size w w') : Glob a w' := by
  obtain ⟨tp, p, h1⟩ := h.syn
  obtain ⟨tp2, p2, h2⟩ := h.rng
  exact ⟨h.tab.below hb (Nat.le_refl _), ⟨tp, p, cellB h1 hb⟩, ⟨tp2, p2, cellB h2 hb⟩, cellB h.err hb, cellB h.typ hb⟩

theorem indexByte_upto (l : List UInt8) (b : UInt8) : (Lib.indexByte l b = -1 ∧ upto b l = l) ∨ (Lib.indexByte l b = ((upto b l).length : Nat) ∧ (upto b l).length + 1 ≤ l.length ∧ l.take (upto b l).length = upto b l) := by
  induction l with
  | nil => exact .inl ⟨rfl, rfl⟩
  | cons x l ih =>
    by_cases h : x = b
    · subst h
      right
      simp [Lib.indexByte, upto]
    · have e1 : upto b (x :: l) = x :: upto b l := by simp [upto, h]
      have hb : (x == b) = false := by simpa using h
      rw [e1]
      rcases ih with ⟨h1, h2⟩ | ⟨h1, h2, h3⟩
      · left
        exact ⟨by simp [Lib.indexByte, hb, h1], by rw [h2]⟩
      · right
        refine ⟨?_, by simp; omega, by simp [h3]⟩
        have : ¬ (((upto b l).length : Nat) : Int) = -1 := by omega
        simp [Lib.indexByte, hb, h1, this]
theorem idx_any (l : List UInt8) (c : UInt8) (w : World) :
    Calls Tryz.prog 71 #[.string (sv l), .string ⟨#[c]⟩] w fun e w' => e = .returned (.int .i64 (Lib.indexByte l c)) ∧ w' = w :=
  Any.stringslite_Index_one Tryz.idxL (sv l) c w
attribute [local irreducible] sv
set_option maxHeartbeats 800000 in
theorem cutS_any (l : List UInt8) (c : UInt8) (w : World) (hl : l.length ≤ 1048576) :
    Calls Tryz.prog 61 #[.string (sv l), .string ⟨#[c]⟩] w fun e w' => ∃ b, e = .returned (.tuple #[.string (sv (upto c l)), .string (sv (l.drop ((upto c l).length + 1))), .bool b]) ∧ Grew w w' := by
  have hsz := sv_size l
  have hI := idx_any l c w
  have HNIL : Hid ((⟨#[]⟩ : ByteArray) = sv []) := by rw [Hid]; unfold sv; rfl
  have hone : (⟨#[c]⟩ : ByteArray).size = 1 := rfl
  rcases indexByte_upto l c with ⟨h1, h2⟩ | ⟨h1, h2, h3⟩
  · rw [h1] at hI
    have HU : Hid (upto c l = l) := h2
    have HD : Hid (l.drop (l.length + 1) = []) := by rw [Hid, List.drop_of_length_le (by omega)]
    clear h1 h2
    go_enter Tryz.func61, Tryz.ntmps61
    go_wp2_with fail
    refine hI.mono ?_
    rintro e w1 ⟨rfl, rfl⟩
    go_wp2
    go_ret3
    exact ⟨false, by rw [HU.out, HD.out, ← HNIL.out]; rfl, Grew.refl _⟩
  · rw [h1] at hI
    have HT : Hid (l.take (upto c l).length = upto c l) := h3
    generalize (upto c l).length = k at *
    have e1 : (sv l).extract 0 k = sv (l.take k) := by rw [sv_sub, List.drop_zero, Nat.sub_zero]
    have e2 : (sv l).extract (k + 1) l.length = sv (l.drop (k + 1)) := by
      rw [sv_sub, List.take_of_length_le (by rw [List.length_drop]; omega)]
    have k0 : (0 : Int) ≤ (k : Int) := by omega
    have k1 : (k : Int) ≤ (l.length : Int) := by omega
    have k2 : (0 : Int) ≤ (k : Int) + 1 := by omega
    have k3 : (k : Int) + 1 ≤ (l.length : Int) := by omega
    have k4 : ((k : Int) + 1).toNat = k + 1 := by omega
    clear h1 h2 h3
    go_enter Tryz.func61, Tryz.ntmps61
    go_wp2_with fail
    refine hI.mono ?_
    rintro e w1 ⟨rfl, rfl⟩
    go_wp2
    go_quiet (fail)
    go_wp2
    go_ret3
    exact ⟨true, by rw [← HT.out]; rfl, (Grew.refl _).drewN _⟩
set_option maxHeartbeats 400000 in
theorem cut_any (l : List UInt8) (c : UInt8) (w : World) (hl : l.length ≤ 1048576) :
    Calls Tryz.prog 48 #[.string (sv l), .string ⟨#[c]⟩] w fun e w' => ∃ b, e = .returned (.tuple #[.string (sv (upto c l)), .string (sv (l.drop ((upto c l).length + 1))), .bool b]) ∧ Grew w w' := by
  go_enter Tryz.func48, Tryz.ntmps48
  go_wp2_with fail
  refine (cutS_any l c w hl).mono ?_
  rintro e w1 ⟨b, rfl, hg⟩
  have HG : Hid (Grew w w1) := hg
  clear hg
  go_wp2
  go_ret3
  exact ⟨b, rfl, HG.out⟩
theorem bytesB (w : World) (t : ByteArray) (T : TypeId) : Below w.heap.size w (Lib.bytesWorld w T t) := Lib.bytesWorld_below _ _ _
theorem atoi_ok (l : List UInt8) (v : Int) (w : World) (hl : l.length ≤ 1048576) (h : Lib.atoiAll l = .ok v) :
    Calls Tryz.prog 49 #[.string (sv l)] w fun e w' => e = .returned (.tuple #[.int .i64 v, .nilIface]) ∧ Below w.heap.size w w' := by
  have hd : (sv l).data.toList = l := by unfold sv; simp
  have h2 := Any.strconv_Atoi_ok Tryz.atoiL (sv l) (by rw [sv_size]; omega) v (by rw [hd]; exact h) w
  refine h2.mono ?_
  rintro e w' ⟨he, hw⟩
  refine ⟨he, ?_⟩
  rcases hw with hw | ⟨t, hw⟩
  · rw [hw]; exact Below.refl _ _
  · rw [hw]; exact bytesB _ _ _
theorem atoi_bad (a : Addr) (l : List UInt8) (w : World) (hl : l.length ≤ 1048576) (h : ∀ v, Lib.atoiAll l ≠ .ok v) (hG : Glob a w) :
    Calls Tryz.prog 49 #[.string (sv l)] w fun e w' => ∃ k N, e = .returned (.tuple #[.int .i64 k, .iface 128 (.pointer (some ⟨N, 0, none⟩))]) ∧ Below w.heap.size w w' := by
  have hd : (sv l).data.toList = l := by unfold sv; simp
  cases hc : Lib.atoiAll l with
  | ok v => exact absurd hc (h v)
  | «syntax» =>
    obtain ⟨tp, p, hs⟩ := hG.syn
    refine (Any.strconv_Atoi_syntax Tryz.atoiL (sv l) (by rw [sv_size]; omega) (by rw [hd]; exact hc) (.iface tp p) w hs (.inr ⟨tp, p, rfl⟩)).mono ?_
    rintro e w' ⟨N, he, _, _, hb⟩
    exact ⟨_, N, he, hb⟩
  | range =>
    obtain ⟨tp, p, hs⟩ := hG.rng
    refine (Any.strconv_Atoi_range Tryz.atoiL (sv l) (by rw [sv_size]; omega) (by rw [hd]; exact hc) (.iface tp p) w hs (.inr ⟨tp, p, rfl⟩)).mono ?_
    rintro e w' ⟨N, he, _, _, hb⟩
    exact ⟨_, N, he, hb⟩
set_option maxHeartbeats 400000 in
theorem clone_any (l : List UInt8) (w : World) (hl : l.length ≤ 1048576) :
    Calls Tryz.prog 50 #[.string (sv l)] w fun e w' => e = .returned (.string (sv l)) ∧ Below w.heap.size w w' := by
  have h := Any.stringslite_Clone Tryz.cloneL (sv l) w (by rw [sv_size]; omega)
  go_enter Tryz.func50, Tryz.ntmps50
  go_wp2_with fail
  refine h.mono ?_
  rintro e w1 ⟨rfl, hb⟩
  have HB : Hid (Below w.heap.size w w1) := hb
  clear hb h
  go_wp2
  go_ret
  exact ⟨rfl, HB.out⟩
theorem has_any (s p : List UInt8) (w : World) :
    Calls Tryz.prog 51 #[.string (sv s), .string (sv p)] w fun e w' => e = .returned (.bool (Lib.hasPrefix s p)) ∧ w' = w := by
  have hd : ∀ l, (sv l).data.toList = l := fun l => by unfold sv; simp
  have h := Any.strings_HasPrefix Tryz.hasL (sv s) (sv p) w
  rw [hd, hd] at h
  exact h
end Go.Proofs.YtdlgcdoedfbeeaaGreatDoor
