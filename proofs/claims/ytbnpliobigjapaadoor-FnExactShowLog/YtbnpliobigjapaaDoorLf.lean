/-
  Several texts in one: Opg.
-/
import Derived.Test.YtbnpliobigjapaaDoorLa
import Derived.Lib.SmallJoins
import Derived.OpenShut
import Derived.ChangeOld
import Derived.ShutString
import Derived.Deep.Matrix
import Derived.Deep.Slices
import Derived.Deep.Strs
/-
  How a log that comes in is read.
-/
namespace Go.Proofs.YtbnpliobigjapaaDoor
set_option linter.unusedVariables false
set_option linter.unusedSimpArgs false
open Go.ChangeShapes Go.WideShapes Go.ChangeAt Go.RowKit Go.Deep

theorem str_shortG {s : ByteArray} (h : s.size ≤ maxLen) : s.data.toList.length ≤ 9223372036854775807 := by
  have e : s.data.toList.length = s.size := by rw [Array.length_toList]; rfl
  rw [e]
  unfold maxLen at h
  exact h
set_option maxRecDepth 100000 in
theorem open_txtG {H : Type} {enc : TypeId × Value → H} {w : World} {base : Nat} {v : Value} {d : DataW H} {p : List MemPlace} (hv : Value.okWide Tryd.prog w .any base 9 v) (h : DataW.Trod enc Tryd.prog w 0 (fun _ => true) true 9 v d p) : ∃ s : List UInt8, v = .string (sv s) ∧ s.length ≤ 9223372036854775807 := by
  obtain ⟨s, rfl, _, _, hs⟩ := Go.ChangeMaps.open_string Tryd.underlying9 hv h
  exact ⟨s.data.toList, by rw [← sv_of s], str_shortG hs⟩
set_option maxRecDepth 100000 in
theorem open_log {H : Type} {enc : TypeId × Value → H} {W : World} {base : Nat} {v : Value} {d : DataW H} {p : List MemPlace} (hv : Value.okWide Tryd.prog W .any base 42 v) (h : DataW.Trod enc Tryd.prog W 0 (fun _ => true) true 42 v d p) :
    ∃ F a cap T, v = lgV F a (List.length T) cap ∧ I64l F ∧ TxS W a T ∧ LongT T ∧ List.length T ≤ maxLen := by
  obtain ⟨c0, c1, y0, y1, n, rfl, rfl, rfl, g0, g1⟩ := Joins.open_agg2 Tryd.underlying42 (by kernel_rfl) (by kernel_rfl) hv h
  obtain ⟨i0, e0, _, b0⟩ := DataW.trod_int Tryd.underlying2 g0
  simp at e0
  subst e0
  rcases open_strs Tryd.underlying24 Tryd.underlying9 (by kernel_rfl) g1 with ⟨hcs, _⟩ | ⟨ad, len, cap, m, S, hcs, _, hl, hm, hmm, _, hx⟩
  · simp at hcs
    subst hcs
    exact ⟨i0, none, 0, [], rfl, bounds_i64 b0, .inl rfl, fun i hi => absurd hi (Nat.not_lt_zero _), Nat.zero_le _⟩
  · simp at hcs
    subst hcs
    have hlm : len ≤ m := by rw [hmm]; split <;> omega
    have hlen : ((List.range len).map fun r => (S r).data.toList).length = len := by simp
    have hget : ∀ i, i < len → ((List.range len).map fun r => (S r).data.toList).getD i [] = (S i).data.toList := fun i hi => by simp [List.getD, hi]
    refine ⟨i0, some ad, cap, (List.range len).map fun r => (S r).data.toList, by rw [hlen]; rfl, bounds_i64 b0, ?_, fun i hi => ?_, by rw [hlen]; exact Nat.le_trans hl hm⟩
    · by_cases h0 : len = 0
      · exact .inl (by rw [hlen]; exact h0)
      · obtain ⟨b, off, spot⟩ := ad
        have hs : spot = none := by
          have := (hx 0 (by omega)).1
          simpa [Addr.add] using World.cell?_spot this
        subst hs
        refine .inr ⟨b, off, rfl, fun i hi => ?_⟩
        rw [hlen] at hi
        rw [hget i hi]
        have hc := (hx i (by omega)).1
        rw [add_lit0] at hc
        rw [hc, ← sv_of]
    · rw [hlen] at hi
      rw [hget i hi]
      exact str_shortG (hx i (by omega)).2
end Go.Proofs.YtbnpliobigjapaaDoor
