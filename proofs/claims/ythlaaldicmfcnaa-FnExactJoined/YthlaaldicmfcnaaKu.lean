/-
  Several texts in one: Opb.
-/
import Derived.Test.YthlaaldicmfcnaaKq
import Derived.Lib.SmallJoins
import Derived.OpenShut
import Derived.ChangeOld
import Derived.ShutString
import Derived.Deep.Matrix
import Derived.Deep.Slices
import Derived.Deep.Strs
/-
  How a list of blocks, and a text, that come in are read.
-/
namespace Go.Proofs.Ythlaaldicmfcnaa
set_option linter.unusedVariables false
set_option linter.unusedSimpArgs false
open Go.ChangeShapes Go.WideShapes Go.ChangeAt Go.RowKit Go.Deep

theorem str_short {s : ByteArray} (h : s.size ≤ maxLen) : s.data.toList.length ≤ 9223372036854775807 := by
  have e : s.data.toList.length = s.size := by rw [Array.length_toList]; rfl
  rw [e]
  unfold maxLen at h
  exact h
set_option maxRecDepth 100000 in
theorem open_bks {H : Type} {enc : TypeId × Value → H} {w : World} {base : Nat} {v : Value} {d : DataW H} {p : List MemPlace} (hv : Value.okWide Try.prog w .any base 49 v) (h : DataW.Trod enc Try.prog w 0 (fun _ => true) true 49 v d p) :
    ∃ a cap cs, v = .slice a (List.length cs) cap ∧ BkS w a (List.length cs) cs ∧ FitsB cs ∧ LongB cs ∧ List.length cs ≤ cap ∧ cap ≤ maxLen := by
  obtain ⟨a, len, cap, rfl⟩ := okWide_slice Try.underlying49 hv
  obtain ⟨fuel, hf⟩ := h
  have hf' : DataW.trod enc Try.prog w 0 (fun _ => true) true fuel 49 [.slice a len cap] = some (d, p) := by simpa [Value.cells] using hf
  rcases open_slice Try.underlying49 hf' with ⟨h0, _⟩ | ⟨ad, l, c, m, n, D, Pl, hcs, _, hl, hm, hmm, _, hx⟩
  · simp at h0
    obtain ⟨rfl, rfl, rfl⟩ := h0
    exact ⟨none, 0, [], rfl, ⟨rfl, .inl rfl⟩, fun i hi => absurd hi (Nat.not_lt_zero _), fun i hi => absurd hi (Nat.not_lt_zero _), Nat.le_refl _, Nat.zero_le _⟩
  · simp at hcs
    obtain ⟨rfl, rfl, rfl⟩ := hcs
    have hlm : len ≤ m := by rw [hmm]; split <;> omega
    have ce : Try.prog.cellsOf 81 = 3 := by kernel_rfl
    have each : ∀ i, i < m → ∃ q : Blk, (w.cell? (ad.add (i * 3)) = some (.int .i64 q.1) ∧ w.cell? (ad.add (i * 3 + 1)) = some (.int .i64 q.2.1) ∧ w.cell? (ad.add (i * 3 + 2)) = some (.string (sv q.2.2))) ∧ I64b q.1 ∧ I64b q.2.1 ∧ q.2.2.length ≤ 9223372036854775807 := by
      intro i hi
      obtain ⟨cs', h1, h2⟩ := hx i hi
      rw [ce] at h1
      obtain ⟨_, hlen, hcell⟩ := World.cells?_some h1
      obtain ⟨y0, y1, y2, k, _, _, g0, g1, g2⟩ := trod_struct3 Try.underlying81 h2
      match cs', hlen with
      | [v0, v1, v2], _ =>
        have e2 : Try.prog.cellsOf 2 = 1 := by kernel_rfl
        have e9 : Try.prog.cellsOf 9 = 1 := by kernel_rfl
        simp [e2, e9] at g0 g1 g2
        obtain ⟨i0, r0, _, b0⟩ := DataW.trod_int Try.underlying2 g0
        obtain ⟨i1, r1, _, b1⟩ := DataW.trod_int Try.underlying2 g1
        obtain ⟨i2, r2, _, b2⟩ := DataW.trod_string Try.underlying9 g2
        simp at r0 r1 r2
        subst r0 r1 r2
        have c0 := hcell 0 (by omega)
        have c1 := hcell 1 (by omega)
        have c2 := hcell 2 (by omega)
        rw [add_add] at c0 c1 c2
        exact ⟨(i0, i1, i2.data.toList), ⟨by simpa using c0, by simpa using c1, by rw [← sv_of i2]; simpa using c2⟩, bounds_i64 b0, bounds_i64 b1, str_short b2⟩
    obtain ⟨q, hq⟩ := choose_lt each
    have hlen : ((List.range len).map q).length = len := by simp
    have hbat : ∀ i, i < len → bat ((List.range len).map q) i = q i := fun i hi => by simp [bat, List.getD, hi]
    refine ⟨some ad, cap, (List.range len).map q, by rw [hlen], ?_, fun i hi => ?_, fun i hi => ?_, by rw [hlen]; exact hl, hm⟩
    · rw [hlen]
      refine ⟨hlen, ?_⟩
      by_cases h0 : len = 0
      · exact .inl h0
      · obtain ⟨b, off, spot⟩ := ad
        have hspot : spot = none := by
          have := (hq 0 (by omega)).1.1
          simpa [Addr.add] using World.cell?_spot this
        subst hspot
        refine .inr ⟨b, off, rfl, fun i hi => ?_⟩
        rw [hbat i hi]
        obtain ⟨⟨c0, c1, c2⟩, _⟩ := hq i (by omega)
        rw [add_lit0] at c0 c1 c2
        exact ⟨c0, by rw [Nat.add_assoc]; exact c1, by rw [Nat.add_assoc]; exact c2⟩
    · rw [hlen] at hi
      rw [hbat i hi]
      exact ⟨(hq i (by omega)).2.1, (hq i (by omega)).2.2.1⟩
    · rw [hlen] at hi
      rw [hbat i hi]
      exact (hq i (by omega)).2.2.2
theorem open_txt {H : Type} {enc : TypeId × Value → H} {w : World} {base : Nat} {v : Value} {d : DataW H} {p : List MemPlace} (hv : Value.okWide Try.prog w .any base 9 v) (h : DataW.Trod enc Try.prog w 0 (fun _ => true) true 9 v d p) : ∃ s : List UInt8, v = .string (sv s) ∧ s.length ≤ 9223372036854775807 := by
  obtain ⟨s, rfl, _, _, hs⟩ := Go.ChangeMaps.open_string Try.underlying9 hv h
  exact ⟨s.data.toList, by rw [← sv_of s], str_short hs⟩
end Go.Proofs.Ythlaaldicmfcnaa
