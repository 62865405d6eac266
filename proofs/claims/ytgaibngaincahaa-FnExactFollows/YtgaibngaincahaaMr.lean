/-
  Several texts in one: Ozr.
-/
import Derived.Test.YtgaibngaincahaaMp
import Derived.Lib.SmallJoins
import Derived.OpenShut
import Derived.ChangeOld
import Derived.ShutString
import Derived.Deep.Matrix
import Derived.Deep.Slices
import Derived.Deep.Strs
import Derived.Deep.Grids
/-
  How a row that comes in is read: out of its eight cells.
-/
namespace Go.Proofs.Ytgaibngaincahaa
set_option linter.unusedVariables false
set_option linter.unusedSimpArgs false
open Go.ChangeShapes Go.WideShapes Go.ChangeAt Go.RowKit Go.Deep

section
variable {H : Type} {enc : TypeId × Value → H} {P : Program} {W : World} {base : Nat} {held : Bool}
/-- A field of one cell of a struct that reads. -/
theorem field_of {t : TypeId} {fs : Array Field} {fuel : Nat} {cs : List Value} {x : DataW H × List MemPlace} (ht : P.underlying t = some (.struct fs)) (hone : oneCellFields P fs = true) (h : DataW.trod enc P W base (fun _ => true) held fuel t cs = some x) :
    cs.length = P.cellsOf t ∧ ∃ n, ∀ (i : Nat) (f : Field) (c : Value), fs[i]? = some f → cs[i]? = some c → ∃ y, DataW.trod enc P W base (fun _ => true) held n f.type [c] = some y := by
  obtain ⟨xs, n, _, rfl, hl, hlen, hf⟩ := DataW.trod_struct ht h
  refine ⟨hl, n, fun i f c hi hc => ?_⟩
  obtain ⟨o, k⟩ := hone_of hone i f hi
  have h1 := hf i f hi
  have hix : i < xs.length := by
    rw [hlen]
    exact (Array.getElem?_eq_some_iff.1 hi).1
  have e : (cs.drop i).take 1 = [c] := by
    have hic := (List.getElem?_eq_some_iff.1 hc).1
    have hcc := (List.getElem?_eq_some_iff.1 hc).2
    rw [List.drop_eq_getElem_cons hic, hcc]
    rfl
  rw [o, k, e, List.getElem?_eq_getElem hix] at h1
  exact ⟨_, h1⟩
/-- A cell that reads as a list of numbers. -/
theorem ints_of {t e : TypeId} {fuel : Nat} {c : Value} {y : DataW H × List MemPlace} (ht : P.underlying t = some (.slice e)) (he : P.underlying e = some (.int .i64)) (hc : P.cellsOf e = 1) (h : DataW.trod enc P W base (fun _ => true) held fuel t [c] = some y) :
    ∃ a cap M, c = .slice a (List.length M) cap ∧ Vec W a (List.length M) M ∧ List.length M ≤ maxLen := by
  obtain ⟨a, len, cap, z, rfl, hw⟩ : ∃ a len cap zs, c = .slice a len cap ∧ IsRow .i64 W a len cap zs := by
    rcases open_ints ht he hc h with ⟨hcs, _⟩ | ⟨x, l, c, zs, hcs, _, hl, hm, hz, _, hcell, hwz⟩
    · simp at hcs
      exact ⟨none, 0, 0, [], hcs, .inl ⟨rfl, rfl, rfl, rfl⟩⟩
    · simp at hcs
      exact ⟨some x, l, c, zs, hcs, .inr ⟨_, rfl, hl, hm, by simpa using hz, hcell, hwz⟩⟩
  rcases hw with ⟨rfl, rfl, rfl, rfl⟩ | ⟨ad, rfl, hl, hm, hz, hcell, hwz⟩
  · exact ⟨none, 0, [], rfl, ⟨rfl, fun x hx => absurd hx List.not_mem_nil, .inl rfl⟩, Nat.zero_le _⟩
  · have hz' : z.length = cap := by simpa using hz
    have hlen : (z.take len).length = len := by rw [List.length_take]; omega
    have hfit : Fits (z.take len) := fun n hn => bounds_i64 (hwz n (List.mem_of_mem_take hn))
    refine ⟨some ad, cap, z.take len, by rw [hlen], ⟨rfl, hfit, ?_⟩, by rw [hlen]; exact Nat.le_trans hl hm⟩
    rcases Nat.eq_zero_or_pos len with e | e
    · exact .inl (by omega)
    · obtain ⟨b, off, spot⟩ := ad
      have hs : spot = none := by
        have := hcell 0 (by omega)
        simpa [Addr.add] using World.cell?_spot this
      subst hs
      refine .inr ⟨b, off, rfl, fun i hi => ?_⟩
      have h1 := hcell i (by omega)
      rw [add_lit0] at h1
      rw [h1]
      simp [el, List.getD, List.getElem?_take_of_lt (show i < len by omega)]
theorem str_short16 {s : ByteArray} (h : s.size ≤ maxLen) : s.data.toList.length ≤ 9223372036854775807 := by
  have e : s.data.toList.length = s.size := by rw [Array.length_toList]; rfl
  rw [e]
  unfold maxLen at h
  exact h
/-- A cell that reads as a list of texts. -/
theorem txts_of {t e : TypeId} {fuel : Nat} {c : Value} {y : DataW H × List MemPlace} (ht : P.underlying t = some (.slice e)) (he : P.underlying e = some .string) (hc : P.cellsOf e = 1) (h : DataW.trod enc P W base (fun _ => true) held fuel t [c] = some y) :
    ∃ a cap T, c = .slice a (List.length T) cap ∧ TxS W a T ∧ LongT T ∧ List.length T ≤ maxLen := by
  rcases open_strs ht he hc h with ⟨hcs, _⟩ | ⟨ad, len, cap, m, S, hcs, _, hl, hm, hmm, _, hx⟩
  · simp at hcs
    subst hcs
    exact ⟨none, 0, [], rfl, .inl rfl, fun i hi => absurd hi (Nat.not_lt_zero _), Nat.zero_le _⟩
  · simp at hcs
    subst hcs
    have hlm : len ≤ m := by rw [hmm]; split <;> omega
    have hlen : ((List.range len).map fun r => (S r).data.toList).length = len := by simp
    have hget : ∀ i, i < len → ((List.range len).map fun r => (S r).data.toList).getD i [] = (S i).data.toList := fun i hi => by simp [List.getD, hi]
    refine ⟨some ad, cap, (List.range len).map fun r => (S r).data.toList, by rw [hlen], ?_, fun i hi => ?_, by rw [hlen]; exact Nat.le_trans hl hm⟩
    · by_cases h0 : len = 0
      · exact .inl (by rw [hlen]; exact h0)
      · obtain ⟨b, off, spot⟩ := ad
        have hs : spot = none := by
          have := (hx 0 (by omega)).1
          simpa [Addr.add] using World.cell?_spot this
        subst hs
        refine .inr ⟨b, off, rfl, fun i hi => ?_⟩
        rw [hlen] at hi
        rw [hget i hi]
        have hc := (hx i (by omega)).1
        rw [add_lit0] at hc
        rw [hc, ← sv_of]
    · rw [hlen] at hi
      rw [hget i hi]
      exact str_short16 (hx i (by omega)).2
end
theorem list8 {α : Type} {l : List α} (h : l.length = 8) : ∃ c0 c1 c2 c3 c4 c5 c6 c7, l = [c0, c1, c2, c3, c4, c5, c6, c7] := by
  match l, h with
  | [c0, c1, c2, c3, c4, c5, c6, c7], _ => exact ⟨c0, c1, c2, c3, c4, c5, c6, c7, rfl⟩
set_option maxRecDepth 100000 in
/-- Eight cells that read as a row. -/
theorem row_of {H : Type} {enc : TypeId × Value → H} {W : World} {base fuel : Nat} {held : Bool} {cs : List Value} {x : DataW H × List MemPlace} (h : DataW.trod enc Try.prog W base (fun _ => true) held fuel 47 cs = some x) :
    ∃ A r, cs = (rwC A r).toList ∧ RwS W A r ∧ LongT r.txt ∧ Rw64 r := by
  obtain ⟨hl, n, hf⟩ := field_of Try.underlying47 (by kernel_rfl) h
  rw [show Try.prog.cellsOf 47 = 8 by kernel_rfl] at hl
  obtain ⟨c0, c1, c2, c3, c4, c5, c6, c7, rfl⟩ := list8 hl
  obtain ⟨y0, g0⟩ := hf 0 _ c0 rfl rfl
  obtain ⟨y1, g1⟩ := hf 1 _ c1 rfl rfl
  obtain ⟨y2, g2⟩ := hf 2 _ c2 rfl rfl
  obtain ⟨y3, g3⟩ := hf 3 _ c3 rfl rfl
  obtain ⟨y4, g4⟩ := hf 4 _ c4 rfl rfl
  obtain ⟨y5, g5⟩ := hf 5 _ c5 rfl rfl
  obtain ⟨y6, g6⟩ := hf 6 _ c6 rfl rfl
  obtain ⟨y7, g7⟩ := hf 7 _ c7 rfl rfl
  obtain ⟨i0, e0, _, b0⟩ := DataW.trod_int Try.underlying2 g0
  obtain ⟨a1, d1, T, rfl, t1, t2, t3⟩ := txts_of Try.underlying33 Try.underlying9 (by kernel_rfl) g1
  obtain ⟨a2, d2, M2, rfl, u2, v2⟩ := ints_of Try.underlying24 Try.underlying2 (by kernel_rfl) g2
  obtain ⟨a3, d3, M3, rfl, u3, v3⟩ := ints_of Try.underlying24 Try.underlying2 (by kernel_rfl) g3
  obtain ⟨z4, e4, _⟩ := DataW.trod_bool Try.underlying4 g4
  obtain ⟨z5, e5, _⟩ := DataW.trod_bool Try.underlying4 g5
  obtain ⟨i6, e6, _, b6⟩ := DataW.trod_int Try.underlying2 g6
  obtain ⟨a7, d7, M7, rfl, u7, v7⟩ := ints_of Try.underlying24 Try.underlying2 (by kernel_rfl) g7
  simp at e0 e4 e5 e6
  subst e0 e4 e5 e6
  exact ⟨⟨a1, d1, a2, d2, a3, d3, a7, d7⟩, ⟨i0, T, M2, M3, z4, z5, i6, M7⟩, rfl, ⟨t1, u2, u3, u7, t3, v2, v3, v7⟩, t2, ⟨bounds_i64 b0, bounds_i64 b6⟩⟩
set_option maxRecDepth 100000 in
theorem open_row {H : Type} {enc : TypeId × Value → H} {W : World} {base : Nat} {v : Value} {d : DataW H} {p : List MemPlace} (hv : Value.okWide Try.prog W .any base 47 v) (h : DataW.Trod enc Try.prog W 0 (fun _ => true) true 47 v d p) :
    ∃ A r, v = rwV A r ∧ RwS W A r ∧ LongT r.txt ∧ Rw64 r := by
  obtain ⟨cs, rfl, hsz⟩ := okWide_struct Try.underlying47 hv
  obtain ⟨fuel, hf⟩ := h
  obtain ⟨A, r, e, h1, h2, h3⟩ := row_of hf
  have e' : cs.toList = (rwC A r).toList := by simpa [Value.cells] using e
  exact ⟨A, r, by rw [rwV, Array.toList_inj.1 e'], h1, h2, h3⟩
end Go.Proofs.Ytgaibngaincahaa
