/-
  Several texts in one: Opf.
-/
import Derived.Test.YtggieamhbfdmhaaLt
import Derived.Lib.SmallJoins
import Derived.OpenShut
import Derived.ChangeOld
import Derived.Deep.Matrix
import Derived.Deep.Grids
/-
  How lists of lists of numbers and lists of flags that come in are read.
-/
namespace Go.Proofs.Ytggieamhbfdmhaa
set_option linter.unusedVariables false
set_option linter.unusedSimpArgs false
open Go.ChangeShapes Go.WideShapes Go.ChangeAt Go.RowKit Go.Deep

theorem vec_openF {w : World} {x : Option Addr} {l c : Nat} {zs : List Int} (hl : l ≤ c) (hz : zs.length = c) (hw : ∀ n ∈ zs, (Lit.int .i64 n).wf = true) (h0 : x = none → c = 0) (hc : ∀ a', x = some a' → ∀ j, j < c → w.cell? (a'.add j) = some (.int .i64 (zs.getD j 0))) :
    Vec w x (zs.take l).length (zs.take l) ∧ (zs.take l).length = l ∧ Fits (zs.take l) := by
  have hlen : (zs.take l).length = l := by rw [List.length_take]; omega
  have hfit : Fits (zs.take l) := fun n hn => bounds_i64 (hw n (List.mem_of_mem_take hn))
  refine ⟨⟨rfl, hfit, ?_⟩, hlen, hfit⟩
  rcases Nat.eq_zero_or_pos l with e | e
  · exact .inl (by omega)
  · cases x with
    | none => exact absurd (h0 rfl) (by omega)
    | some ad =>
      obtain ⟨b, off, spot⟩ := ad
      have hs : spot = none := by
        have := hc _ rfl 0 (by omega)
        simpa [Addr.add] using World.cell?_spot this
      subst hs
      refine .inr ⟨b, off, rfl, fun i hi => ?_⟩
      have h1 := hc _ rfl i (by omega)
      rw [add_lit0] at h1
      rw [h1]
      simp [el, List.getD, List.getElem?_take_of_lt (show i < l by omega)]
set_option maxRecDepth 100000 in
theorem open_iis {H : Type} {enc : TypeId × Value → H} {W : World} {base : Nat} {v : Value} {d : DataW H} {p : List MemPlace} (hv : Value.okWide Try.prog W .any base 33 v) (h : DataW.Trod enc Try.prog W 0 (fun _ => true) true 33 v d p) :
    ∃ a cap Hs, v = .slice a (List.length Hs) cap ∧ VV W a (List.length Hs) cap Hs := by
  obtain ⟨a, len, cap, rfl⟩ := okWide_slice Try.underlying33 hv
  obtain ⟨fuel, hf⟩ := h
  have hf' : DataW.trod enc Try.prog W 0 (fun _ => true) true fuel 33 [.slice a len cap] = some (d, p) := by simpa [Value.cells] using hf
  rcases open_int_rows Try.underlying33 Try.underlying24 Try.underlying2 (by kernel_rfl) (by kernel_rfl) hf' with ⟨hcs, _⟩ | ⟨ad, l, c, A, L, C, Z, hcs, _, hl, hm, _, hx⟩
  · simp at hcs
    obtain ⟨rfl, rfl, rfl⟩ := hcs
    exact ⟨none, 0, [], rfl, ⟨rfl, Nat.le_refl _, Nat.zero_le _, fun i hi => absurd hi (Nat.not_lt_zero _)⟩⟩
  · simp at hcs
    obtain ⟨rfl, rfl, rfl⟩ := hcs
    have hlen : ((List.range len).map fun r => (Z r).take (L r)).length = len := by simp
    have hrow : ∀ i, i < len → row ((List.range len).map fun r => (Z r).take (L r)) i = (Z i).take (L i) := fun i hi => by simp [row, List.getD, hi]
    have each : ∀ i, i < len → Vec W (A i) ((Z i).take (L i)).length ((Z i).take (L i)) ∧ ((Z i).take (L i)).length = L i ∧ Fits ((Z i).take (L i)) := fun i hi => by
      obtain ⟨_, h1, _, h2, h3, h4, h5⟩ := hx i (by omega)
      exact vec_openF h1 h2 h3 h4 (fun a' ha => (h5 a' ha).2)
    refine ⟨some ad, cap, (List.range len).map fun r => (Z r).take (L r), by rw [hlen], ?_⟩
    rw [hlen]
    refine ⟨hlen, hl, hm, fun i hi => ?_⟩
    obtain ⟨b, off, spot⟩ := ad
    have hs : spot = none := by
      have := (hx 0 (by omega)).1
      simpa [Addr.add] using World.cell?_spot this
    subst hs
    obtain ⟨hc, h1, h2, _⟩ := hx i (by omega)
    obtain ⟨v1, v2, v3⟩ := each i hi
    rw [add_lit0] at hc
    rw [hrow i hi]
    exact ⟨b, off, A i, C i, rfl, by rw [v2]; exact hc, v1, by omega, h2⟩
set_option maxRecDepth 100000 in
theorem open_bos {H : Type} {enc : TypeId × Value → H} {W : World} {base : Nat} {v : Value} {d : DataW H} {p : List MemPlace} (hv : Value.okWide Try.prog W .any base 34 v) (h : DataW.Trod enc Try.prog W 0 (fun _ => true) true 34 v d p) :
    ∃ a cap al, v = .slice a (List.length al) cap ∧ FlS W a al ∧ List.length al ≤ cap ∧ cap ≤ maxLen := by
  obtain ⟨a, len, cap, rfl⟩ := okWide_slice Try.underlying34 hv
  obtain ⟨fuel, hf⟩ := h
  have hf' : DataW.trod enc Try.prog W 0 (fun _ => true) true fuel 34 [.slice a len cap] = some (d, p) := by simpa [Value.cells] using hf
  rcases open_bools Try.underlying34 Try.underlying4 (by kernel_rfl) hf' with ⟨hcs, _⟩ | ⟨ad, l, c, B, hcs, _, hl, hm, _, hx⟩
  · simp at hcs
    obtain ⟨rfl, rfl, rfl⟩ := hcs
    exact ⟨none, 0, [], rfl, .inl rfl, Nat.le_refl _, Nat.zero_le _⟩
  · simp at hcs
    obtain ⟨rfl, rfl, rfl⟩ := hcs
    have hlen : ((List.range len).map B).length = len := by simp
    have hget : ∀ i, i < len → fl ((List.range len).map B) i = B i := fun i hi => by simp [fl, List.getD, hi]
    refine ⟨some ad, cap, (List.range len).map B, by rw [hlen], ?_, by rw [hlen]; exact hl, hm⟩
    by_cases h0 : len = 0
    · exact .inl (by rw [hlen]; exact h0)
    · obtain ⟨b, off, spot⟩ := ad
      have hs : spot = none := by
        have := hx 0 (by omega)
        simpa [Addr.add] using World.cell?_spot this
      subst hs
      refine .inr ⟨b, off, rfl, fun i hi => ?_⟩
      rw [hlen] at hi
      rw [hget i hi]
      have := hx i (by omega)
      rw [add_lit0] at this
      exact this
end Go.Proofs.Ytggieamhbfdmhaa
