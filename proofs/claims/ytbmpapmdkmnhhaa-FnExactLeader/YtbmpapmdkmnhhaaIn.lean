/-
  Several texts in one: Opw.
-/
import Derived.Test.YtbmpapmdkmnhhaaMa
import Derived.Lib.SmallJoins
import Derived.OpenShut
import Derived.ChangeOld
import Derived.Deep.Matrix
import Derived.Deep.Grids
/-
  How a view and a list of numbers that come in are read.
-/
namespace Go.Proofs.Ytbmpapmdkmnhhaa
set_option linter.unusedVariables false
set_option linter.unusedSimpArgs false
open Go.ChangeShapes Go.WideShapes Go.ChangeAt Go.RowKit Go.Deep

theorem vec_openW {w : World} {x : Option Addr} {l c : Nat} {zs : List Int} (hl : l ≤ c) (hz : zs.length = c) (hw : ∀ n ∈ zs, (Lit.int .i64 n).wf = true) (h0 : x = none → c = 0) (hc : ∀ a', x = some a' → ∀ j, j < c → w.cell? (a'.add j) = some (.int .i64 (zs.getD j 0))) :
    Vec w x (zs.take l).length (zs.take l) ∧ (zs.take l).length = l := by
  have hlen : (zs.take l).length = l := by rw [List.length_take]; omega
  have hfit : Fits (zs.take l) := fun n hn => bounds_i64 (hw n (List.mem_of_mem_take hn))
  refine ⟨⟨rfl, hfit, ?_⟩, hlen⟩
  rcases Nat.eq_zero_or_pos l with e | e
  · exact .inl (by omega)
  · cases x with
    | none => exact absurd (h0 rfl) (by omega)
    | some ad =>
      obtain ⟨b, off, spot⟩ := ad
      have hs : spot = none := by
        have := hc _ rfl 0 (by omega)
        simpa [Addr.add] using World.cell?_spot this
      subst hs
      refine .inr ⟨b, off, rfl, fun i hi => ?_⟩
      have h1 := hc _ rfl i (by omega)
      rw [add_lit0] at h1
      rw [h1]
      simp [el, List.getD, List.getElem?_take_of_lt (show i < l by omega)]
theorem row_openW {w : World} {x : Option Addr} {l c : Nat} {zs : List Int} (h : IsRow .i64 w x l c zs) : ∃ M : List Int, M.length = l ∧ Vec w x M.length M ∧ M.length ≤ maxLen := by
  rcases h with ⟨rfl, rfl, rfl, rfl⟩ | ⟨ad, rfl, hl, hm, hz, hcell, hwz⟩
  · exact ⟨[], rfl, ⟨rfl, fun x hx => absurd hx List.not_mem_nil, .inl rfl⟩, Nat.zero_le _⟩
  · obtain ⟨h1, h2⟩ := vec_openW (w := w) (x := some ad) hl (by simpa using hz) hwz (fun h => by cases h) (fun a' e j hj => by cases e; exact hcell j (by omega))
    exact ⟨zs.take l, h2, h1, by rw [h2]; exact Nat.le_trans hl hm⟩
theorem open_veW {H : Type} {enc : TypeId × Value → H} {W : World} {base : Nat} {v : Value} {d : DataW H} {p : List MemPlace} (hv : Value.okWide Try.prog W .any base 24 v) (h : DataW.Trod enc Try.prog W 0 (fun _ => true) true 24 v d p) :
    ∃ a cap M, v = .slice a (List.length M) cap ∧ Vec W a (List.length M) M ∧ List.length M ≤ maxLen := by
  obtain ⟨a, len, cap, rfl⟩ := okWide_slice Try.underlying24 hv
  obtain ⟨fuel, hf⟩ := h
  obtain ⟨z, hw⟩ : ∃ zs, IsRow .i64 W a len cap zs := by
    rcases open_ints Try.underlying24 Try.underlying2 (by kernel_rfl) hf with ⟨hcs, _⟩ | ⟨x, l, c, zs, hcs, _, hl, hm, hz, _, hcell, hwz⟩
    · simp [Value.cells] at hcs
      obtain ⟨rfl, rfl, rfl⟩ := hcs
      exact ⟨[], .inl ⟨rfl, rfl, rfl, rfl⟩⟩
    · simp [Value.cells] at hcs
      obtain ⟨rfl, rfl, rfl⟩ := hcs
      exact ⟨zs, .inr ⟨_, rfl, hl, hm, by simpa using hz, hcell, hwz⟩⟩
  obtain ⟨M, rfl, h1, h2⟩ := row_openW hw
  exact ⟨a, cap, M, rfl, h1, h2⟩
set_option maxRecDepth 100000 in
theorem open_vw {H : Type} {enc : TypeId × Value → H} {W : World} {base : Nat} {v : Value} {d : DataW H} {p : List MemPlace} (hv : Value.okWide Try.prog W .any base 50 v) (h : DataW.Trod enc Try.prog W 0 (fun _ => true) true 50 v d p) :
    ∃ F a cap M, v = vwV F a (List.length M) cap ∧ I64v F ∧ Vec W a (List.length M) M ∧ List.length M ≤ maxLen := by
  obtain ⟨c0, c1, y0, y1, n, rfl, rfl, rfl, g0, g1⟩ := Joins.open_agg2 Try.underlying50 (by kernel_rfl) (by kernel_rfl) hv h
  obtain ⟨i0, e0, _, b0⟩ := DataW.trod_int Try.underlying2 g0
  simp at e0
  subst e0
  obtain ⟨a, len, cap, z, rfl, hw⟩ : ∃ a len cap zs, c1 = .slice a len cap ∧ IsRow .i64 W a len cap zs := by
    rcases open_ints Try.underlying24 Try.underlying2 (by kernel_rfl) g1 with ⟨hcs, _⟩ | ⟨x, l, c, zs, hcs, _, hl, hm, hz, _, hcell, hwz⟩
    · simp at hcs
      exact ⟨none, 0, 0, [], hcs, .inl ⟨rfl, rfl, rfl, rfl⟩⟩
    · simp at hcs
      exact ⟨some x, l, c, zs, hcs, .inr ⟨_, rfl, hl, hm, by simpa using hz, hcell, hwz⟩⟩
  obtain ⟨M, rfl, h1, h2⟩ := row_openW hw
  exact ⟨i0, a, cap, M, rfl, bounds_i64 b0, h1, h2⟩
end Go.Proofs.Ytbmpapmdkmnhhaa
