/-
  What the reading of a slice of events that came in comes to.
-/
import Derived.Test.YtacogcfdolmfpaaLawTok
import Derived.Deep.Slices
import Derived.Deep.Strs
namespace Go.Proofs.Ytacogcfdolmfpaa
open Go.RowKit Go.Deep

def IsEvs (w : World) (a : Option Addr) (len cap : Nat) (es : List Ev) : Prop := EvS w a len es ∧ len ≤ cap ∧ cap ≤ maxLen

set_option maxRecDepth 100000 in
theorem open_evs {H : Type} {enc : TypeId × Value → H} {w : World} {base : Nat} {spare : Nat → Bool} {held : Bool} {fuel len cap : Nat} {a : Option Addr} {x : DataW H × List MemPlace}
    (h : DataW.trod enc Try.prog w base spare held fuel 49 [.slice a len cap] = some x) : ∃ es, IsEvs w a len cap es := by
  rcases open_slice Try.underlying49 h with ⟨h0, _⟩ | ⟨ad, l, c, m, n, D, Pl, hcs, _, hl, hm, hmm, _, hx⟩
  · simp at h0
    obtain ⟨rfl, rfl, rfl⟩ := h0
    exact ⟨[], .inl rfl, Nat.le_refl _, Nat.zero_le _⟩
  · simp at hcs
    obtain ⟨rfl, rfl, rfl⟩ := hcs
    have hlm : len ≤ m := by rw [hmm]; split <;> omega
    have ce : Try.prog.cellsOf 102 = 3 := by kernel_rfl
    have each : ∀ i, i < m → ∃ q : Ev, w.cell? (ad.add (i * 3)) = some (.int .i64 q.n) ∧ w.cell? (ad.add (i * 3 + 1)) = some (.int .i64 q.k) ∧ w.cell? (ad.add (i * 3 + 2)) = some (.int .i64 q.m) := by
      intro i hi
      obtain ⟨cs', h1, h2⟩ := hx i hi
      rw [ce] at h1
      obtain ⟨_, hlen, hcell⟩ := World.cells?_some h1
      obtain ⟨y0, y1, y2, k, _, _, g0, g1, g2⟩ := trod_struct3 Try.underlying102 h2
      match cs', hlen with
      | [v0, v1, v2], _ =>
        have e2 : Try.prog.cellsOf 2 = 1 := by kernel_rfl
        simp [e2] at g0 g1 g2
        obtain ⟨i0, r0, _, _⟩ := DataW.trod_int Try.underlying2 g0
        obtain ⟨i1, r1, _, _⟩ := DataW.trod_int Try.underlying2 g1
        obtain ⟨i2, r2, _, _⟩ := DataW.trod_int Try.underlying2 g2
        simp at r0 r1 r2
        subst r0 r1 r2
        have c0 := hcell 0 (by omega)
        have c1 := hcell 1 (by omega)
        have c2 := hcell 2 (by omega)
        rw [add_add] at c0 c1 c2
        exact ⟨⟨i0, i1, i2⟩, by simpa using c0, by simpa using c1, by simpa using c2⟩
    obtain ⟨q, hq⟩ := choose_lt each
    by_cases h0 : len = 0
    · exact ⟨[], .inl h0, hl, hm⟩
    · obtain ⟨b, off, spot⟩ := ad
      have hspot : spot = none := by
        have := (hq 0 (by omega)).1
        simpa [Addr.add] using World.cell?_spot this
      subst hspot
      refine ⟨(List.range len).map q, .inr ⟨b, off, rfl, fun i hi => ?_⟩, hl, hm⟩
      have e : evAt ((List.range len).map q) i = q i := by simp [evAt, hi]
      obtain ⟨c0, c1, c2⟩ := hq i (by omega)
      rw [add_lit0] at c0 c1 c2
      rw [e]
      exact ⟨c0, by rw [Nat.add_assoc]; exact c1, by rw [Nat.add_assoc]; exact c2⟩
end Go.Proofs.Ytacogcfdolmfpaa
