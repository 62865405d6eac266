/-
  Several texts in one: Opr.
-/
import Derived.Test.YtbgkfiijfocgiaaHi
import Derived.Deep.Slices
import Derived.Deep.Strs
import Derived.Lib.SmallJoins
/-
  What the reading of a slice of rules that came in comes to.
-/
namespace Go.Proofs.Ytbgkfiijfocgiaa
set_option linter.unusedSimpArgs false
open Go.RowKit Go.Deep

def IsRus (w : World) (a : Option Addr) (len cap : Nat) (rs : List Ru) : Prop := RuS w a len rs ∧ len ≤ cap ∧ cap ≤ maxLen

set_option maxRecDepth 100000 in
theorem open_rus {H : Type} {enc : TypeId × Value → H} {w : World} {base : Nat} {spare : Nat → Bool} {held : Bool} {fuel len cap : Nat} {a : Option Addr} {x : DataW H × List MemPlace}
    (h : DataW.trod enc Try.prog w base spare held fuel 45 [.slice a len cap] = some x) : ∃ rs, IsRus w a len cap rs := by
  rcases open_slice Try.underlying45 h with ⟨h0, _⟩ | ⟨ad, l, c, m, n, D, Pl, hcs, _, hl, hm, hmm, _, hx⟩
  · simp at h0
    obtain ⟨rfl, rfl, rfl⟩ := h0
    exact ⟨[], ⟨rfl, .inl rfl⟩, Nat.le_refl _, Nat.zero_le _⟩
  · simp at hcs
    obtain ⟨rfl, rfl, rfl⟩ := hcs
    have hlm : len ≤ m := by rw [hmm]; split <;> omega
    have ce : Try.prog.cellsOf 50 = 4 := by kernel_rfl
    have each : ∀ i, i < m → ∃ q : Ru, w.cell? (ad.add (i * 4)) = some (.int .i64 q.to) ∧ w.cell? (ad.add (i * 4 + 1)) = some (.int .i64 q.fr) ∧ w.cell? (ad.add (i * 4 + 2)) = some (.int .i64 q.pl) ∧ w.cell? (ad.add (i * 4 + 3)) = some (.int .i64 q.mo) := by
      intro i hi
      obtain ⟨cs', h1, h2⟩ := hx i hi
      rw [ce] at h1
      obtain ⟨_, hlen, hcell⟩ := World.cells?_some h1
      obtain ⟨y0, y1, y2, y3, k, _, _, g0, g1, g2, g3⟩ := Joins.trod_struct4 Try.underlying50 h2
      match cs', hlen with
      | [v0, v1, v2, v3], _ =>
        have e2 : Try.prog.cellsOf 2 = 1 := by kernel_rfl
        simp [e2] at g0 g1 g2 g3
        obtain ⟨i0, r0, _, _⟩ := DataW.trod_int Try.underlying2 g0
        obtain ⟨i1, r1, _, _⟩ := DataW.trod_int Try.underlying2 g1
        obtain ⟨i2, r2, _, _⟩ := DataW.trod_int Try.underlying2 g2
        obtain ⟨i3, r3, _, _⟩ := DataW.trod_int Try.underlying2 g3
        simp at r0 r1 r2 r3
        subst r0 r1 r2 r3
        have c0 := hcell 0 (by omega)
        have c1 := hcell 1 (by omega)
        have c2 := hcell 2 (by omega)
        have c3 := hcell 3 (by omega)
        rw [add_add] at c0 c1 c2 c3
        exact ⟨⟨i0, i1, i2, i3⟩, by simpa using c0, by simpa using c1, by simpa using c2, by simpa using c3⟩
    obtain ⟨q, hq⟩ := choose_lt each
    have hln : ((List.range len).map q).length = len := by simp
    by_cases h0 : len = 0
    · exact ⟨(List.range len).map q, ⟨hln, .inl h0⟩, hl, hm⟩
    · obtain ⟨b, off, spot⟩ := ad
      have hspot : spot = none := by
        have := (hq 0 (by omega)).1
        simpa [Addr.add] using World.cell?_spot this
      subst hspot
      refine ⟨(List.range len).map q, ⟨hln, .inr ⟨b, off, rfl, fun i hi => ?_⟩⟩, hl, hm⟩
      have e : ruAt ((List.range len).map q) i = q i := by simp [ruAt, hi]
      obtain ⟨c0, c1, c2, c3⟩ := hq i (by omega)
      rw [add_lit0] at c0 c1 c2 c3
      rw [e]
      exact ⟨c0, by rw [Nat.add_assoc]; exact c1, by rw [Nat.add_assoc]; exact c2, by rw [Nat.add_assoc]; exact c3⟩
end Go.Proofs.Ytbgkfiijfocgiaa
