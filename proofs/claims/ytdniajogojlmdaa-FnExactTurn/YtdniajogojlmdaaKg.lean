/-
  Several texts in one: Opl.
-/
import Derived.Test.YtdniajogojlmdaaJu
import Derived.Lib.SmallJoins
import Derived.OpenShut
import Derived.ChangeOld
import Derived.Deep.Matrix
import Derived.Deep.Slices
import Derived.Deep.Strs
/-
  How a relay and a list of passes that come in are read.
-/
namespace Go.Proofs.Ytdniajogojlmdaa
set_option linter.unusedVariables false
set_option linter.unusedSimpArgs false
open Go.ChangeShapes Go.WideShapes Go.ChangeAt Go.RowKit Go.Deep

theorem vec_open {w : World} {x : Option Addr} {l c : Nat} {zs : List Int} (hl : l ≤ c) (hz : zs.length = c) (hw : ∀ n ∈ zs, (Lit.int .i64 n).wf = true) (h0 : x = none → c = 0) (hc : ∀ a', x = some a' → ∀ j, j < c → w.cell? (a'.add j) = some (.int .i64 (zs.getD j 0))) :
    Vec w x (zs.take l).length (zs.take l) ∧ (zs.take l).length = l ∧ Fits (zs.take l) := by
  have hlen : (zs.take l).length = l := by rw [List.length_take]; omega
  have hfit : Fits (zs.take l) := fun n hn => bounds_i64 (hw n (List.mem_of_mem_take hn))
  refine ⟨⟨rfl, hfit, ?_⟩, hlen, hfit⟩
  rcases Nat.eq_zero_or_pos l with e | e
  · exact .inl (by omega)
  · cases x with
    | none => exact absurd (h0 rfl) (by omega)
    | some ad =>
      obtain ⟨b, off, spot⟩ := ad
      have hs : spot = none := by
        have := hc _ rfl 0 (by omega)
        simpa [Addr.add] using World.cell?_spot this
      subst hs
      refine .inr ⟨b, off, rfl, fun i hi => ?_⟩
      have h1 := hc _ rfl i (by omega)
      rw [add_lit0] at h1
      rw [h1]
      simp [el, List.getD, List.getElem?_take_of_lt (show i < l by omega)]
set_option maxRecDepth 100000 in
theorem open_rel {H : Type} {enc : TypeId × Value → H} {W : World} {base : Nat} {v : Value} {d : DataW H} {p : List MemPlace} (hv : Value.okWide Try.prog W .any base 51 v) (h : DataW.Trod enc Try.prog W 0 (fun _ => true) true 51 v d p) :
    ∃ N B a cap Hs, v = rlV N B a (List.length Hs) cap ∧ I64r N ∧ I64r B ∧ VV W a (List.length Hs) cap Hs ∧ FitsH Hs := by
  obtain ⟨c0, c1, c2, y0, y1, y2, n, rfl, rfl, rfl, g0, g1, g2⟩ := Joins.open_agg3 Try.underlying51 (by kernel_rfl) (by kernel_rfl) hv h
  obtain ⟨i0, e0, _, b0⟩ := DataW.trod_int Try.underlying2 g0
  obtain ⟨i1, e1, _, b1⟩ := DataW.trod_int Try.underlying2 g1
  simp at e0 e1
  subst e0 e1
  rcases open_int_rows Try.underlying33 Try.underlying24 Try.underlying2 (by kernel_rfl) (by kernel_rfl) g2 with ⟨hcs, _⟩ | ⟨ad, len, cap, A, L, C, Z, hcs, _, hl, hm, _, hx⟩
  · simp at hcs
    subst hcs
    exact ⟨i0, i1, none, 0, [], rfl, bounds_i64 b0, bounds_i64 b1, ⟨rfl, Nat.le_refl _, Nat.zero_le _, fun i hi => absurd hi (Nat.not_lt_zero _)⟩, fun i hi => absurd hi (Nat.not_lt_zero _)⟩
  · simp at hcs
    subst hcs
    have hlen : ((List.range len).map fun r => (Z r).take (L r)).length = len := by simp
    have hrow : ∀ i, i < len → row ((List.range len).map fun r => (Z r).take (L r)) i = (Z i).take (L i) := fun i hi => by simp [row, List.getD, hi]
    have each : ∀ i, i < len → Vec W (A i) ((Z i).take (L i)).length ((Z i).take (L i)) ∧ ((Z i).take (L i)).length = L i ∧ Fits ((Z i).take (L i)) := fun i hi => by
      obtain ⟨_, h1, _, h2, h3, h4, h5⟩ := hx i (by omega)
      exact vec_open h1 h2 h3 h4 (fun a' ha => (h5 a' ha).2)
    refine ⟨i0, i1, some ad, cap, (List.range len).map fun r => (Z r).take (L r), by rw [hlen]; rfl, bounds_i64 b0, bounds_i64 b1, ?_, fun i hi => ?_⟩
    · rw [hlen]
      refine ⟨hlen, hl, hm, fun i hi => ?_⟩
      obtain ⟨b, off, spot⟩ := ad
      have hs : spot = none := by
        have := (hx i (by omega)).1
        by_cases e : i = 0
        · subst e; simpa [Addr.add] using World.cell?_spot this
        · have := (hx 0 (by omega)).1
          simpa [Addr.add] using World.cell?_spot this
      subst hs
      obtain ⟨hc, h1, h2, _⟩ := hx i (by omega)
      obtain ⟨v1, v2, v3⟩ := each i hi
      rw [add_lit0] at hc
      rw [hrow i hi]
      exact ⟨b, off, A i, C i, rfl, by rw [v2]; exact hc, v1, by omega, h2⟩
    · rw [hlen] at hi
      rw [hrow i hi]
      exact (each i hi).2.2
set_option maxRecDepth 100000 in
theorem open_pss {H : Type} {enc : TypeId × Value → H} {w : World} {base : Nat} {v : Value} {d : DataW H} {p : List MemPlace} (hv : Value.okWide Try.prog w .any base 57 v) (h : DataW.Trod enc Try.prog w 0 (fun _ => true) true 57 v d p) :
    ∃ a cap cs, v = .slice a (List.length cs) cap ∧ PsS w a (List.length cs) cs ∧ FitsP cs ∧ List.length cs ≤ cap ∧ cap ≤ maxLen := by
  obtain ⟨a, len, cap, rfl⟩ := okWide_slice Try.underlying57 hv
  obtain ⟨fuel, hf⟩ := h
  have hf' : DataW.trod enc Try.prog w 0 (fun _ => true) true fuel 57 [.slice a len cap] = some (d, p) := by simpa [Value.cells] using hf
  rcases open_slice Try.underlying57 hf' with ⟨h0, _⟩ | ⟨ad, l, c, m, n, D, Pl, hcs, _, hl, hm, hmm, _, hx⟩
  · simp at h0
    obtain ⟨rfl, rfl, rfl⟩ := h0
    exact ⟨none, 0, [], rfl, ⟨rfl, .inl rfl⟩, fun i hi => absurd hi (Nat.not_lt_zero _), Nat.le_refl _, Nat.zero_le _⟩
  · simp at hcs
    obtain ⟨rfl, rfl, rfl⟩ := hcs
    have hlm : len ≤ m := by rw [hmm]; split <;> omega
    have ce : Try.prog.cellsOf 98 = 3 := by kernel_rfl
    have each : ∀ i, i < m → ∃ q : Ps, (w.cell? (ad.add (i * 3)) = some (.int .i64 q.1) ∧ w.cell? (ad.add (i * 3 + 1)) = some (.int .i64 q.2.1) ∧ w.cell? (ad.add (i * 3 + 2)) = some (.int .i64 q.2.2)) ∧ I64r q.1 ∧ I64r q.2.1 ∧ I64r q.2.2 := by
      intro i hi
      obtain ⟨cs', h1, h2⟩ := hx i hi
      rw [ce] at h1
      obtain ⟨_, hlen, hcell⟩ := World.cells?_some h1
      obtain ⟨y0, y1, y2, k, _, _, g0, g1, g2⟩ := trod_struct3 Try.underlying98 h2
      match cs', hlen with
      | [v0, v1, v2], _ =>
        have e2 : Try.prog.cellsOf 2 = 1 := by kernel_rfl
        simp [e2] at g0 g1 g2
        obtain ⟨i0, r0, _, b0⟩ := DataW.trod_int Try.underlying2 g0
        obtain ⟨i1, r1, _, b1⟩ := DataW.trod_int Try.underlying2 g1
        obtain ⟨i2, r2, _, b2⟩ := DataW.trod_int Try.underlying2 g2
        simp at r0 r1 r2
        subst r0 r1 r2
        have c0 := hcell 0 (by omega)
        have c1 := hcell 1 (by omega)
        have c2 := hcell 2 (by omega)
        rw [add_add] at c0 c1 c2
        exact ⟨(i0, i1, i2), ⟨by simpa using c0, by simpa using c1, by simpa using c2⟩, bounds_i64 b0, bounds_i64 b1, bounds_i64 b2⟩
    obtain ⟨q, hq⟩ := choose_lt each
    have hlen : ((List.range len).map q).length = len := by simp
    have hpat : ∀ i, i < len → pat ((List.range len).map q) i = q i := fun i hi => by simp [pat, List.getD, hi]
    refine ⟨some ad, cap, (List.range len).map q, by rw [hlen], ?_, fun i hi => ?_, by rw [hlen]; exact hl, hm⟩
    · rw [hlen]
      refine ⟨hlen, ?_⟩
      by_cases h0 : len = 0
      · exact .inl h0
      · obtain ⟨b, off, spot⟩ := ad
        have hspot : spot = none := by
          have := (hq 0 (by omega)).1.1
          simpa [Addr.add] using World.cell?_spot this
        subst hspot
        refine .inr ⟨b, off, rfl, fun i hi => ?_⟩
        rw [hpat i hi]
        obtain ⟨⟨c0, c1, c2⟩, _⟩ := hq i (by omega)
        rw [add_lit0] at c0 c1 c2
        exact ⟨c0, by rw [Nat.add_assoc]; exact c1, by rw [Nat.add_assoc]; exact c2⟩
    · rw [hlen] at hi
      rw [hpat i hi]
      exact (hq i (by omega)).2
end Go.Proofs.Ytdniajogojlmdaa
