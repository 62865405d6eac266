/-
  Several texts in one: Iti.
-/
import Derived.Test.YtgaibngaincahaaJn
/-
  Lists of numbers that an exact law holds: they are marked and held (general).
-/
namespace Go.Proofs.Ytgaibngaincahaa
set_option linter.unusedVariables false
set_option linter.unusedSimpArgs false
open Go.RowKit Go.Sort

theorem touch_wrt {g : Nat} {w w' : World} (h : Touch g w w') : Wrt (fun b => b = g) w w' := (Wrt.of_grown h.grown).mono (fun b _ e => by simpa using e.symm)
theorem it_vec {w : World} {a : Option Addr} {c lo hi : Nat} {Z : List Int} (h : It w [icl Z] [.slice a Z.length c] lo hi) (hf : Fits Z) : Vec w a Z.length Z := by
  obtain ⟨a', c', e, hv, _⟩ := vw_icl h.vw1 hf
  cases e
  exact hv
theorem mkI_it (a : Option Addr) (c k0 lo hi : Nat) (Z : List Int) (w : World) (h : It w [icl Z] [.slice a Z.length c] lo hi) (hk : k0 ≤ 10000000) (hn : Z.length ≤ 10000000) :
    Calls Try.prog 81 #[.slice a Z.length c, .int .i64 (k0 : Int)] w fun e w' => e = .returned (.int .i64 ((k0 : Int) + (Z.length : Int))) ∧ It w' [icl (marks Z.length k0)] [.slice a Z.length c] lo hi ∧ Wrt (Iv lo hi) w w' := by
  obtain ⟨f, h1, h2⟩ := h.ow1
  obtain ⟨a', c', G, e, ho, hf⟩ := ow_icl.1 h1
  cases e
  rcases ho.oi with ⟨rfl, rfl, rfl⟩ | ⟨g, off, rfl, ho', rfl⟩
  · refine (mark0_any a 0 (k0 : Int) w).mono ?_
    rintro e w' ⟨rfl, rfl⟩
    exact ⟨by simp, h, Wrt.refl _ _⟩
  · refine (markN_any g off c k0 _ (k0 : Int) Z w ho' rfl hk hn).mono ?_
    rintro e w' ⟨rfl, h3, h4⟩
    have hg := h2 g ((hf g).2 rfl)
    refine ⟨rfl, It.of1 (f := fun b => b = g) (ow_icl.2 ⟨_, c, some g, by rw [marks_len], by rw [marks_len]; exact OSo.of h3, fun b => by simp [eq_comm]⟩) (fun b hb => by rw [hb]; exact hg), (touch_wrt h4).mono (fun b _ e => by rw [e]; exact hg)⟩
theorem hdI_it (a : Option Addr) (c k0 n lo hi : Nat) (w : World) (h : It w [icl (marks n k0)] [.slice a n c] lo hi) (hk : k0 ≤ 10000000) (hn : n ≤ 10000000) :
    Calls Try.prog 83 #[.slice a n c, .int .i64 (k0 : Int)] w fun e w' => e = .returned (.int .i64 ((k0 : Int) + (n : Int))) ∧ w' = w := by
  obtain ⟨f, h1, h2⟩ := h.ow1
  obtain ⟨a', c', G, e, ho, hf⟩ := ow_icl.1 h1
  have e1 : a = a' := by injection e
  have e2 : c = c' := by injection e
  subst e1 e2
  exact heldC_any a c k0 n (k0 : Int) w ho.slc rfl hk hn
end Go.Proofs.Ytgaibngaincahaa
