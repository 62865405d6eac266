/-
  Several texts in one: Rit.
-/
import Derived.Test.YtggieamhbfdmhaaJn
import Derived.Test.YtggieamhbfdmhaaJt
import Derived.Test.YtggieamhbfdmhaaJr
/-
  Relays and passes as things that an exact law holds.
-/
namespace Go.Proofs.Ytggieamhbfdmhaa
set_option linter.unusedVariables false
set_option linter.unusedSimpArgs false
open Go.RowKit Go.Sort

/-- All rows are numbers of 64 bits. -/
def FitsH (H : List (List Int)) : Prop := ∀ i, i < H.length → Fits (row H i)
theorem it_vv {w : World} {a : Option Addr} {c lo hi : Nat} {H : List (List Int)} (h : It w [iicl H] [.slice a H.length c] lo hi) (hf : FitsH H) : VV w a H.length c H := vv_of_vw h.vw1 hf
/-- A list of passes. -/
def pcl (L : List Ps) : Cel := .sl 3 L.length (pl (pvs L))
theorem it_op {w : World} {g off n c lo hi : Nat} {L : List Ps} (h : OP w g off n c L) (hn : L.length = n) (hg : lo ≤ g ∧ g < hi) : It w [pcl L] [.slice (some ⟨g, off, none⟩) n c] lo hi := by
  subst hn
  exact It.of1 (f := fun b => b = g) ⟨_, c, pvs L, some g, fun _ => False, rfl, OSo.of h, owL_pl.2 ⟨rfl, fun _ h => h⟩, fun _ _ h => h, fun b => by simp [eq_comm]⟩ (fun b hb => by rw [hb]; exact hg)
theorem it_ps {w : World} {a : Option Addr} {c lo hi : Nat} {L : List Ps} (h : It w [pcl L] [.slice a L.length c] lo hi) : PsS w a L.length L := by
  obtain ⟨a0, c0, us, e0, h1, h2, h3, h4, hL⟩ := h.vw1
  cases e0
  have e := vwL_pl.1 hL
  subst e
  refine ⟨rfl, ?_⟩
  rcases h4 with h4 | ⟨b, off, rfl, hc⟩
  · exact .inl h4
  · refine .inr ⟨b, off, rfl, fun i hi => ?_⟩
    obtain ⟨x0, x1, x2⟩ := pvs_at L i hi
    exact ⟨(hc _ (by omega)).trans x0, by rw [Nat.add_assoc]; exact (hc _ (by omega)).trans x1, by rw [Nat.add_assoc]; exact (hc _ (by omega)).trans x2⟩
end Go.Proofs.Ytggieamhbfdmhaa
