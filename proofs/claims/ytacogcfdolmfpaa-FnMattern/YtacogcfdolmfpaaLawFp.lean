/-
  The contract of the specification's DrawPast, and the walk of the law FnPast.
-/
import Derived.Test.YtacogcfdolmfpaaDr4
namespace Go.Proofs.Ytacogcfdolmfpaa
set_option linter.unusedSimpArgs false
set_option linter.unusedVariables false
open Go.RowKit Go.Sort

theorem IsRow.bvec {w : World} {a : Option Addr} {len cap : Nat} {zs : List Int} (h : IsRow .u8 w a len cap zs) : BVec w a len (fun i => zs.getD i 0) := by
  rcases h with ⟨rfl, rfl, rfl, rfl⟩ | ⟨x, rfl, hl, hm, hz, hcell, hwz⟩
  · exact ⟨fun i hi => by omega, .inl rfl⟩
  · refine ⟨fun i hi => ?_, ?_⟩
    · have := bounds_u8 (hwz (zs.getD i 0) (by
        have hi' : i < zs.length := by omega
        simp [hi']))
      omega
    · by_cases h0 : len = 0
      · exact .inl h0
      · obtain ⟨b, off, spot⟩ := x
        have hc := hcell 0 (by omega)
        have hspot : spot = none := by simpa [Addr.add] using World.cell?_spot hc
        subst hspot
        refine .inr ⟨b, off, rfl, fun i hi => ?_⟩
        have := hcell i (by omega)
        rwa [add_lit0] at this

theorem pastT_rises (es : List Ev) (len : Nat) (k : Int) : ∀ j, j + 1 < (pastT es len k).length → el (pastT es len k) j < el (pastT es len k) (j + 1) := by
  intro j hj
  unfold pastT at *
  split at hj
  · rename_i h
    rw [if_pos h]
    rw [nI_len] at hj
    rw [nI_el (by omega), nI_el hj]
    have := List.pairwise_iff_getElem.1 (pastL_sorted es k.toNat) j (j + 1) (by omega) hj (by omega)
    omega
  · simp at hj
theorem pastT_lt {es : List Ev} {len : Nat} {k x : Int} (h : x ∈ pastT es len k) : 0 ≤ x ∧ x < k ∧ numB len x = true ∧ okT es len = true ∧ numB len k = true ∧ Anc es x.toNat k.toNat := by
  unfold pastT at h
  split at h
  · rename_i hh
    have hk := numB_iff.1 hh.2
    simp only [nI, List.mem_map] at h
    obtain ⟨a, ha, rfl⟩ := h
    have hA := mem_pastL.1 ha
    have := hA.lt
    exact ⟨by omega, by omega, numB_iff.2 (by omega), hh.1, hh.2, by simpa using hA⟩
  · simp at h
theorem pastT_mem {es : List Ev} {len : Nat} {k x : Int} (h0 : 0 ≤ x) (ho : okT es len = true) (hk : numB len k = true) (hA : Anc es x.toNat k.toNat) : x ∈ pastT es len k := by
  rw [pastT_ok ho hk]
  have : ((x.toNat : Nat) : Int) ∈ nI (pastL es k.toNat) := nI_mem.2 (mem_pastL.2 hA)
  rwa [show ((x.toNat : Nat) : Int) = x by omega] at this
theorem pastT_trans {es : List Ev} {len : Nat} {k x z : Int} (h : x ∈ pastT es len k) (hz : z ∈ pastT es len x) : z ∈ pastT es len k := by
  obtain ⟨a1, a2, a3, a4, a5, a6⟩ := pastT_lt h
  obtain ⟨b1, b2, b3, b4, b5, b6⟩ := pastT_lt hz
  exact pastT_mem b1 a4 a5 (b6.trans a6)

end Go.Proofs.Ytacogcfdolmfpaa
