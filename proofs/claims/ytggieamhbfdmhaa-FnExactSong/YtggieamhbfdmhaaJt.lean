/-
  Several texts in one: Rhr Rhp.
-/
import Derived.Test.YtggieamhbfdmhaaJs
/-
  The laws' own helpers on relays: szRelay, toRelay, eqRelay, markRelay, heldRelay, likeRelay; on passes: szPassS, toPassS.
-/
namespace Go.Proofs.Ytggieamhbfdmhaa
set_option linter.unusedVariables false
set_option linter.unusedSimpArgs false
open Go.RowKit Go.Sort

end Go.Proofs.Ytggieamhbfdmhaa

/-
  The laws' own toPassS and likePasses.
-/
namespace Go.Proofs.Ytggieamhbfdmhaa
set_option linter.unusedVariables false
set_option linter.unusedSimpArgs false
open Go.RowKit Go.Sort

theorem pvs_set : ∀ {L : List Ps} {k : Nat} (p : Ps), k < L.length → pvs (L.set k p) = (pvs L).take (k * 3) ++ [.int .i64 p.1, .int .i64 p.2.1, .int .i64 p.2.2] ++ (pvs L).drop (k * 3 + 3)
  | [], k, p, h => by simp at h
  | c :: L, 0, p, h => by simp [pvs]
  | c :: L, k + 1, p, h => by
    have ih := pvs_set (L := L) (k := k) p (by simpa using h)
    have e1 : ∀ (c : Ps) (L : List Ps), pvs (c :: L) = .int .i64 c.1 :: .int .i64 c.2.1 :: .int .i64 c.2.2 :: pvs L := fun c L => by simp [pvs]
    rw [List.set_cons_succ, e1, e1, ih, show (k + 1) * 3 = k * 3 + 1 + 1 + 1 by omega, show k * 3 + 1 + 1 + 1 + 3 = k * 3 + 3 + 1 + 1 + 1 by omega]
    simp only [List.take_succ_cons, List.drop_succ_cons, List.cons_append]
theorem OP.put {w : World} {g off n cap k : Nat} {L : List Ps} (h : OP w g off n cap L) (hk : k < n) (p : Ps) :
    OP (((w.setCell ⟨g, off + k * 3, none⟩ (.int .i64 p.1)).setCell ⟨g, off + k * 3 + 1, none⟩ (.int .i64 p.2.1)).setCell ⟨g, off + k * 3 + 2, none⟩ (.int .i64 p.2.2)) g off n cap (L.set k p) := by
  have hl := h.length
  have := osl_seg (vs := [.int .i64 p.1, .int .i64 p.2.1, .int .i64 p.2.2]) (k := k * 3) h (by simp; omega)
  unfold OP
  rw [pvs_set p (by omega)]
  exact this
def zps : Ps := (0, 0, 0)
def prtP (cs : List Ps) (k : Nat) : List Ps := cs.take k ++ List.replicate (cs.length - k) zps
theorem prtP_set {H : List Ps} {k : Nat} (hk : k < H.length) : (prtP H k).set k (pat H k) = prtP H (k + 1) := by
  apply List.ext_getElem
  · simp [prtP]; omega
  · intro i h1 h2
    rw [List.getElem_set]
    have hi : i < H.length := by simp [prtP] at h1; omega
    by_cases e : k = i
    · subst e
      rw [if_pos rfl]
      simp [prtP, pat, List.getD, hk]
      rw [List.getElem_append_left (by simp; omega)]
      simp
    · rw [if_neg e]
      simp only [prtP]
      by_cases hlt : i < k
      · rw [List.getElem_append_left (by simp; omega), List.getElem_append_left (by simp; omega)]
        simp
      · rw [List.getElem_append_right (by simp; omega), List.getElem_append_right (by simp; omega)]
        simp
end Go.Proofs.Ytggieamhbfdmhaa
