/-
  Several texts in one: Rtw.
-/
import Derived.Test.YtggieamhbfdmhaaJq
import Derived.Test.YtggieamhbfdmhaaJo
/-
  The contract of the specification's Turn: the walk.
-/
namespace Go.Proofs.Ytggieamhbfdmhaa
set_option linter.unusedVariables false
set_option linter.unusedSimpArgs false
open Go.RowKit Go.Sort

theorem newO_zero {w w' : World} (hb : Below w.heap.size w w') : NewO w w' (iicl []) (.slice none 0 0) :=
  ⟨fun _ => False, ⟨none, 0, [], none, fun _ => False, rfl, OSo.nil _ _ plainN, ⟨rfl, fun _ h => h⟩, fun _ _ h => h, fun b => by simp⟩, fun _ h => absurd h id, hb⟩
theorem turnL_no {N B : Int} {H : List (List Int)} {cs : List Ps} {i : Nat} (hi : i < cs.length) (h : ¬ psOk N H cs i) : turnL N B H cs = (zeroR, false) := by
  rw [turnL, if_neg (fun k => h (k.2 i hi))]

theorem okRow_len {B : Int} {h : List Int} (hk : okRow B h) (hB : B ≤ 12) : h.length ≤ 12 := by
  have hk' := okRow_iff.1 hk
  have h1 := hk'.1
  have hnd : ∀ i, i < h.length → (i : Int) ≤ el h i := by
    intro i
    induction i with
    | zero => intro hi; have := h1 _ (el_mem hi); omega
    | succ i ih =>
      intro hi
      have h2 := ih (by omega)
      have h3 := (rises_pairwise.2 hk'.2) i (by omega)
      omega
  rcases Nat.eq_zero_or_pos h.length with h0 | h0
  · omega
  · have h2 := hnd (h.length - 1) (by omega)
    have h3 := h1 _ (el_mem (show h.length - 1 < h.length by omega))
    omega
theorem outs_ok2 {N B : Int} {H : List (List Int)} {cs : List Ps} (hr : okRel N B H) : ∀ i, (∀ j, j < i → psOk N H cs j) → okRel N B (outs H cs i) := by
  intro i
  induction i with
  | zero => intro _; exact hr
  | succ i ih =>
    intro ht
    obtain ⟨a1, a2, a3, a4, a5⟩ := ih (fun j hj => ht j (by omega))
    obtain ⟨b1, b2, b3, b4⟩ := ht i (by omega)
    have hl : (outs H cs i).length = H.length := outs_len _ _ _
    have h3 := hr.2.2.1
    have htl : (pat cs i).2.1.toNat < (outs H cs i).length := by omega
    have hbq : 0 ≤ (pat cs i).2.2 ∧ (pat cs i).2.2 ≤ B - 1 := (okRow_iff.1 (hr.2.2.2.2 (pat cs i).1.toNat (by omega))).1 _ b3
    obtain ⟨Bn, rfl⟩ : ∃ Bn : Nat, B = (Bn : Int) := ⟨B.toNat, by omega⟩
    refine ⟨a1, a2, by rw [outs, List.length_set]; exact a3, ?_, fun k hk => ?_⟩
    · rw [outs, row_set htl]
      split
      · rename_i e
        rw [← e, putL_same (okRow_iff.1 (a5 0 (by omega))).2 (full_mem (a5 0 (by omega)) (by omega) hbq)]
        exact a4
      · exact a4
    · rw [outs, List.length_set] at hk
      rw [outs, row_set htl]
      split
      · exact putL_ok (a5 _ htl) hbq
      · exact a5 k hk
theorem Same.bx {X w : World} (h : Same X w) {B : Nat} {T : TypeId} {cs : Array Value} (hb : Bx w B T cs) : Bx X B T cs := by unfold Bx; rw [h.heap]; exact hb
theorem Same.cell {X w : World} (h : Same X w) {b o : Nat} {v : Value} (hb : w.cell? ⟨b, o, none⟩ = some v) : X.cell? ⟨b, o, none⟩ = some v := by
  rw [World.cell?_of_block (w := w) (by rw [h.heap])]; exact hb
theorem Same.frozen {X w : World} (h : Same X w) {b o : Nat} (hb : w.frozen? ⟨b, o, none⟩ = false) : X.frozen? ⟨b, o, none⟩ = false := by
  rw [show X.frozen? ⟨b, o, none⟩ = w.frozen? ⟨b, o, none⟩ from by simp only [World.frozen?, h.heap]]; exact hb
theorem Same.more {X w : World} (h : Same X w) (n : Nat) : Same (X.drewN n) w := ⟨h.heap, h.os, h.tape, h.output⟩

end Go.Proofs.Ytggieamhbfdmhaa
