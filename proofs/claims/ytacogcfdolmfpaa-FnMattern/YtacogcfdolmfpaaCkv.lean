/-
  Clocks as values: eight numbers in a struct; the contracts of what makes a key, of told and joined.
-/
import Derived.Test.YtacogcfdolmfpaaPst
import Derived.Test.YtacogcfdolmfpaaClk
import Derived.Lib.SliceRun
namespace Go.Proofs.Ytacogcfdolmfpaa
set_option linter.unusedSimpArgs false
set_option linter.unusedVariables false
open Go.RowKit Go.Sort

/-- The value of a clock. -/
def ckV (c : Nat → Int) : Value := .agg #[.int .i64 (c 0), .int .i64 (c 1), .int .i64 (c 2), .int .i64 (c 3), .int .i64 (c 4), .int .i64 (c 5), .int .i64 (c 6), .int .i64 (c 7)]
/-- The key of a node's last event (1) or of a mail's sending (2). -/
def keyV (a b : Int) : Value := .agg #[.int .i64 a, .int .i64 b]
/-- The numbers of a clock as a list. -/
def ckI (c : Nat → Int) : List Int := [c 0, c 1, c 2, c 3, c 4, c 5, c 6, c 7]
theorem ckI_el (c : Nat → Int) {j : Nat} (h : j < 8) : el (ckI c) j = c j := by
  match j, h with
  | 0, _ => rfl
  | 1, _ => rfl
  | 2, _ => rfl
  | 3, _ => rfl
  | 4, _ => rfl
  | 5, _ => rfl
  | 6, _ => rfl
  | 7, _ => rfl
theorem ckI_of {xs : List Int} (h : xs.length = 8) : ckI (el xs) = xs := by
  refine eq_of_all (by rw [h]; rfl) (fun j hj => ?_)
  exact ckI_el (el xs) hj
theorem ckI_fits {c : Nat → Int} (h : ∀ j, j < 8 → -9223372036854775808 ≤ c j ∧ c j ≤ 9223372036854775807) : Fits (ckI c) := by
  intro x hx
  simp only [ckI, List.mem_cons, List.not_mem_nil, or_false] at hx
  rcases hx with rfl | rfl | rfl | rfl | rfl | rfl | rfl | rfl <;> exact h _ (by omega)

set_option maxHeartbeats 400000 in
theorem ofNode_any (n : Int) (w : World) : Calls Try.prog 105 #[.int .i64 n] w fun r w' => r = .returned (keyV 1 n) ∧ Grew w w' := by
  unfold keyV
  go_enter Try.func105, Try.ntmps105
  go_wp2
  refine bodyPost_ret (v := .agg #[.int .i64 1, .int .i64 n]) (by simp [results, Try.results105, go_sem]) rfl ⟨rfl, ?_⟩
  exact (Grew.refl _).alloc _
set_option maxHeartbeats 400000 in
theorem ofMail_any (n : Int) (w : World) : Calls Try.prog 121 #[.int .i64 n] w fun r w' => r = .returned (keyV 2 n) ∧ Grew w w' := by
  unfold keyV
  go_enter Try.func121, Try.ntmps121
  go_wp2
  refine bodyPost_ret (v := .agg #[.int .i64 2, .int .i64 n]) (by simp [results, Try.results121, go_sem]) rfl ⟨rfl, ?_⟩
  exact (Grew.refl _).alloc _

theorem vec_news {w : World} {b off : Nat} {xs : List Int} (h : ∀ i, i < xs.length → w.cell? ⟨b, off + i, none⟩ = some (.int .i64 (el xs i))) (j : Nat) (u : Value) (hu : (xs.map (Value.int .i64))[j]? = some u) : w.cell? ((⟨b, off, none⟩ : Addr).add j) = some u := by
  have hj : j < xs.length := by
    have := (List.getElem?_eq_some_iff.1 hu).1
    simpa using this
  rw [add_lit0, h j hj]
  simp only [List.getElem?_map, List.getElem?_eq_getElem hj, Option.map_some, Option.some.injEq] at hu
  rw [el_eq hj, ← hu]

theorem eq_nil (a : Option Addr) (n c : Nat) (w : World) : (binOp .eql 24 (.slice a n c) (.slice none 0 0)).run Try.prog w = .ok (.bool (a.isNone)) w :=
  Lib.run_eql_slice_nil w 24 2 a n c 0 0 Try.underlying24
set_option maxRecDepth 100000 in
set_option maxHeartbeats 800000 in
theorem clone_any (b off cap : Nat) (xs : List Int) (w : World) (h : ∀ i, i < xs.length → w.cell? ⟨b, off + i, none⟩ = some (.int .i64 (el xs i))) (hm : xs.length ≤ 10000) (hb : b < w.heap.size) :
    Calls Try.prog 122 #[.slice (some ⟨b, off, none⟩) xs.length cap] w fun e w' => Ans w w' e xs := by
  obtain ⟨i0, hi0, hz0, hz1, hz2⟩ := info_parts Try.info2
  have HC : Hid (∀ i, i < xs.length → (w.alloc (.cells #[] 2)).cell? ⟨b, off + i, none⟩ = some (.int .i64 (el xs i))) := fun i hi => by
    rw [((Below.refl w.heap.size w).alloc (Nat.le_refl _) (.cells #[] 2)).cell (by exact hb)]; exact h i hi
  have heq := fun (X : World) => eq_nil (some ⟨b, off, none⟩) xs.length cap X
  clear h
  go_enter Try.func122, Try.ntmps122
  go_wp2_with (at_builtin; refine wpList_append_os _ rfl _ _ _ rfl 2 i0 _ 1 8 Try.underlying24 hi0 hz0 hz1 hz2 rfl (by omega) w.heap.size 0 0 0 (([] : List Int).map (Value.int .i64)) rfl (oi_empty w 2) ⟨b, off, none⟩ xs.length cap (xs.map (Value.int .i64)) rfl (by simp) (vec_news HC.out) (by simp [Value.oneCell']) (by unfold maxLen; omega) (by omega) ?_; intro g2 off2 cap2 w2 ho2 hg2 hat2)
  have R : Hid (Ans w w2 (.returned (.slice (some ⟨g2, off2, none⟩) xs.length cap2)) xs) := by
    refine ⟨g2, off2, cap2, rfl, ?_, ?_, below_grown ((Below.refl _ _).alloc (Nat.le_refl _) _) hg2 (Nat.le_refl _) (by simp)⟩
    · rcases hat2 with h | h
      · rw [h]; exact Nat.le_refl _
      · rw [h]; simp
    · have := ho2
      simp only [List.map_nil, List.nil_append, Nat.zero_add] at this
      exact this
  clear ho2 hg2 hat2
  go_wp2
  go_ret
  exact R.out

theorem cell8 {w : World} {b : Nat} {c : Nat → Int} {T : TypeId} {fr : Nat × Nat} (h : w.heap[b]? = some (.cells #[.int .i64 (c 0), .int .i64 (c 1), .int .i64 (c 2), .int .i64 (c 3), .int .i64 (c 4), .int .i64 (c 5), .int .i64 (c 6), .int .i64 (c 7)] T fr)) {i : Nat} (hi : i < 8) :
    w.cell? ⟨b, i, none⟩ = some (.int .i64 (c i)) := by
  match i, hi with
  | 0, _ => simp [World.cell?, h]
  | 1, _ => simp [World.cell?, h]
  | 2, _ => simp [World.cell?, h]
  | 3, _ => simp [World.cell?, h]
  | 4, _ => simp [World.cell?, h]
  | 5, _ => simp [World.cell?, h]
  | 6, _ => simp [World.cell?, h]
  | 7, _ => simp [World.cell?, h]

set_option maxRecDepth 100000 in
set_option maxHeartbeats 800000 in
theorem told_any (c : Nat → Int) (w : World) : Calls Try.prog 101 #[ckV c] w fun e w' => Ans w w' e (ckI c) := by
  have hC := clone_any w.heap.size 0 8 (ckI c) (w.alloc (.cells #[.int .i64 (c 0), .int .i64 (c 1), .int .i64 (c 2), .int .i64 (c 3), .int .i64 (c 4), .int .i64 (c 5), .int .i64 (c 6), .int .i64 (c 7)] 94)) (fun i hi => by
    rw [Nat.zero_add, ckI_el c hi]; exact cell8 (heap_alloc_new w _) hi) (by simp [ckI]) (by simp)
  unfold ckV
  go_enter Try.func101, Try.ntmps101
  go_wp2_with fail
  refine hC.mono ?_
  rintro e w1 ⟨g, off, c1, rfl, h1, h2, h3⟩
  have R : Hid (Ans w w1 (.returned (.slice (some ⟨g, off, none⟩) (ckI c).length c1)) (ckI c)) := ⟨g, off, c1, rfl, by simp at h1; omega, h2, ((Below.refl w.heap.size w).alloc (Nat.le_refl _) _).trans (h3.mono (by simp))⟩
  clear h1 h2 h3
  go_wp2
  go_ret
  exact R.out
end Go.Proofs.Ytacogcfdolmfpaa
