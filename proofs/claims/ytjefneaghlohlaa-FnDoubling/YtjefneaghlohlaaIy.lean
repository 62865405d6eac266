/-
  Several texts in one: Hea Hup.
-/
import Derived.Test.YtjefneaghlohlaaGa
import Derived.Test.YtjefneaghlohlaaHh
/-
  Heaps as plain lists: what up and down leave (container/heap). No word of the model.
-/
namespace Go.Proofs.Ytjefneaghlohlaa
set_option linter.unusedVariables false
set_option linter.unusedSimpArgs false

section
variable {α : Type} [Inhabited α] (key : α → Int)

def ga (xs : List α) (i : Nat) : α := xs.getD i default
/-- Two places of a list changed about. -/
def sw (xs : List α) (i j : Nat) : List α := (xs.set i (ga xs j)).set j (ga xs i)
theorem sw_len (xs : List α) (i j : Nat) : (sw xs i j).length = xs.length := by simp [sw]
theorem ga_eq {xs : List α} {i : Nat} (h : i < xs.length) : ga xs i = xs[i] := by simp [ga, h]
theorem ga_sw {xs : List α} {i j k : Nat} (hi : i < xs.length) (hj : j < xs.length) (hk : k < xs.length) : ga (sw xs i j) k = if k = j then ga xs i else if k = i then ga xs j else ga xs k := by
  have hl := sw_len xs i j
  rw [ga_eq (by omega)]
  unfold sw
  rw [List.getElem_set]
  by_cases h1 : j = k
  · rw [if_pos h1, if_pos h1.symm]
  · rw [if_neg h1, if_neg (Ne.symm h1), List.getElem_set]
    by_cases h2 : i = k
    · rw [if_pos h2, if_pos h2.symm]
    · rw [if_neg h2, if_neg (Ne.symm h2), ga_eq hk]
theorem sw_perm {xs : List α} {i j : Nat} (hi : i < xs.length) (hj : j < xs.length) : (sw xs i j).Perm xs := by
  have : sw xs i j = (xs.set i xs[j]).set j xs[i] := by rw [sw, ga_eq hi, ga_eq hj]
  rw [this]
  exact List.set_set_perm hi hj
/-- Each one that has a parent below n is not below it, but perhaps number x. -/
def HpX (xs : List α) (n x : Nat) : Prop := ∀ i, 0 < i → i < n → i ≠ x → key (ga xs ((i - 1) / 2)) ≤ key (ga xs i)
def Hp (xs : List α) (n : Nat) : Prop := ∀ i, 0 < i → i < n → key (ga xs ((i - 1) / 2)) ≤ key (ga xs i)
/-- The children of x are not below x's parent. -/
def Gr (xs : List α) (n x : Nat) : Prop := 0 < x → ∀ c, c < n → 0 < c → (c - 1) / 2 = x → key (ga xs ((x - 1) / 2)) ≤ key (ga xs c)
theorem hp_of_top {xs : List α} {n : Nat} (h : HpX key xs n 0) : Hp key xs n := fun i h0 hn => h i h0 hn (by omega)
theorem hp_of_le {xs : List α} {n x : Nat} (h : HpX key xs n x) (hx : 0 < x → key (ga xs ((x - 1) / 2)) ≤ key (ga xs x)) : Hp key xs n := fun i h0 hn => by
  by_cases e : i = x
  · subst e; exact hx h0
  · exact h i h0 hn e
/-- A step of up: number j is below its parent. -/
theorem up_step {xs : List α} {n j : Nat} (hn : n ≤ xs.length) (hj : j < n) (h0 : 0 < j) (h : HpX key xs n j) (hg : Gr key xs n j) (hlt : key (ga xs j) < key (ga xs ((j - 1) / 2))) :
    HpX key (sw xs ((j - 1) / 2) j) n ((j - 1) / 2) ∧ Gr key (sw xs ((j - 1) / 2) j) n ((j - 1) / 2) := by
  have hp : (j - 1) / 2 < j := by omega
  have hpl : (j - 1) / 2 < xs.length := by omega
  have hjl : j < xs.length := by omega
  generalize hpe : (j - 1) / 2 = p at *
  constructor
  · intro i i0 hi hne
    have q : (i - 1) / 2 < i := by omega
    rw [ga_sw hpl hjl (by omega), ga_sw hpl hjl (by omega)]
    by_cases e1 : i = j
    · subst e1
      rw [if_pos rfl, hpe, if_neg (by omega), if_pos rfl]
      omega
    · rw [if_neg e1, if_neg hne]
      by_cases e2 : (i - 1) / 2 = j
      · rw [if_pos e2]
        have := hg h0 i hi i0 e2
        rw [hpe] at this
        exact this
      · rw [if_neg e2]
        by_cases e3 : (i - 1) / 2 = p
        · rw [if_pos e3]
          have := h i i0 hi e1
          rw [e3] at this
          omega
        · rw [if_neg e3]; exact h i i0 hi e1
  · intro p0 c hc c0 hcp
    have hq : (p - 1) / 2 < p := by omega
    rw [ga_sw hpl hjl (by omega), ga_sw hpl hjl (by omega), if_neg (by omega), if_neg (by omega)]
    have h1 := h p p0 (by omega) (by omega)
    by_cases e1 : c = j
    · subst e1
      rw [if_pos rfl]; exact h1
    · rw [if_neg e1]
      have hcne : c ≠ p := by omega
      rw [if_neg hcne]
      have h2 := h c c0 hc e1
      rw [hcp] at h2
      omega
/-- Each one whose parent is not x is not below it. -/
def HdX (xs : List α) (n x : Nat) : Prop := ∀ i, 0 < i → i < n → (i - 1) / 2 ≠ x → key (ga xs ((i - 1) / 2)) ≤ key (ga xs i)
/-- A step of down: the lesser child j of x is below it. -/
theorem down_step {xs : List α} {n x j : Nat} (hn : n ≤ xs.length) (hj : j < n) (hx : (j - 1) / 2 = x) (j0 : 0 < j) (h : HdX key xs n x) (hg : Gr key xs n x) (hlt : key (ga xs j) < key (ga xs x))
    (hmin : ∀ c, 0 < c → c < n → (c - 1) / 2 = x → key (ga xs j) ≤ key (ga xs c)) :
    HdX key (sw xs x j) n j ∧ Gr key (sw xs x j) n j := by
  have hxj : x < j := by omega
  have hxl : x < xs.length := by omega
  have hjl : j < xs.length := by omega
  constructor
  · intro i i0 hi hne
    have q : (i - 1) / 2 < i := by omega
    rw [ga_sw hxl hjl (by omega), ga_sw hxl hjl (by omega), if_neg hne]
    by_cases e1 : i = j
    · subst e1
      rw [if_pos rfl, hx, if_pos rfl]
      omega
    · rw [if_neg e1]
      by_cases e2 : (i - 1) / 2 = x
      · rw [if_pos e2, if_neg (by omega)]
        exact hmin i i0 hi e2
      · rw [if_neg e2]
        by_cases e3 : i = x
        · rw [if_pos e3]
          have := hg (by omega) j hj j0 hx
          rw [← e3] at this
          exact this
        · rw [if_neg e3]; exact h i i0 hi e2
  · intro _ c hc c0 hcj
    rw [ga_sw hxl hjl (by omega), ga_sw hxl hjl (by omega), hx, if_neg (by omega), if_pos rfl, if_neg (by omega), if_neg (by omega)]
    have := h c c0 hc (by omega)
    rw [hcj] at this
    exact this
theorem hp_of_down {xs : List α} {n x : Nat} (h : HdX key xs n x) (hx : ∀ c, 0 < c → c < n → (c - 1) / 2 = x → key (ga xs x) ≤ key (ga xs c)) : Hp key xs n := fun i h0 hn => by
  by_cases e : (i - 1) / 2 = x
  · have := hx i h0 hn e
    rw [e]; exact this
  · exact h i h0 hn e
/-- The first of a heap is the least. -/
theorem hp_least {xs : List α} {n : Nat} (h : Hp key xs n) : ∀ i, i < n → key (ga xs 0) ≤ key (ga xs i) := by
  intro i
  induction i using Nat.strongRecOn with
  | _ i ih =>
    intro hi
    rcases Nat.eq_zero_or_pos i with e | e
    · subst e; exact Int.le_refl _
    · exact Int.le_trans (ih ((i - 1) / 2) (by omega) (by omega)) (h i e hi)
theorem hp_prefix {xs ys : List α} {n m : Nat} (h : Hp key xs n) (hm : m ≤ n) (he : ∀ i, i < m → ga ys i = ga xs i) : Hp key ys m := fun i h0 hi => by
  rw [he i hi, he _ (by omega)]
  exact h i h0 (by omega)
end
end Go.Proofs.Ytjefneaghlohlaa

/-
  container/heap: up, down, Push, Pop over whatever stands behind the interface.
-/
namespace Go.Proofs.Ytjefneaghlohlaa
set_option linter.unusedVariables false
set_option linter.unusedSimpArgs false
open Go.RowKit Go.Sort

theorem load_nodes {B : Nat} {v : Value} {w : World} (h : w.cell? ⟨B, 0, none⟩ = some v) : (loadVar 74 ⟨B, 0, none⟩).run Try.prog w = .ok v w := by
  have h1 : ∀ w, (isAgg 74).run Try.prog w = .ok false w := fun w => by kernel_rfl
  simp [loadVar, Sem.run_bind, h1, go_sem, h]
theorem meth_deref (fuel : Nat) {name : String} {f : FuncId} (hm : ((Try.prog.info? 73).bind (fun i => i.methods.find? (·.name == name))).map (fun m => (m.path, m.func)) = some (#[], some (f, false)))
    {B : Nat} {v : Value} {w : World} (h : w.cell? ⟨B, 0, none⟩ = some v) : (Go.method (fuel + 1) 73 (.pointer (some ⟨B, 0, none⟩)) name).run Try.prog w = .ok (f, v) w := by
  obtain ⟨m, hm1, hm2⟩ := Option.map_eq_some_iff.1 hm
  obtain ⟨i, hi, hm'⟩ := Option.bind_eq_some_iff.1 hm1
  simp only [Prod.mk.injEq] at hm2
  obtain ⟨hp, hf⟩ := hm2
  have hl := load_nodes h
  have hu : ∀ w, (underlying 73).run Try.prog w = .ok (.pointer 74) w := fun w => by kernel_rfl
  have ht : ∀ w, (typeInfo 73).run Try.prog w = .ok i w := fun w => by simp [typeInfo, go_sem, hi]
  have hs : ∀ (s n : String) w, (Builtin.ssaWrapNilChk_ #[73] 73 #[.pointer (some ⟨B, 0, none⟩), strVal s, strVal n]).run Try.prog w = .ok (.pointer (some ⟨B, 0, none⟩)) w := fun s n w => rfl
  unfold Go.method
  simp only [Sem.run_bind, ht, Result.andThen_ok, hm', hp, hf, follow, Sem.run_pure, receiverAt, hu, Place.get, Array.toList_empty, Array.isEmpty_empty, if_true]
  simp [hs, asAddr, go_sem, Sem.run_bind, h]
theorem meth_less {B : Nat} {v : Value} {w : World} (h : w.cell? ⟨B, 0, none⟩ = some v) : (Go.method 202 73 (.pointer (some ⟨B, 0, none⟩)) "Less").run Try.prog w = .ok (105, v) w := meth_deref _ (by kernel_rfl) h
theorem meth_len {B : Nat} {v : Value} {w : World} (h : w.cell? ⟨B, 0, none⟩ = some v) : (Go.method 202 73 (.pointer (some ⟨B, 0, none⟩)) "Len").run Try.prog w = .ok (84, v) w := meth_deref _ (by kernel_rfl) h
theorem meth_swap {B : Nat} {v : Value} {w : World} (h : w.cell? ⟨B, 0, none⟩ = some v) : (Go.method 202 73 (.pointer (some ⟨B, 0, none⟩)) "Swap").run Try.prog w = .ok (108, v) w := meth_deref _ (by kernel_rfl) h
theorem meth_push (v : Value) (w : World) : (Go.method 202 73 v "Push").run Try.prog w = .ok (107, v) w := by kernel_rfl
theorem meth_pop (v : Value) (w : World) : (Go.method 202 73 v "Pop").run Try.prog w = .ok (106, v) w := by kernel_rfl
end Go.Proofs.Ytjefneaghlohlaa
