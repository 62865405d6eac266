/-
  How the specification's search for all that is ahead of an event goes, on plain lists.
-/
import Derived.Test.YtacogcfdolmfpaaPut
namespace Go.Proofs.Ytacogcfdolmfpaa
set_option linter.unusedSimpArgs false
set_option linter.unusedVariables false
open Go.RowKit Go.Sort

def nI (O : List Nat) : List Int := O.map (fun (i : Nat) => (i : Int))
theorem nI_len (O : List Nat) : (nI O).length = O.length := by simp [nI]
theorem nI_mem {O : List Nat} {i : Nat} : (i : Int) ∈ nI O ↔ i ∈ O := by
  simp only [nI, List.mem_map]
  constructor
  · rintro ⟨a, h, e⟩
    have : a = i := by omega
    subst this; exact h
  · intro h; exact ⟨i, h, rfl⟩
theorem nI_el {O : List Nat} {j : Nat} (h : j < O.length) : el (nI O) j = ((O[j] : Nat) : Int) := by simp [nI, el, h]
theorem nI_put (O : List Nat) (p i : Nat) : (nI O).take p ++ (i : Int) :: (nI O).drop p = nI (O.take p ++ i :: O.drop p) := by simp [nI]
theorem nI_snoc (O : List Nat) (i : Nat) : nI O ++ [(i : Int)] = nI (O ++ [i]) := by simp [nI]
theorem nI_fits {O : List Nat} {B : Nat} (h : ∀ x ∈ O, x < B) (hB : B ≤ 1000000) : Fits (nI O) := by
  intro x hx
  simp only [nI, List.mem_map] at hx
  obtain ⟨a, ha, rfl⟩ := hx
  have := h a ha
  omega

theorem sorted_ge {l : List Nat} (h : l.Pairwise (· < ·)) : ∀ i (hi : i < l.length), i ≤ l[i] := by
  intro i
  induction i with
  | zero => intro _; omega
  | succ i ih =>
    intro hi
    have h1 := ih (by omega)
    have h2 := List.pairwise_iff_getElem.1 h i (i + 1) (by omega) hi (by omega)
    omega
theorem sorted_len {l : List Nat} {k : Nat} (h : l.Pairwise (· < ·)) (hk : ∀ x ∈ l, x < k) : l.length ≤ k := by
  rcases Nat.eq_zero_or_pos l.length with h0 | h0
  · omega
  · have h1 := sorted_ge h (l.length - 1) (by omega)
    have h2 := hk _ (List.getElem_mem (show l.length - 1 < l.length by omega))
    omega
theorem ins_sorted {O : List Nat} {p i : Nat} (h : O.Pairwise (· < ·)) (hp : p ≤ O.length) (ha : ∀ j (hj : j < p), O[j]'(by omega) < i) (hb : ∀ hlt : p < O.length, i < O[p]) : (O.take p ++ i :: O.drop p).Pairwise (· < ·) := by
  rw [List.pairwise_append]
  have ht : ∀ x ∈ O.take p, x < i := by
    intro x hx
    obtain ⟨j, hj, rfl⟩ := List.getElem_of_mem hx
    rw [List.getElem_take]
    exact ha j (by simp at hj; omega)
  have hd : ∀ x ∈ O.drop p, i < x := by
    intro x hx
    have hkl : p < O.length := by
      rcases Nat.lt_or_ge p O.length with h | h
      · exact h
      · rw [List.drop_eq_nil_of_le h] at hx; simp at hx
    have h1 := hb hkl
    rw [List.drop_eq_getElem_cons hkl] at hx
    rcases List.mem_cons.1 hx with rfl | hx
    · exact h1
    · have := (List.pairwise_cons.1 (by rw [← List.drop_eq_getElem_cons hkl]; exact h.drop : (O[p] :: O.drop (p + 1)).Pairwise (· < ·))).1 x hx
      omega
  refine ⟨h.take, List.pairwise_cons.2 ⟨hd, h.drop⟩, fun x hx y hy => ?_⟩
  rcases List.mem_cons.1 hy with rfl | hy
  · exact ht x hx
  · have := ht x hx; have := hd y hy; omega
theorem ins_mem {O : List Nat} {p i x : Nat} : x ∈ O.take p ++ i :: O.drop p ↔ x = i ∨ x ∈ O := by
  have : x ∈ O ↔ x ∈ O.take p ∨ x ∈ O.drop p := by
    rw [← List.mem_append, List.take_append_drop]
  rw [this]
  simp only [List.mem_append, List.mem_cons]
  constructor
  · rintro (h | h | h)
    · exact .inr (.inl h)
    · exact .inl h
    · exact .inr (.inr h)
  · rintro (h | h | h)
    · exact .inr (.inl h)
    · exact .inl h
    · exact .inr (.inr h)

/-- Found so far O, to be looked at T; S: what is being looked at. -/
structure PInv (es : List Ev) (k : Nat) (O T : List Nat) (S : Nat → Prop) : Prop where
  sorted : O.Pairwise (· < ·)
  anc : ∀ x ∈ O, Anc es x k
  todo : ∀ t ∈ T, t = k ∨ t ∈ O
  done : ∀ y, (y = k ∨ y ∈ O) → y ∉ T → ¬ S y → ∀ i ∈ src es y, i ∈ O
theorem PInv.start (es : List Ev) (k : Nat) : PInv es k [] [k] (fun _ => False) :=
  ⟨List.Pairwise.nil, by simp, by simp, fun y hy hn _ => by
    rcases hy with rfl | hy
    · simp at hn
    · simp at hy⟩
theorem PInv.len {es : List Ev} {k : Nat} {O T : List Nat} {S : Nat → Prop} (h : PInv es k O T S) : O.length ≤ k := sorted_len h.sorted (fun x hx => (h.anc x hx).lt)
theorem PInv.head {es : List Ev} {k x : Nat} {O T : List Nat} {S : Nat → Prop} (h : PInv es k O (x :: T) S) : x ≤ k := by
  rcases h.todo x (by simp) with rfl | hx
  · omega
  · have := (h.anc x hx).lt; omega
theorem PInv.pop {es : List Ev} {k x : Nat} {O T : List Nat} (h : PInv es k O (x :: T) (fun _ => False)) : PInv es k O T (· = x) :=
  ⟨h.sorted, h.anc, fun t ht => h.todo t (by simp [ht]), fun y hy hn hs => h.done y hy (by simp only [List.mem_cons, not_or]; exact ⟨hs, hn⟩) (fun h => h)⟩
theorem PInv.push {es : List Ev} {k x i p : Nat} {O T : List Nat} (h : PInv es k O T (· = x)) (hx : x = k ∨ x ∈ O) (hi : i ∈ src es x) (hp : p ≤ O.length) (ha : ∀ j (hj : j < p), O[j]'(by omega) < i) (hb : ∀ hlt : p < O.length, i < O[p]) :
    PInv es k (O.take p ++ i :: O.drop p) (T ++ [i]) (· = x) := by
  refine ⟨ins_sorted h.sorted hp ha hb, fun y hy => ?_, fun t ht => ?_, fun y hy hn hs j hj => ?_⟩
  · rw [ins_mem] at hy
    rcases hy with rfl | hy
    · rcases hx with rfl | hx
      · exact .base hi
      · exact Anc.cons hi (h.anc x hx)
    · exact h.anc y hy
  · rw [List.mem_append] at ht
    rcases ht with ht | ht
    · rcases h.todo t ht with e | e
      · exact .inl e
      · exact .inr (ins_mem.2 (.inr e))
    · simp at ht; subst ht; exact .inr (ins_mem.2 (.inl rfl))
  · rw [List.mem_append, not_or] at hn
    rw [ins_mem] at hy
    refine ins_mem.2 (.inr ?_)
    rcases hy with rfl | rfl | hy
    · exact h.done y (.inl rfl) hn.1 hs j hj
    · simp at hn
    · exact h.done y (.inr hy) hn.1 hs j hj
theorem PInv.seen {es : List Ev} {k x : Nat} {O T : List Nat} (h : PInv es k O T (· = x)) (hall : ∀ i ∈ src es x, i ∈ O) : PInv es k O T (fun _ => False) :=
  ⟨h.sorted, h.anc, h.todo, fun y hy hn _ => by
    by_cases e : y = x
    · subst e; exact hall
    · exact h.done y hy hn e⟩
theorem PInv.over {es : List Ev} {k : Nat} {O : List Nat} (h : PInv es k O [] (fun _ => False)) : O = pastL es k :=
  sorted_ext h.sorted (pastL_sorted es k) (fun x => by
    rw [mem_pastL]
    exact ⟨h.anc x, anc_closed (S := (· ∈ O)) (h.done k (.inl rfl) (by simp) (fun h => h)) (fun y hy => h.done y (.inr hy) (by simp) (fun h => h)) x⟩)

/-- What the search looks at next: the last of the node ahead, or -1; of a hearing, its sending. -/
def nxL (es : List Ev) (x : Nat) : List Int := ixI (lastB es (evAt es x).n x) :: (if (evAt es x).k = 3 then [ixI (firstS es (evAt es x).m x)] else [])
theorem nxL_src {es : List Ev} {x : Nat} {z : Int} (h : z ∈ nxL es x) (hz : 0 ≤ z) : z.toNat ∈ src es x ∧ ((z.toNat : Nat) : Int) = z := by
  have hix : ∀ o : Option Nat, z = ixI o → o = some z.toNat := by
    intro o ho
    cases o with
    | none => simp [ixI] at ho; omega
    | some i => simp [ixI] at ho; rw [ho]; rfl
  refine ⟨?_, by omega⟩
  unfold nxL at h
  rw [List.mem_cons] at h
  unfold src
  rw [List.mem_append]
  rcases h with h | h
  · left; rw [hix _ h]; simp
  · right
    split at h
    · rename_i h3
      rw [if_pos h3]
      simp at h
      rw [hix _ h]; simp
    · simp at h
theorem src_nxL {es : List Ev} {x i : Nat} (h : i ∈ src es x) : (i : Int) ∈ nxL es x := by
  unfold src at h
  rw [List.mem_append] at h
  unfold nxL
  rw [List.mem_cons]
  rcases h with h | h
  · left; rw [Option.mem_toList] at h; rw [h]; rfl
  · right
    split at h
    · rename_i h3
      rw [if_pos h3]
      rw [Option.mem_toList] at h; rw [h]; simp [ixI]
    · simp at h
theorem take_all {xs : List Int} {O : List Nat} {i : Nat} (hi : xs.length ≤ i) (h : ∀ z ∈ xs.take i, 0 ≤ z → z.toNat ∈ O) : ∀ z ∈ xs, 0 ≤ z → z.toNat ∈ O := by
  rw [List.take_of_length_le hi] at h; exact h
theorem take_more {xs : List Int} {O : List Nat} {i : Nat} (hi : i < xs.length) (h : ∀ z ∈ xs.take i, 0 ≤ z → z.toNat ∈ O) (hx : 0 ≤ el xs i → (el xs i).toNat ∈ O) : ∀ z ∈ xs.take (i + 1), 0 ≤ z → z.toNat ∈ O := by
  intro z hz
  rw [take_snoc hi, List.mem_append] at hz
  rcases hz with hz | hz
  · exact h z hz
  · simp at hz; subst hz; exact hx
theorem oi_tail {w : World} {g off n cap : Nat} {z : Int} {zs : List Int} (h : OI w g off n cap (z :: zs)) :
    ∃ o9, (if cap = 1 then some (⟨g, off, none⟩ : Addr) else some ⟨g, off + 1, none⟩) = some ⟨g, o9, none⟩ ∧ OI w g o9 (n - 1) (cap - 1) zs := by
  have hl := h.length
  simp at hl
  have hle := h.le
  have hmx := h.max
  by_cases hc : cap = 1
  · refine ⟨off, by rw [if_pos hc], by simp; omega, by omega, by omega, h.blk, fun i hi => by omega, fun i hi => by omega, fun i hi => by omega⟩
  · refine ⟨off + 1, by rw [if_neg hc], by simp; omega, by omega, by omega, h.blk, fun i hi => ?_, fun i hi => ?_, fun i hi => ?_⟩
    · rw [Nat.add_assoc, Nat.add_comm 1 i, h.cell (i + 1) (by omega)]; simp
    · rw [Nat.add_assoc]; exact h.some (1 + i) (by omega)
    · rw [Nat.add_assoc]; exact h.free (1 + i) (by omega)
end Go.Proofs.Ytacogcfdolmfpaa
