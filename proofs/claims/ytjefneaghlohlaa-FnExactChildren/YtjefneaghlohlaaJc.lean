/-
  Several texts in one: Hdn.
-/
import Derived.Test.YtjefneaghlohlaaJb
import Derived.Test.YtjefneaghlohlaaIo
/-
  A heap that is drained: what comes out rises. A heap behind the interface from a new base.
-/
namespace Go.Proofs.Ytjefneaghlohlaa
set_option linter.unusedVariables false
set_option linter.unusedSimpArgs false
open Go.RowKit Go.Sort

theorem drained {L out : List Int} (h1 : out.Pairwise (· ≤ ·)) (h2 : out.Perm L) (h3 : L.Pairwise (· < ·)) : out = L :=
  List.Perm.eq_of_pairwise (le := fun a b : Int => a ≤ b) (fun a b _ _ h h' => by omega) h1 (h3.imp (fun h => by omega)) h2
/-- What has come out, and what is left. -/
structure Dr (L out rest : List Int) : Prop where
  rises : out.Pairwise (· ≤ ·)
  below : ∀ d ∈ out, ∀ r ∈ rest, d ≤ r
  perm : (out ++ rest).Perm L
theorem Dr.start {L xs : List Int} (h : xs.Perm L) : Dr L [] xs := ⟨List.Pairwise.nil, fun _ h => by simp at h, h⟩
theorem Dr.step {L out rest zs : List Int} {m : Int} (h : Dr L out rest) (hp : (m :: zs).Perm rest) (hm : ∀ z ∈ zs, m ≤ z) : Dr L (out ++ [m]) zs := by
  have hmr : m ∈ rest := hp.subset List.mem_cons_self
  refine ⟨?_, ?_, ?_⟩
  · rw [List.pairwise_append]
    refine ⟨h.rises, List.pairwise_singleton _ _, fun a ha b hb => ?_⟩
    rw [List.mem_singleton] at hb
    rw [hb]; exact h.below a ha m hmr
  · intro d hd r hr
    rcases List.mem_append.1 hd with h1 | h1
    · exact h.below d h1 r (hp.subset (List.mem_cons_of_mem _ hr))
    · rw [List.mem_singleton] at h1
      rw [h1]; exact hm r hr
  · rw [List.append_assoc]
    exact (List.Perm.append_left out hp).trans h.perm
theorem Dr.done {L out : List Int} (h : Dr L out []) (hL : L.Pairwise (· < ·)) : out = L := drained h.rises (by simpa using h.perm) hL
theorem Dr.len {L out rest : List Int} (h : Dr L out rest) : out.length + rest.length = L.length := by rw [← h.perm.length_eq, List.length_append]

/-- The same heap, seen from where it is. -/
theorem Hs.rebase {w0 w : World} {B g0 : Nat} {xs : List Int} (h : Hs w0 B g0 w xs) : ∃ g, (g = g0 ∨ w0.heap.size ≤ g) ∧ g ≠ B ∧ g < w.heap.size ∧ Hs w B g w xs := by
  obtain ⟨g, og, cap, hbx, ho, hgB, hg0, hB0, hfr⟩ := h
  exact ⟨g, hg0, hgB, ho.blk, g, og, cap, hbx, ho, hgB, .inl rfl, hbx.lt, Fr.refl _ _ _⟩
theorem Hs.fr {w0 w : World} {B g0 : Nat} {xs : List Int} (h : Hs w0 B g0 w xs) : Fr w0 B g0 w := by
  obtain ⟨g, og, cap, hbx, ho, hgB, hg0, hB0, hfr⟩ := h
  exact hfr
/-- Another block is written. -/
theorem Hs.other {w w' : World} {B g : Nat} {r : Option Nat} {xs : List Int} (h : Hs w B g w xs) (hg : w.grownBy w' r) (h1 : some B ≠ r) (h2 : some g ≠ r) : Hs w' B g w' xs := by
  obtain ⟨g1, og, cap, hbx, ho, hgB, hg0, hB0, hfr⟩ := h
  have hb := ho.blk
  obtain rfl : g1 = g := by rcases hg0 with e | e <;> omega
  exact ⟨g1, og, cap, hbx.grown hg h1, OSl.of_block ho (hg.block g1 hb h2) (Nat.lt_of_lt_of_le hb hg.size), hgB, .inl rfl, Nat.lt_of_lt_of_le hB0 hg.size, Fr.refl _ _ _⟩
theorem Fr.below {w0 w w1 : World} {B g0 n : Nat} (h : Fr w0 B g0 w1) (hb : Below n w w0) (hB : n ≤ B) (hg : n ≤ g0) (hs : n ≤ w0.heap.size) : Below n w w1 :=
  ⟨h.os.trans hb.os, h.tape.trans hb.tape, h.output.trans hb.output, Nat.le_trans hb.size h.size, fun k hk => (h.block k (by omega) (by omega) (by omega)).trans (hb.block k hk)⟩
theorem Fr.num {w0 w1 : World} {B g0 q oq n c : Nat} {Z : List Int} (h : Fr w0 B g0 w1) (ho : OI w0 q oq n c Z) (h1 : q ≠ B) (h2 : q ≠ g0) : OI w1 q oq n c Z :=
  OSl.of_block ho (h.block q ho.blk h1 h2) (Nat.lt_of_lt_of_le ho.blk h.size)

/-- The children by powers of two. -/
def kp (n k j : Nat) : List Int := ((List.range j).filter (fun i => decide (k < 2 ^ i) && decide (k + 2 ^ i < n))).map (fun i : Nat => ((k + 2 ^ i : Nat) : Int))
theorem kp_succ (n k j : Nat) : kp n k (j + 1) = kp n k j ++ (if k < 2 ^ j ∧ k + 2 ^ j < n then [((k + 2 ^ j : Nat) : Int)] else []) := by
  unfold kp
  rw [List.range_succ, List.filter_append, List.map_append]
  congr 1
  by_cases h : k < 2 ^ j ∧ k + 2 ^ j < n
  · rw [if_pos h]; simp [h.1, h.2]
  · rw [if_neg h, List.filter_cons_of_neg (by simpa using fun a => by omega)]; rfl
theorem kp_len (n k j : Nat) : (kp n k j).length ≤ j := by
  unfold kp
  rw [List.length_map]
  exact Nat.le_trans (List.length_filter_le _ _) (by simp)
theorem kp_rises (n k j : Nat) : (kp n k j).Pairwise (· < ·) := by
  unfold kp
  rw [List.pairwise_map]
  refine List.Pairwise.imp ?_ (List.Pairwise.filter _ List.pairwise_lt_range)
  intro a b h
  have := Nat.pow_lt_pow_right (a := 2) (by omega) h
  omega
theorem nodup_rises {L : List Int} (h : L.Pairwise (· < ·)) : L.Nodup := h.imp (fun h => by omega)
theorem kp_chl {n k j : Nat} (hj : n ≤ 2 ^ j) : kp n k j = chl n k := by
  refine drained ((kp_rises n k j).imp (fun h => by omega)) ((List.perm_ext_iff_of_nodup (nodup_rises (kp_rises n k j)) (nodup_rises (chl_rises n k))).2 (fun q => ?_)) (chl_rises n k)
  rw [mem_chl]
  simp only [kp, List.mem_map, List.mem_filter, List.mem_range, Bool.and_eq_true, decide_eq_true_eq]
  constructor
  · rintro ⟨i, ⟨hi, h1, h2⟩, rfl⟩
    have := par_is h1
    exact ⟨k + 2 ^ i, rfl, h2, by have := Nat.one_le_two_pow (n := i); omega, by rw [Nat.add_comm]; exact this⟩
  · rintro ⟨m, rfl, h1, h2, h3⟩
    have e1 := pw_le h2
    have e2 := par_lt_pw h2
    have e3 : m = par m + pw m := by unfold par; omega
    refine ⟨Nat.log2 m, ⟨?_, ?_, ?_⟩, ?_⟩
    · refine Nat.lt_of_not_le (fun h => ?_)
      have := Nat.pow_le_pow_right (n := 2) (by omega) h
      unfold pw at e1
      omega
    · rw [← h3]; exact e2
    · rw [← h3]; unfold pw at e3; omega
    · rw [← h3]; unfold pw at e3; rw [← e3]
end Go.Proofs.Ytjefneaghlohlaa
