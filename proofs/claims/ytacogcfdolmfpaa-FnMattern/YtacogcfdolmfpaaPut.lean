/-
  The contracts of the specification's l1Has and l1Put and of the laws' has.
-/
import Derived.Test.YtacogcfdolmfpaaSti
namespace Go.Proofs.Ytacogcfdolmfpaa
set_option linter.unusedSimpArgs false
set_option linter.unusedVariables false
open Go.RowKit Go.Sort

theorem el_mem_iff {xs : List Int} {x : Int} : x ∈ xs ↔ ∃ j, j < xs.length ∧ el xs j = x := by
  constructor
  · intro h
    obtain ⟨i, hi, rfl⟩ := List.getElem_of_mem h
    exact ⟨i, hi, by rw [el_eq hi]⟩
  · rintro ⟨j, hj, rfl⟩; exact el_mem hj

set_option maxHeartbeats 400000 in
theorem l1Has_any (b off len cap : Nat) (x : Int) (xs : List Int) (w : World) (hlen : xs.length = len) (hc : ∀ i, i < len → w.cell? ⟨b, off + i, none⟩ = some (.int .i64 (el xs i))) (hm : len ≤ maxLen) :
    Calls Try.prog 96 #[.slice (some ⟨b, off, none⟩) len cap, .int .i64 x] w fun e w' => e = .returned (.bool (decide (x ∈ xs))) ∧ w' = w := by
  unfold maxLen at hm
  have HL : Hid (xs.length = len) := hlen
  clear hlen
  go_enter Try.func96, Try.ntmps96
  go_wp2
  go_loop [5] (fun i => ∃ k : Nat, k ≤ len ∧ i = .int .i64 k ∧ ∀ j, j < k → el xs j ≠ x) (fun i => len - (intOf i).toNat)
  case atStart => exact ⟨0, Nat.zero_le _, rfl, fun j hj => by omega⟩
  case round =>
    obtain ⟨k, hk, rfl, hno⟩ := hrel
    have HN : Hid (∀ j, j < k → el xs j ≠ x) := hno
    clear hno
    by_cases hlt : k < len
    · have hck := hc k hlt
      by_cases he : el xs k = x
      · have hb : (el xs k == x) = true := by simpa using he
        have HF : Hid (decide (x ∈ xs) = true) := by rw [Hid, decide_eq_true_eq]; exact el_mem_iff.2 ⟨k, by rw [HL.out]; exact hlt, he⟩
        clear he
        go_wp2
        go_ret
        exact ⟨ret_bool (by rw [HF.out]), rfl⟩
      · have hb : (el xs k == x) = false := by simpa using he
        have HE : Hid (el xs k ≠ x) := he
        clear he
        go_wp2
        go_round
        case rel => exact ⟨k + 1, by omega, by go_num, fun j hj => by
          rcases Nat.lt_succ_iff_lt_or_eq.1 hj with h | h
          · exact HN.out j h
          · rw [h]; exact HE.out⟩
        case measure => simp [intOf]; omega
    · have HF : Hid (decide (x ∈ xs) = false) := by
        rw [Hid, decide_eq_false_iff_not, el_mem_iff]
        rintro ⟨j, hj, e⟩
        exact HN.out j (by rw [HL.out] at hj; omega) e
      go_wp2
      go_ret
      exact ⟨ret_bool (by rw [HF.out]), rfl⟩

theorem oi_take {w : World} {g off n cap : Nat} {zs : List Int} (h : OI w g off n cap zs) {k : Nat} (hk : k ≤ n) : OI w g off k cap (zs.take k) := by
  have hl := h.length
  refine ⟨by simp; omega, Nat.le_trans hk h.le, h.max, h.blk, fun i hi => ?_, h.some, h.free⟩
  rw [h.cell i (by omega)]
  simp only [Nat.mul_one] at hi
  simp [hi]
theorem news_drop {w : World} {g off n cap : Nat} {zs : List Int} (h : OI w g off n cap zs) {k : Nat} (j : Nat) (u : Value) (hu : ((zs.drop k).map (Value.int .i64))[j]? = some u) : w.cell? ((⟨g, off + k, none⟩ : Addr).add j) = some u := by
  rw [add_lit0, Nat.add_assoc]
  have hl := h.length
  rw [List.getElem?_map, List.getElem?_drop] at hu
  have hj : k + j < zs.length := by
    rcases Nat.lt_or_ge (k + j) zs.length with h | h
    · exact h
    · rw [List.getElem?_eq_none h] at hu; simp at hu
  rw [h.cell (k + j) (by omega), List.getElem?_map]; exact hu
theorem news_take {w : World} {g off n cap : Nat} {zs : List Int} (h : OI w g off n cap zs) {k : Nat} (j : Nat) (u : Value) (hu : ((zs.take k).map (Value.int .i64))[j]? = some u) : w.cell? ((⟨g, off, none⟩ : Addr).add j) = some u := by
  rw [add_lit0]
  have hl := h.length
  rw [List.getElem?_map, List.getElem?_take] at hu
  by_cases hjk : j < k
  · rw [if_pos hjk] at hu
    have hj : j < zs.length := by
      rcases Nat.lt_or_ge j zs.length with h | h
      · exact h
      · rw [List.getElem?_eq_none h] at hu; simp at hu
    rw [h.cell j (by omega), List.getElem?_map]; exact hu
  · rw [if_neg hjk] at hu; simp at hu
theorem oi_first {w : World} {g off n cap : Nat} {zs : List Int} (h : OSl w 1 g off (0 + n) cap ([] ++ zs.map (Value.int .i64))) : OI w g off n cap zs := by
  rw [Nat.zero_add, List.nil_append] at h; exact h
theorem oi_app {w : World} {g off n m cap : Nat} {zs ys : List Int} (h : OSl w 1 g off (n + m) cap (zs.map (Value.int .i64) ++ ys.map (Value.int .i64))) : OI w g off (n + m) cap (zs ++ ys) := by
  unfold OI; rw [List.map_append]; exact h
theorem oi_app2 {w : World} {g off n cap : Nat} {zs ys : List Int} {x : Int} (h : OSl w 1 g off n cap ((zs ++ [x]).map (Value.int .i64) ++ ys.map (Value.int .i64))) : OI w g off n cap (zs ++ x :: ys) := by
  unfold OI; rw [← List.map_append] at h; simpa using h
theorem ans_of {w w' : World} {g off c n : Nat} {Z : List Int} (hn : Z.length = n) (h1 : w.heap.size ≤ g) (h2 : OI w' g off n c Z) (h3 : Below w.heap.size w w') : Ans w w' (.returned (.slice (some ⟨g, off, none⟩) n c)) Z :=
  ⟨g, off, c, by rw [hn], h1, by rw [hn]; exact h2, h3⟩
theorem at_ge {g' g H B : Nat} (h : g' = g ∨ g' = H) (hg : B ≤ g) (hH : B ≤ H) : B ≤ g' := by rcases h with h | h <;> omega
theorem at_ne {g' g H x : Nat} (h : g' = g ∨ g' = H) (hg : g ≠ x) (hH : H ≠ x) : ¬ g' = x := by rcases h with h | h <;> omega
theorem news_drop0 {w : World} {g off n cap : Nat} {zs : List Int} (h : OI w g off n cap zs) (j : Nat) (u : Value) (hu : (zs.map (Value.int .i64))[j]? = some u) : w.cell? ((⟨g, off, none⟩ : Addr).add j) = some u :=
  news_drop (k := 0) h j u (by simpa using hu)
theorem one_cells (zs : List Int) : ∀ u ∈ zs.map (Value.int .i64), u.oneCell' = true := by
  intro u hu
  obtain ⟨z, _, rfl⟩ := List.mem_map.1 hu
  rfl

set_option maxRecDepth 100000 in
set_option maxHeartbeats 1600000 in
theorem l1Put_any (b off n cap : Nat) (x : Int) (xs : List Int) (w : World) (ho : OI w b off n cap xs) (hno : x ∉ xs) (hn : n ≤ 100000) :
    Calls Try.prog 119 #[.slice (some ⟨b, off, none⟩) n cap, .int .i64 x] w fun e w' => ∃ k, k ≤ n ∧ (∀ j, j < k → el xs j < x) ∧ (k < n → x < el xs k) ∧ Ans w w' e (xs.take k ++ x :: xs.drop k) := by
  obtain ⟨i0, hi0, hz0, hz1, hz2⟩ := info_parts Try.info2
  have HO : Hid (OI w b off n cap xs) := ho
  have HX : Hid (x ∉ xs) := hno
  have hlen := ho.length
  have hle := ho.le
  have HL : Hid (xs.length = n) := hlen
  have hmx := ho.max
  clear ho hno hlen
  go_enter Try.func119, Try.ntmps119
  go_wp2
  go_loop [5] (fun i => ∃ k : Nat, k ≤ n ∧ i = .int .i64 k ∧ ∀ j, j < k → el xs j < x) (fun i => n - (intOf i).toNat)
  case atStart => exact ⟨0, Nat.zero_le _, rfl, fun j hj => by omega⟩
  case round =>
    obtain ⟨k, hk, rfl, hall⟩ := hrel
    have HA : Hid (∀ j, j < k → el xs j < x) := hall
    clear hall
    by_cases hgo : k < n ∧ el xs k < x
    · have hck := HO.out.cellAt hgo.1
      have hlt := hgo.1
      have hex := hgo.2
      clear hgo
      go_wp2
      go_round
      case rel => exact ⟨k + 1, by omega, by go_num, fun j hj => by
        rcases Nat.lt_succ_iff_lt_or_eq.1 hj with h | h
        · exact HA.out j h
        · rw [h]; exact hex⟩
      case measure => simp [intOf]; omega
    · have HGT : Hid (k < n → x < el xs k) := fun h => by
        have h1 : ¬ el xs k < x := fun h2 => hgo ⟨h, h2⟩
        have h2 : el xs k ≠ x := fun h2 => HX.out (el_mem_iff.2 ⟨k, by rw [HL.out]; exact h, h2⟩)
        omega
      clear hgo
      have hkc : (k : Int) ≤ (cap : Int) := by omega
      have hk0 : (0 : Int) ≤ (k : Int) := by omega
      have hkn : (k : Int) ≤ (n : Int) := by omega
      obtain ⟨o9, he9, hn9⟩ : ∃ o9, (if cap = k then some (⟨b, off, none⟩ : Addr) else some ⟨b, off + k, none⟩) = some ⟨b, o9, none⟩ ∧ ∀ X, Below w.heap.size w X → ∀ j u, ((xs.drop k).map (Value.int .i64))[j]? = some u → X.cell? ((⟨b, o9, none⟩ : Addr).add j) = some u := by
        by_cases h : cap = k
        · refine ⟨off, by rw [if_pos h], fun X _ j u hu => ?_⟩
          rw [List.drop_eq_nil_of_le (by rw [HL.out]; omega)] at hu
          simp at hu
        · exact ⟨off + k, by rw [if_neg h], fun X hX j u hu => news_drop (HO.out.below hX HO.out.blk) j u hu⟩
      have N0 : Hid (∀ o, ∀ j u, ((xs.drop k).map (Value.int .i64))[j]? = some u → (w.alloc o).cell? ((⟨b, o9, none⟩ : Addr).add j) = some u) := fun o => hn9 _ ((Below.refl _ _).alloc (Nat.le_refl _) o)
      have L1 : Hid (((xs.drop k).map (Value.int .i64)).length = (n - k) * 1) := by simp [Hid, HL.out]
      have L0 : Hid (((xs.take k).map (Value.int .i64)).length = k * 1) := by simp [Hid, HL.out]; omega
      clear hn9
      by_cases hlt : k < n
      · have hck := HO.out.cellAt hlt
        have hgt := HGT.out hlt
        have hb1 : decide (el xs k < x) = false := by simp; omega
        have hb2 : (el xs k == x) = false := by simp; omega
        have h9 : off + k = o9 := by rw [if_neg (by omega)] at he9; simpa using he9
        subst h9
        go_wp2_with (first
          | (at_builtin; refine wpList_append_os _ rfl _ _ _ rfl 2 i0 _ 1 8 Try.underlying24 hi0 hz0 hz1 hz2 rfl (by omega) g3 f3 (k + 1) c3 ((xs.take k ++ [x]).map (Value.int .i64)) rfl O3.out ⟨g1, f1, none⟩ (n - k) c1 ((xs.drop k).map (Value.int .i64)) rfl L1.out N3.out (one_cells _) (by unfold maxLen; omega) (by omega) ?_; intro g4 f4 c4 w4 o4 hg4 hat4; have O4 : Hid (OI w4 g4 f4 (k + 1 + (n - k)) c4 (xs.take k ++ x :: xs.drop k)) := oi_app2 o4; have B4 : Hid (Below w.heap.size w w4) := below_grown B3.out hg4 P3.out S3.out; have P4 : Hid (w.heap.size ≤ g4) := at_ge hat4 P3.out S3.out; clear o4 hg4 hat4)
          | (at_builtin; refine wpList_append_os _ rfl _ _ _ rfl 2 i0 _ 1 8 Try.underlying24 hi0 hz0 hz1 hz2 rfl (by omega) g2 f2 k c2 ((xs.take k).map (Value.int .i64)) rfl (OSl.below O2.out ((Below.refl _ _).alloc (Nat.le_refl _) _) O2.out.blk) ⟨w2.heap.size, 0, none⟩ 1 1 [.int .i64 x] rfl rfl (World.news_of_block (cs := #[.int .i64 x]) (t := 2) (fr := (0, 0)) (heap_alloc_new w2 _)) (by simp [Value.oneCell']) (by unfold maxLen; omega) (by omega) ?_; intro g3 f3 c3 w3 o3 hg3 hat3; have O3 : Hid (OI w3 g3 f3 (k + 1) c3 (xs.take k ++ [x])) := oi_snoc o3; have B3 : Hid (Below w.heap.size w w3) := below_grown (B2.out.alloc S2.out _) hg3 P2.out (Nat.le_trans S2.out (by simp)); have S3 : Hid (w.heap.size ≤ w3.heap.size) := B3.out.size; have P3 : Hid (w.heap.size ≤ g3) := at_ge hat3 P2.out (Nat.le_trans S2.out (by simp)); have N3 : Hid (∀ j u, ((xs.drop k).map (Value.int .i64))[j]? = some u → w3.cell? ((⟨g1, f1, none⟩ : Addr).add j) = some u) := news_drop0 (OSl.grown (OSl.below E2.out ((Below.refl _ _).alloc (Nat.le_refl _) _) E2.out.blk) hg3 (by simp; exact NE.out)); clear o3 hg3 hat3)
          | (at_builtin; refine wpList_append_os _ rfl _ _ _ rfl 2 i0 _ 1 8 Try.underlying24 hi0 hz0 hz1 hz2 rfl (by omega) w1.heap.size 0 0 0 [] rfl (oi_empty w1 2) ⟨b, off, none⟩ k cap ((xs.take k).map (Value.int .i64)) rfl L0.out (news_take (OI.below X1.out ((Below.refl _ _).alloc (Nat.le_refl _) _) X1.out.blk)) (one_cells _) (by unfold maxLen; omega) (by omega) ?_; intro g2 f2 c2 w2 o2 hg2 hat2; have O2 : Hid (OI w2 g2 f2 k c2 (xs.take k)) := oi_first o2; have B2 : Hid (Below w.heap.size w w2) := below_grown (B1.out.alloc S1.out _) hg2 S1.out (Nat.le_trans S1.out (by simp)); have S2 : Hid (w.heap.size ≤ w2.heap.size) := B2.out.size; have P2 : Hid (w.heap.size ≤ g2) := at_ge hat2 S1.out (Nat.le_trans S1.out (by simp)); have E2 : Hid (OI w2 g1 f1 (n - k) c1 (xs.drop k)) := OSl.grown (OSl.below O1.out ((Below.refl _ _).alloc (Nat.le_refl _) _) O1.out.blk) hg2 (by { have := O1.out.blk; simp; omega }); have NE : Hid (¬ g2 = g1) := at_ne hat2 (Nat.ne_of_gt O1.out.blk) (Nat.ne_of_gt (Nat.lt_of_lt_of_le O1.out.blk (by simp))); clear o2 hg2 hat2)
          | (at_builtin; (refine wpList_append_os _ rfl _ _ _ rfl 2 i0 _ 1 8 Try.underlying24 hi0 hz0 hz1 hz2 rfl (by omega) w.heap.size 0 0 0 [] rfl (oi_empty w 2) ⟨b, off + k, none⟩ (n - k) (cap - k) ((xs.drop k).map (Value.int .i64)) rfl L1.out (N0.out _) (one_cells _) (by unfold maxLen; omega) (by omega) ?_); intro g1 f1 c1 w1 o1 hg1 hat1; have O1 : Hid (OI w1 g1 f1 (n - k) c1 (xs.drop k)) := oi_first o1; have B1 : Hid (Below w.heap.size w w1) := below_grown ((Below.refl _ _).alloc (Nat.le_refl _) _) hg1 (Nat.le_refl _) (by simp); have S1 : Hid (w.heap.size ≤ w1.heap.size) := B1.out.size; have X1 : Hid (OI w1 b off n cap xs) := HO.out.below B1.out HO.out.blk; clear o1 hg1 hat1))
        go_ret
        exact ⟨k, hk, HA.out, HGT.out, ans_of (by simp [HL.out]; omega) P4.out O4.out B4.out⟩
      · go_wp2_with (first
          | (at_builtin; refine wpList_append_os _ rfl _ _ _ rfl 2 i0 _ 1 8 Try.underlying24 hi0 hz0 hz1 hz2 rfl (by omega) g3 f3 (k + 1) c3 ((xs.take k ++ [x]).map (Value.int .i64)) rfl O3.out ⟨g1, f1, none⟩ (n - k) c1 ((xs.drop k).map (Value.int .i64)) rfl L1.out N3.out (one_cells _) (by unfold maxLen; omega) (by omega) ?_; intro g4 f4 c4 w4 o4 hg4 hat4; have O4 : Hid (OI w4 g4 f4 (k + 1 + (n - k)) c4 (xs.take k ++ x :: xs.drop k)) := oi_app2 o4; have B4 : Hid (Below w.heap.size w w4) := below_grown B3.out hg4 P3.out S3.out; have P4 : Hid (w.heap.size ≤ g4) := at_ge hat4 P3.out S3.out; clear o4 hg4 hat4)
          | (at_builtin; refine wpList_append_os _ rfl _ _ _ rfl 2 i0 _ 1 8 Try.underlying24 hi0 hz0 hz1 hz2 rfl (by omega) g2 f2 k c2 ((xs.take k).map (Value.int .i64)) rfl (OSl.below O2.out ((Below.refl _ _).alloc (Nat.le_refl _) _) O2.out.blk) ⟨w2.heap.size, 0, none⟩ 1 1 [.int .i64 x] rfl rfl (World.news_of_block (cs := #[.int .i64 x]) (t := 2) (fr := (0, 0)) (heap_alloc_new w2 _)) (by simp [Value.oneCell']) (by unfold maxLen; omega) (by omega) ?_; intro g3 f3 c3 w3 o3 hg3 hat3; have O3 : Hid (OI w3 g3 f3 (k + 1) c3 (xs.take k ++ [x])) := oi_snoc o3; have B3 : Hid (Below w.heap.size w w3) := below_grown (B2.out.alloc S2.out _) hg3 P2.out (Nat.le_trans S2.out (by simp)); have S3 : Hid (w.heap.size ≤ w3.heap.size) := B3.out.size; have P3 : Hid (w.heap.size ≤ g3) := at_ge hat3 P2.out (Nat.le_trans S2.out (by simp)); have N3 : Hid (∀ j u, ((xs.drop k).map (Value.int .i64))[j]? = some u → w3.cell? ((⟨g1, f1, none⟩ : Addr).add j) = some u) := news_drop0 (OSl.grown (OSl.below E2.out ((Below.refl _ _).alloc (Nat.le_refl _) _) E2.out.blk) hg3 (by simp; exact NE.out)); clear o3 hg3 hat3)
          | (at_builtin; refine wpList_append_os _ rfl _ _ _ rfl 2 i0 _ 1 8 Try.underlying24 hi0 hz0 hz1 hz2 rfl (by omega) w1.heap.size 0 0 0 [] rfl (oi_empty w1 2) ⟨b, off, none⟩ k cap ((xs.take k).map (Value.int .i64)) rfl L0.out (news_take (OI.below X1.out ((Below.refl _ _).alloc (Nat.le_refl _) _) X1.out.blk)) (one_cells _) (by unfold maxLen; omega) (by omega) ?_; intro g2 f2 c2 w2 o2 hg2 hat2; have O2 : Hid (OI w2 g2 f2 k c2 (xs.take k)) := oi_first o2; have B2 : Hid (Below w.heap.size w w2) := below_grown (B1.out.alloc S1.out _) hg2 S1.out (Nat.le_trans S1.out (by simp)); have S2 : Hid (w.heap.size ≤ w2.heap.size) := B2.out.size; have P2 : Hid (w.heap.size ≤ g2) := at_ge hat2 S1.out (Nat.le_trans S1.out (by simp)); have E2 : Hid (OI w2 g1 f1 (n - k) c1 (xs.drop k)) := OSl.grown (OSl.below O1.out ((Below.refl _ _).alloc (Nat.le_refl _) _) O1.out.blk) hg2 (by { have := O1.out.blk; simp; omega }); have NE : Hid (¬ g2 = g1) := at_ne hat2 (Nat.ne_of_gt O1.out.blk) (Nat.ne_of_gt (Nat.lt_of_lt_of_le O1.out.blk (by simp))); clear o2 hg2 hat2)
          | (at_builtin; refine wpList_append_os _ rfl _ _ _ rfl 2 i0 _ 1 8 Try.underlying24 hi0 hz0 hz1 hz2 rfl (by omega) w.heap.size 0 0 0 [] rfl (oi_empty w 2) ⟨b, o9, none⟩ (n - k) (cap - k) ((xs.drop k).map (Value.int .i64)) rfl L1.out (N0.out _) (one_cells _) (by unfold maxLen; omega) (by omega) ?_; intro g1 f1 c1 w1 o1 hg1 hat1; have O1 : Hid (OI w1 g1 f1 (n - k) c1 (xs.drop k)) := oi_first o1; have B1 : Hid (Below w.heap.size w w1) := below_grown ((Below.refl _ _).alloc (Nat.le_refl _) _) hg1 (Nat.le_refl _) (by simp); have S1 : Hid (w.heap.size ≤ w1.heap.size) := B1.out.size; have X1 : Hid (OI w1 b off n cap xs) := HO.out.below B1.out HO.out.blk; clear o1 hg1 hat1))
        go_ret
        exact ⟨k, hk, HA.out, HGT.out, ans_of (by simp [HL.out]; omega) P4.out O4.out B4.out⟩
end Go.Proofs.Ytacogcfdolmfpaa
