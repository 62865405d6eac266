/-
  Several texts in one: Rpu.
-/
import Derived.Test.YtgaibngaincahaaJg
/-
  The specification's l1Put: a number put into a rising list.
-/
namespace Go.Proofs.Ytgaibngaincahaa
set_option linter.unusedVariables false
set_option linter.unusedSimpArgs false
open Go.RowKit Go.Sort

theorem putL_at (n : Int) : ∀ (h : List Int) (k : Nat), k ≤ h.length → (∀ t, t < k → el h t < n) → (k < h.length → ¬ el h k < n) →
    putL h n = if k < h.length ∧ el h k = n then h else h.take k ++ n :: h.drop k := by
  intro h
  induction h with
  | nil => intro k hk _ _; simp at hk; subst hk; simp [putL]
  | cons x l ih =>
    intro k hk hlt hge
    cases k with
    | zero =>
      have h0 : ¬ x < n := by simpa [el] using hge (by simp)
      unfold putL
      rw [if_neg h0]
      by_cases e : x = n
      · rw [if_pos e, if_pos ⟨by simp, by simpa [el] using e⟩]
      · rw [if_neg e, if_neg (by simp [el]; exact e)]
        simp
    | succ k =>
      have h0 : x < n := by simpa [el] using hlt 0 (by omega)
      have hs : ∀ t, el (x :: l) (t + 1) = el l t := fun t => by simp [el]
      unfold putL
      rw [if_pos h0, ih k (by simpa using hk) (fun t ht => by rw [← hs]; exact hlt (t + 1) (by omega)) (fun hk' => by rw [← hs]; exact hge (by simpa using hk')), hs]
      by_cases e : k < l.length ∧ el l k = n
      · rw [if_pos e, if_pos ⟨by simpa using e.1, e.2⟩]
      · rw [if_neg e, if_neg (by simpa using e)]
        simp
theorem el_take {xs : List Int} {k i : Nat} (h : i < k) : el (xs.take k) i = el xs i := by simp [el, List.getElem?_take, h]
theorem el_drop {xs : List Int} {k i : Nat} : el (xs.drop k) i = el xs (k + i) := by simp [el, List.getElem?_drop]

theorem app_one {w w2 : World} {g2 o2 c2 m : Nat} {Z : List Int} (ho2 : OSl w2 1 g2 o2 (0 + m) c2 (([] : List Int).map (Value.int .i64) ++ Z.map (Value.int .i64))) (hg2 : (w.alloc (.cells #[] 2)).grownBy w2 (some w.heap.size))
    (hat2 : g2 = w.heap.size ∨ g2 = (w.alloc (.cells #[] 2)).heap.size) : OI w2 g2 o2 m c2 Z ∧ w.heap.size ≤ g2 ∧ Below w.heap.size w w2 ∧ g2 < w2.heap.size := by
  simp only [List.map_nil, List.nil_append, Nat.zero_add] at ho2
  refine ⟨ho2, ?_, below_grown6 ((Below.refl _ _).alloc (Nat.le_refl _) _) hg2 (Nat.le_refl _) (by simp), ho2.blk⟩
  rcases hat2 with h | h
  · rw [h]; exact Nat.le_refl _
  · rw [h]; simp
theorem app_more {w w3 w4 : World} {o : Obj} {g3 g4 o4 c4 m k : Nat} {T : List Int} {n : Int} (hB : Below w.heap.size w w3) (hg : w.heap.size ≤ g3) (ho : OSl w4 1 g4 o4 (k + 1) c4 (T.map (Value.int .i64) ++ [.int .i64 n])) (hg4 : (w3.alloc o).grownBy w4 (some g3))
    (hat : g4 = g3 ∨ g4 = (w3.alloc o).heap.size) : OI w4 g4 o4 (k + 1) c4 (T ++ [n]) ∧ w.heap.size ≤ g4 ∧ Below w.heap.size w w4 := by
  refine ⟨by rw [OI, List.map_append]; exact ho, ?_, below_grown6 (hB.alloc hB.size _) hg4 hg (Nat.le_trans hB.size (by simp))⟩
  rcases hat with h | h
  · rw [h]; exact hg
  · rw [h]; exact Nat.le_trans hB.size (by simp)
theorem app_last {w w4 w5 : World} {g4 g5 o5 c5 m k : Nat} {T D : List Int} {n : Int} (hB : Below w.heap.size w w4) (hg : w.heap.size ≤ g4) (ho : OSl w5 1 g5 o5 (k + 1 + m) c5 ((T ++ [n]).map (Value.int .i64) ++ D.map (Value.int .i64))) (hg5 : w4.grownBy w5 (some g4))
    (hat : g5 = g4 ∨ g5 = w4.heap.size) : OI w5 g5 o5 (k + 1 + m) c5 (T ++ n :: D) ∧ w.heap.size ≤ g5 ∧ Below w.heap.size w w5 := by
  refine ⟨by rw [OI, show T ++ n :: D = (T ++ [n]) ++ D by simp, List.map_append]; exact ho, ?_, below_grown6 hB hg5 hg hB.size⟩
  rcases hat with h | h
  · rw [h]; exact hg
  · rw [h]; exact hB.size

set_option maxRecDepth 100000 in
set_option maxHeartbeats 3200000 in
theorem putS_any (b off len cap : Nat) (xs : List Int) (n : Int) (w : World) (hl : xs.length = len) (hc : ∀ i, i < len → w.cell? ⟨b, off + i, none⟩ = some (.int .i64 (el xs i))) (hcap : len ≤ cap) (hm : cap ≤ maxLen) (hn : len ≤ 100000000) :
    Calls Try.prog 87 #[.slice (some ⟨b, off, none⟩) len cap, .int .i64 n] w fun e w' => (e = .returned (.slice (some ⟨b, off, none⟩) len cap) ∧ putL xs n = xs ∧ w' = w) ∨ AnsN w w' e (putL xs n) := by
  obtain ⟨i0, hi0, hz0, hz1, hz2⟩ := info_parts2n Try.info2n
  unfold maxLen at hm
  have HL : Hid (xs.length = len) := hl
  have HP : Hid (∀ k, k ≤ len → (∀ t, t < k → el xs t < n) → (k < len → ¬ el xs k < n) → putL xs n = if k < len ∧ el xs k = n then xs else xs.take k ++ n :: xs.drop k) := fun k h1 h2 h3 => by
    have := putL_at n xs k (by omega) h2 (by rw [hl]; exact h3)
    rw [hl] at this
    exact this
  clear hl
  go_enter Try.func87, Try.ntmps87
  go_wp2_with fail
  go_loop [5] (fun i => ∃ k : Nat, k ≤ len ∧ i = .int .i64 k ∧ ∀ t, t < k → el xs t < n) (fun i => len - (intOf i).toNat)
  case atStart => exact ⟨0, Nat.zero_le _, rfl, fun t ht => by omega⟩
  case round =>
    obtain ⟨k, hk, rfl, hlo⟩ := hrel
    have HO : Hid (∀ t, t < k → el xs t < n) := hlo
    clear hlo
    have k0 : (0 : Int) ≤ (k : Int) := by omega
    by_cases hlt : k < len
    · have hck := hc k hlt
      have k1 : (k : Int) < (len : Int) := by omega
      by_cases hx : el xs k < n
      · have hd : decide (el xs k < n) = true := by simpa using hx
        have HE : Hid (∀ t, t < k + 1 → el xs t < n) := fun t ht => by
          rcases Nat.lt_succ_iff_lt_or_eq.1 ht with h1 | h1
          · exact HO.out t h1
          · rw [h1]; exact hx
        go_wp2
        go_round
        case rel => exact ⟨k + 1, by omega, by go_num, HE.out⟩
        case measure => simp [intOf]; omega
      · have hd : decide (el xs k < n) = false := by simpa using hx
        have HQ := HP.out k hk HO.out (fun _ => by omega)
        by_cases he : el xs k = n
        · have hb : (el xs k == n) = true := by simpa using he
          have HZ : Hid (putL xs n = xs) := by rw [Hid, HQ, if_pos ⟨hlt, he⟩]
          clear HQ he hx
          go_wp2
          go_ret
          exact .inl ⟨rfl, HZ.out, rfl⟩
        · have hb : (el xs k == n) = false := by simpa using he
          have HZ : Hid (putL xs n = xs.take k ++ n :: xs.drop k) := by rw [Hid, HQ, if_neg (fun h => he h.2)]
          clear HQ he hx
          have k2 : (k : Int) ≤ (len : Int) := by omega
          have k3 : (k : Int) ≤ (cap : Int) := by omega
          have HTl : Hid ((xs.take k).length = k) := by rw [Hid, List.length_take, HL.out]; omega
          have HDl : Hid ((xs.drop k).length = len - k) := by rw [Hid, List.length_drop, HL.out]
          have HD : Hid (∀ i, i < (xs.drop k).length → (w.alloc (.cells #[] 2)).cell? ⟨b, off + k + i, none⟩ = some (.int .i64 (el (xs.drop k) i))) := fun i hi => by
            rw [el_drop, Nat.add_assoc]
            exact below_cell ((Below.refl _ _).alloc (Nat.le_refl _) _) (hc (k + i) (by have := HDl.out; omega))
          have HT : Hid (∀ i, i < (xs.take k).length → w.cell? ⟨b, off + i, none⟩ = some (.int .i64 (el (xs.take k) i))) := fun i hi => by
            rw [el_take (by have := HTl.out; omega)]
            exact hc i (by have := HTl.out; omega)
          clear hc
          generalize xs.take k = T at *
          generalize xs.drop k = D at *
          have hTn : (T.map (Value.int .i64)).length = k * 1 := by rw [List.length_map, HTl.out]; omega
          have hDn : (D.map (Value.int .i64)).length = (len - k) * 1 := by rw [List.length_map, HDl.out]; omega
          go_wp2_with (first
            | (at_builtin; refine wpList_append_os _ rfl (.tmp 34) (.tmp 37) _ rfl 2 i0 _ 1 8 Try.underlying24 hi0 hz0 hz1 hz2 rfl (by omega) w.heap.size 0 0 0 (([] : List Int).map (Value.int .i64)) rfl (num_empty w 2) ⟨b, off + k, none⟩ (len - k) (cap - k) (D.map (Value.int .i64)) rfl hDn (num_news HD.out) (by simp [Value.oneCell']) (by unfold maxLen; omega) (by omega) ?_; intro g2 o2 c2 w2 ho2 hg2 hat2; obtain ⟨q2, r2, s2, t2⟩ := app_one ho2 hg2 hat2; clear ho2 hg2 hat2)
            | (at_builtin; refine wpList_append_os _ rfl (.tmp 39) (.tmp 42) _ rfl 2 i0 _ 1 8 Try.underlying24 hi0 hz0 hz1 hz2 rfl (by omega) w2.heap.size 0 0 0 (([] : List Int).map (Value.int .i64)) rfl (num_empty w2 2) ⟨b, off, none⟩ k cap (T.map (Value.int .i64)) rfl hTn (num_news (fun i hi => below_cell ((Below.refl _ _).alloc (Nat.le_refl _) _) (below_cell s2 (HT.out i hi)))) (by simp [Value.oneCell']) (by unfold maxLen; omega) (by omega) ?_; intro g3 o3 c3 w3 ho3 hg3 hat3; obtain ⟨q3, r3, s3, t3⟩ := app_one ho3 hg3 hat3; clear ho3 hg3 hat3)
            | (at_builtin; refine wpList_append_os _ rfl (.tmp 43) (.tmp 45) _ rfl 2 i0 _ 1 8 Try.underlying24 hi0 hz0 hz1 hz2 rfl (by omega) g3 o3 k c3 (T.map (Value.int .i64)) rfl (OSl.below q3 ((Below.refl _ _).alloc (Nat.le_refl _) _) t3) ⟨w3.heap.size, 0, none⟩ 1 1 [.int .i64 n] rfl rfl (World.news_of_block (cs := #[.int .i64 n]) (t := 2) (fr := (0, 0)) (heap_alloc_new _ _)) (by simp [Value.oneCell']) (by unfold maxLen; omega) (by omega) ?_; intro g4 o4 c4 w4 ho4 hg4 hat4; obtain ⟨q4, r4, s4⟩ := app_more (m := 0) s3 r3 ho4 hg4 hat4; clear ho4 hg4 hat4)
            | (at_builtin; refine wpList_append_os _ rfl (.tmp 46) (.tmp 47) _ rfl 2 i0 _ 1 8 Try.underlying24 hi0 hz0 hz1 hz2 rfl (by omega) g4 o4 (k + 1) c4 ((T ++ [n]).map (Value.int .i64)) rfl q4 ⟨g2, o2, none⟩ (len - k) c2 (D.map (Value.int .i64)) rfl hDn (num_news (fun i hi => OI.cellAt (show OI w4 g2 o2 (len - k) c2 D from OSl.below q2 s4 t2) (by have := HDl.out; omega))) (by simp [Value.oneCell']) (by unfold maxLen; omega) (by omega) ?_; intro g5 o5 c5 w5 ho5 hg5 hat5; obtain ⟨q5, r5, s5⟩ := app_last s4 r4 ho5 hg5 hat5; clear ho5 hg5 hat5))
          go_ret
          refine .inr ⟨g5, o5, c5, ?_, Nat.le_trans s2.size r5, ?_, s2.trans (s5.mono s2.size)⟩
          · rw [HZ.out, List.length_append, List.length_cons, HTl.out, HDl.out]
            exact congrArg (fun z => Ending.returned (.slice (some ⟨g5, o5, none⟩) z c5)) (by omega)
          · rw [HZ.out, List.length_append, List.length_cons, HTl.out, HDl.out, show k + (len - k + 1) = k + 1 + (len - k) by omega]
            exact q5
    · have HQ := HP.out k hk HO.out (fun h => absurd h hlt)
      have HZ : Hid (putL xs n = xs.take k ++ n :: xs.drop k) := by rw [Hid, HQ, if_neg (fun h => hlt h.1)]
      clear HQ
      have hkl : len = k := by omega
      subst hkl
      clear hlt
      by_cases hcl : len = cap
      · subst hcl
        have k2 : (0 : Int) ≤ (len : Int) := by omega
        have k3 : (len : Int) ≤ (len : Int) := by omega
        have HTl : Hid ((xs.take len).length = len) := by rw [Hid, List.length_take, HL.out]; omega
        have HDl : Hid ((xs.drop len).length = 0) := by rw [Hid, List.length_drop, HL.out]; omega
        have HD : Hid (∀ i, i < (xs.drop len).length → (w.alloc (.cells #[] 2)).cell? ⟨b, off + i, none⟩ = some (.int .i64 (el (xs.drop len) i))) := fun i hi => absurd hi (by have := HDl.out; omega)
        have HT : Hid (∀ i, i < (xs.take len).length → w.cell? ⟨b, off + i, none⟩ = some (.int .i64 (el (xs.take len) i))) := fun i hi => by
          rw [el_take (by have := HTl.out; omega)]
          exact hc i (by have := HTl.out; omega)
        clear hc
        generalize xs.take len = T at *
        generalize xs.drop len = D at *
        have hTn : (T.map (Value.int .i64)).length = len * 1 := by rw [List.length_map, HTl.out]; omega
        have hDn : (D.map (Value.int .i64)).length = 0 * 1 := by rw [List.length_map, HDl.out]
        go_wp2_with (first
          | (at_builtin; refine wpList_append_os _ rfl (.tmp 34) (.tmp 37) _ rfl 2 i0 _ 1 8 Try.underlying24 hi0 hz0 hz1 hz2 rfl (by omega) w.heap.size 0 0 0 (([] : List Int).map (Value.int .i64)) rfl (num_empty w 2) ⟨b, off, none⟩ 0 0 (D.map (Value.int .i64)) rfl hDn (num_news HD.out) (by simp [Value.oneCell']) (by unfold maxLen; omega) (by omega) ?_; intro g2 o2 c2 w2 ho2 hg2 hat2; obtain ⟨q2, r2, s2, t2⟩ := app_one ho2 hg2 hat2; clear ho2 hg2 hat2)
          | (at_builtin; refine wpList_append_os _ rfl (.tmp 39) (.tmp 42) _ rfl 2 i0 _ 1 8 Try.underlying24 hi0 hz0 hz1 hz2 rfl (by omega) w2.heap.size 0 0 0 (([] : List Int).map (Value.int .i64)) rfl (num_empty w2 2) ⟨b, off, none⟩ len len (T.map (Value.int .i64)) rfl hTn (num_news (fun i hi => below_cell ((Below.refl _ _).alloc (Nat.le_refl _) _) (below_cell s2 (HT.out i hi)))) (by simp [Value.oneCell']) (by unfold maxLen; omega) (by omega) ?_; intro g3 o3 c3 w3 ho3 hg3 hat3; obtain ⟨q3, r3, s3, t3⟩ := app_one ho3 hg3 hat3; clear ho3 hg3 hat3)
          | (at_builtin; refine wpList_append_os _ rfl (.tmp 43) (.tmp 45) _ rfl 2 i0 _ 1 8 Try.underlying24 hi0 hz0 hz1 hz2 rfl (by omega) g3 o3 len c3 (T.map (Value.int .i64)) rfl (OSl.below q3 ((Below.refl _ _).alloc (Nat.le_refl _) _) t3) ⟨w3.heap.size, 0, none⟩ 1 1 [.int .i64 n] rfl rfl (World.news_of_block (cs := #[.int .i64 n]) (t := 2) (fr := (0, 0)) (heap_alloc_new _ _)) (by simp [Value.oneCell']) (by unfold maxLen; omega) (by omega) ?_; intro g4 o4 c4 w4 ho4 hg4 hat4; obtain ⟨q4, r4, s4⟩ := app_more (m := 0) s3 r3 ho4 hg4 hat4; clear ho4 hg4 hat4)
          | (at_builtin; refine wpList_append_os _ rfl (.tmp 46) (.tmp 47) _ rfl 2 i0 _ 1 8 Try.underlying24 hi0 hz0 hz1 hz2 rfl (by omega) g4 o4 (len + 1) c4 ((T ++ [n]).map (Value.int .i64)) rfl q4 ⟨g2, o2, none⟩ 0 c2 (D.map (Value.int .i64)) rfl hDn (num_news (fun i hi => OI.cellAt (show OI w4 g2 o2 0 c2 D from OSl.below q2 s4 t2) (by have := HDl.out; omega))) (by simp [Value.oneCell']) (by unfold maxLen; omega) (by omega) ?_; intro g5 o5 c5 w5 ho5 hg5 hat5; obtain ⟨q5, r5, s5⟩ := app_last s4 r4 ho5 hg5 hat5; clear ho5 hg5 hat5))
        go_ret
        refine .inr ⟨g5, o5, c5, ?_, Nat.le_trans s2.size r5, ?_, s2.trans (s5.mono s2.size)⟩
        · rw [HZ.out, List.length_append, List.length_cons, HTl.out, HDl.out]
          exact congrArg (fun z => Ending.returned (.slice (some ⟨g5, o5, none⟩) z c5)) (by omega)
        · rw [HZ.out, List.length_append, List.length_cons, HTl.out, HDl.out, show len + (0 + 1) = len + 1 + 0 by omega]
          exact q5
      · have hcl2 : ¬ (cap = len) := fun h => hcl h.symm
        have k2 : (0 : Int) ≤ (len : Int) := by omega
        have k3 : (len : Int) ≤ (cap : Int) := by omega
        have HTl : Hid ((xs.take len).length = len) := by rw [Hid, List.length_take, HL.out]; omega
        have HDl : Hid ((xs.drop len).length = 0) := by rw [Hid, List.length_drop, HL.out]; omega
        have HD : Hid (∀ i, i < (xs.drop len).length → (w.alloc (.cells #[] 2)).cell? ⟨b, off + len + i, none⟩ = some (.int .i64 (el (xs.drop len) i))) := fun i hi => absurd hi (by have := HDl.out; omega)
        have HT : Hid (∀ i, i < (xs.take len).length → w.cell? ⟨b, off + i, none⟩ = some (.int .i64 (el (xs.take len) i))) := fun i hi => by
          rw [el_take (by have := HTl.out; omega)]
          exact hc i (by have := HTl.out; omega)
        clear hc
        generalize xs.take len = T at *
        generalize xs.drop len = D at *
        have hTn : (T.map (Value.int .i64)).length = len * 1 := by rw [List.length_map, HTl.out]; omega
        have hDn : (D.map (Value.int .i64)).length = 0 * 1 := by rw [List.length_map, HDl.out]
        go_wp2_with (first
          | (at_builtin; refine wpList_append_os _ rfl (.tmp 34) (.tmp 37) _ rfl 2 i0 _ 1 8 Try.underlying24 hi0 hz0 hz1 hz2 rfl (by omega) w.heap.size 0 0 0 (([] : List Int).map (Value.int .i64)) rfl (num_empty w 2) ⟨b, off + len, none⟩ 0 (cap - len) (D.map (Value.int .i64)) rfl hDn (num_news HD.out) (by simp [Value.oneCell']) (by unfold maxLen; omega) (by omega) ?_; intro g2 o2 c2 w2 ho2 hg2 hat2; obtain ⟨q2, r2, s2, t2⟩ := app_one ho2 hg2 hat2; clear ho2 hg2 hat2)
          | (at_builtin; refine wpList_append_os _ rfl (.tmp 39) (.tmp 42) _ rfl 2 i0 _ 1 8 Try.underlying24 hi0 hz0 hz1 hz2 rfl (by omega) w2.heap.size 0 0 0 (([] : List Int).map (Value.int .i64)) rfl (num_empty w2 2) ⟨b, off, none⟩ len cap (T.map (Value.int .i64)) rfl hTn (num_news (fun i hi => below_cell ((Below.refl _ _).alloc (Nat.le_refl _) _) (below_cell s2 (HT.out i hi)))) (by simp [Value.oneCell']) (by unfold maxLen; omega) (by omega) ?_; intro g3 o3 c3 w3 ho3 hg3 hat3; obtain ⟨q3, r3, s3, t3⟩ := app_one ho3 hg3 hat3; clear ho3 hg3 hat3)
          | (at_builtin; refine wpList_append_os _ rfl (.tmp 43) (.tmp 45) _ rfl 2 i0 _ 1 8 Try.underlying24 hi0 hz0 hz1 hz2 rfl (by omega) g3 o3 len c3 (T.map (Value.int .i64)) rfl (OSl.below q3 ((Below.refl _ _).alloc (Nat.le_refl _) _) t3) ⟨w3.heap.size, 0, none⟩ 1 1 [.int .i64 n] rfl rfl (World.news_of_block (cs := #[.int .i64 n]) (t := 2) (fr := (0, 0)) (heap_alloc_new _ _)) (by simp [Value.oneCell']) (by unfold maxLen; omega) (by omega) ?_; intro g4 o4 c4 w4 ho4 hg4 hat4; obtain ⟨q4, r4, s4⟩ := app_more (m := 0) s3 r3 ho4 hg4 hat4; clear ho4 hg4 hat4)
          | (at_builtin; refine wpList_append_os _ rfl (.tmp 46) (.tmp 47) _ rfl 2 i0 _ 1 8 Try.underlying24 hi0 hz0 hz1 hz2 rfl (by omega) g4 o4 (len + 1) c4 ((T ++ [n]).map (Value.int .i64)) rfl q4 ⟨g2, o2, none⟩ 0 c2 (D.map (Value.int .i64)) rfl hDn (num_news (fun i hi => OI.cellAt (show OI w4 g2 o2 0 c2 D from OSl.below q2 s4 t2) (by have := HDl.out; omega))) (by simp [Value.oneCell']) (by unfold maxLen; omega) (by omega) ?_; intro g5 o5 c5 w5 ho5 hg5 hat5; obtain ⟨q5, r5, s5⟩ := app_last s4 r4 ho5 hg5 hat5; clear ho5 hg5 hat5))
        go_ret
        refine .inr ⟨g5, o5, c5, ?_, Nat.le_trans s2.size r5, ?_, s2.trans (s5.mono s2.size)⟩
        · rw [HZ.out, List.length_append, List.length_cons, HTl.out, HDl.out]
          exact congrArg (fun z => Ending.returned (.slice (some ⟨g5, o5, none⟩) z c5)) (by omega)
        · rw [HZ.out, List.length_append, List.length_cons, HTl.out, HDl.out, show len + (0 + 1) = len + 1 + 0 by omega]
          exact q5
end Go.Proofs.Ytgaibngaincahaa
