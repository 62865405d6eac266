/-
  Several texts in one: Stp Sti LawStp Put Pin Pst.
-/
import Derived.Test.YtacjpebifacclaaGd
/-
  The contracts of the specification's l2Stamps and Stamps and of the program's Stamps.
-/
namespace Go.Proofs.Ytacjpebifacclaa
set_option linter.unusedSimpArgs false
set_option linter.unusedVariables false
open Go.RowKit Go.Sort

theorem okT_all {es : List Ev} {len : Nat} (h : okT es len = true) : len ≤ 40 ∧ ∀ k, k < len → okE es k = true := by
  unfold okT at h
  simp only [Bool.and_eq_true, decide_eq_true_eq] at h
  exact ⟨h.1, allE_iff.1 h.2⟩
theorem okE_first {es : List Ev} {k : Nat} (h : okE es k = true) (hk : (evAt es k).k = 3) : firstS es (evAt es k).m k ≠ none := by
  intro hn
  unfold okE at h
  rw [if_neg (by omega), if_neg (by omega), if_pos hk, hn] at h
  simp at h
theorem el_stL {es : List Ev} {n i : Nat} (h : i < n) : el (stL es n) i = st es i := stL_get h
theorem fits_stL (es : List Ev) (n : Nat) (hn : n ≤ 1000000) : Fits (stL es n) := by
  intro x hx
  obtain ⟨i, hi, rfl⟩ := List.getElem_of_mem hx
  rw [stL_len] at hi
  have h1 := st_pos es i
  have h2 := st_le es i
  have h3 := stL_get (es := es) hi
  have : (stL es n).getD i 0 = (stL es n)[i]'(by rw [stL_len]; exact hi) := by simp [stL_len, hi]
  rw [this] at h3
  omega
theorem stL_succ (es : List Ev) (k : Nat) : stL es (k + 1) = stL es k ++ [st es k] := by
  have : st es k = (src es k).foldl (fun m i => max m ((stL es k).getD i 0)) 0 + 1 := by
    have hl : (stL es k).length = k := stL_len es k
    show (stL es k ++ [(src es k).foldl (fun m i => max m ((stL es k).getD i 0)) 0 + 1]).getD k 0 = _
    rw [List.getD_eq_getElem?_getD, List.getElem?_append_right (by omega), hl, Nat.sub_self]
    rfl
  rw [this]; rfl

/-- How far the list of numbers has come. -/
def Built (w wr : World) (v : Value) (k : Nat) (Z : List Int) : Prop := ∃ g off c, v = .slice (some ⟨g, off, none⟩) k c ∧ w.heap.size ≤ g ∧ OI wr g off k c Z ∧ Below w.heap.size w wr
theorem oi_snoc {w : World} {g off n cap : Nat} {zs : List Int} {y : Int} (h : OSl w 1 g off (n + 1) cap (zs.map (Value.int .i64) ++ [.int .i64 y])) : OI w g off (n + 1) cap (zs ++ [y]) := by
  unfold OI; rw [List.map_append]; exact h

def stOf (es : List Ev) : Option Nat → Option Nat → Int
  | none, none => 0
  | some i, none => st es i
  | none, some j => max 0 (st es j)
  | some i, some j => max (st es i) (st es j)
theorem st_cases {es : List Ev} {k : Nat} {l s : Option Nat} (hl : lastB es (evAt es k).n k = l) (hs : (if (evAt es k).k = 3 then firstS es (evAt es k).m k else none) = s) :
    st es k = stOf es l s + 1 := by
  rw [st_eq, src, hl]
  congr 1
  have hsr : (if (evAt es k).k = 3 then (firstS es (evAt es k).m k).toList else []) = s.toList := by
    rw [← hs]; split <;> rfl
  rw [hsr]
  cases l with
  | none => cases s <;> rfl
  | some i =>
    have := st_pos es i
    cases s with
    | none => simp [stOf]; omega
    | some j => simp [stOf]; omega

set_option maxRecDepth 100000 in
set_option maxHeartbeats 1600000 in
theorem l2Stamps_any (b off len cap : Nat) (es : List Ev) (w : World) (hc : EvsAt w b off len es) (hok : okT es len = true) :
    Calls Try.prog 94 #[.slice (some ⟨b, off, none⟩) len cap] w fun e w' => Ans w w' e (stL es len) := by
  obtain ⟨i0, hi0, hz0, hz1, hz2⟩ := info_parts Try.info2
  obtain ⟨h40, hall⟩ := okT_all hok
  have HALL : Hid (∀ k, k < len → okE es k = true) := hall
  have hlm : len ≤ maxLen := by unfold maxLen; omega
  have hb0 : Below w.heap.size w (w.alloc (.cells #[] 2)) := (Below.refl _ _).alloc (Nat.le_refl _) _
  clear hall hok
  go_enter Try.func94, Try.ntmps94
  go_wp2
  go_loopw [3, 4] (fun v i wr => ∃ k : Nat, k ≤ len ∧ i = .int .i64 k ∧ Built w wr v k (stL es k)) (fun _ i _ => len - (intOf i).toNat)
  case atStart => exact ⟨0, Nat.zero_le _, rfl, w.heap.size, 0, 0, rfl, Nat.le_refl _, oi_empty w 2, hb0⟩
  case round =>
    obtain ⟨k, hk, rfl, g, off', c, rfl, hgB, hown, hbel⟩ := hrel
    have HO : Hid (OI wr g off' k c (stL es k)) := hown
    have HB : Hid (Below w.heap.size w wr) := hbel
    by_cases hlt : k < len
    · have HC : Hid (EvsAt wr b off len es) := fun i hi => by
        obtain ⟨x0, x1, x2⟩ := hc i hi
        exact ⟨(hbel.cell (World.block_lt_of_cell? _ _ x0)).trans x0, (hbel.cell (World.block_lt_of_cell? _ _ x1)).trans x1, (hbel.cell (World.block_lt_of_cell? _ _ x2)).trans x2⟩
      obtain ⟨c0, c1, c2⟩ := HC.out k hlt
      have hL := l2Last_any b off len cap k es wr HC.out hlm hlt
      have hk40 : k < 40 := by omega
      clear hown hbel
      cases hl : lastB es (evAt es k).n k with
      | none =>
        rw [hl] at hL
        simp only [ixI] at hL
        by_cases hk3 : (evAt es k).k = 3
        · obtain ⟨s, hs⟩ := Option.ne_none_iff_exists'.1 (okE_first (HALL.out k hlt) hk3)
          have hsl := (firstS_some hs).1
          have hS := fun (X : World) (hX : EvsAt X b off len es) => l2Send_any b off len cap (evAt es k).m es X hX hlm
          rw [firstS_mono hs len (by omega)] at hS
          simp only [ixI] at hS
          have HST : Hid (st es k = max 0 (st es s) + 1) := st_cases (l := none) (s := some s) hl (by rw [if_pos hk3]; exact hs)
          have hcs := HO.out.cellAt hsl
          rw [el_stL hsl] at hcs
          have hs1 : (s : Int) < (k : Int) := by omega
          have hs0 : (0 : Int) ≤ (s : Int) := by omega
          have hp1 := st_pos es s
          have hp2 := st_le es s
          have hbd : max 0 (st es s) + 1 ≤ 9223372036854775807 := by omega
          have hbd0 : -9223372036854775808 ≤ max 0 (st es s) + 1 := by omega
          clear hl hs
          go_wp2_with fail
          refine hL.mono ?_
          rintro e w1 ⟨rfl, n1, rfl⟩
          go_wp2_with fail
          refine (hS _ (HC.out.drewN n1)).mono ?_
          rintro e w1' ⟨rfl, rfl⟩
          go_wp2_with fail
          refine (l1Max_any _ _ _).mono ?_
          rintro e w1' ⟨rfl, hw1⟩
          have O1 := HO.out.drewN n1
          have B1 := belowN (n := n1) HB.out
          rw [← hw1] at O1 B1
          clear hw1 hcs c0 c1 c2
          go_wp2_with (at_builtin; refine wpList_append_os _ rfl _ _ _ rfl 2 i0 _ 1 8 Try.underlying24 hi0 hz0 hz1 hz2 rfl (by omega) g off' k c ((stL es k).map (Value.int .i64)) rfl (OSl.below O1 ((Below.refl _ _).alloc (Nat.le_refl _) _) O1.blk) ⟨w1'.heap.size, 0, none⟩ 1 1 [.int .i64 (max 0 (st es s) + 1)] rfl rfl (World.news_of_block (cs := #[.int .i64 (max 0 (st es s) + 1)]) (t := 2) (fr := (0, 0)) (heap_alloc_new w1' _)) (by simp [Value.oneCell']) (by unfold maxLen; omega) (by omega) ?_; intro g2 off2 cap2 w2 ho2 hg2 hat2)
          have R : Hid (Built w w2 (.slice (some ⟨g2, off2, none⟩) (k + 1) cap2) (k + 1) (stL es (k + 1))) := by
            refine ⟨g2, off2, cap2, rfl, ?_, ?_, below_grown (B1.alloc B1.size _) hg2 hgB (by have := B1.size; simp; omega)⟩
            · rcases hat2 with h | h
              · rw [h]; exact hgB
              · rw [h]; have := B1.size; simp; omega
            · rw [stL_succ, HST.out]; exact oi_snoc ho2
          clear ho2 hg2 hat2
          go_wp2
          go_roundw
          case rel => exact ⟨k + 1, by omega, by go_num, R.out⟩
          case measure => simp [intOf]; omega
        · have hk3b : ((evAt es k).k == 3) = false := by simpa using hk3
          have HST : Hid (st es k = 0 + 1) := st_cases (l := none) (s := none) hl (by rw [if_neg hk3])
          clear hl hk3
          go_wp2_with fail
          refine hL.mono ?_
          rintro e w1 ⟨rfl, n1, hw1⟩
          have O1 := HO.out.drewN n1
          have B1 := belowN (n := n1) HB.out
          rw [← hw1] at O1 B1
          have d1 : w1.cell? ⟨b, off + k * 3 + 1, none⟩ = some (.int .i64 (evAt es k).k) := by rw [hw1]; exact c1
          clear hw1
          go_wp2_with (at_builtin; refine wpList_append_os _ rfl _ _ _ rfl 2 i0 _ 1 8 Try.underlying24 hi0 hz0 hz1 hz2 rfl (by omega) g off' k c ((stL es k).map (Value.int .i64)) rfl (OSl.below O1 ((Below.refl _ _).alloc (Nat.le_refl _) _) O1.blk) ⟨w1.heap.size, 0, none⟩ 1 1 [.int .i64 (1)] rfl rfl (World.news_of_block (cs := #[.int .i64 (1)]) (t := 2) (fr := (0, 0)) (heap_alloc_new w1 _)) (by simp [Value.oneCell']) (by unfold maxLen; omega) (by omega) ?_; intro g2 off2 cap2 w2 ho2 hg2 hat2)
          have R : Hid (Built w w2 (.slice (some ⟨g2, off2, none⟩) (k + 1) cap2) (k + 1) (stL es (k + 1))) := by
            refine ⟨g2, off2, cap2, rfl, ?_, ?_, below_grown (B1.alloc B1.size _) hg2 hgB (by have := B1.size; simp; omega)⟩
            · rcases hat2 with h | h
              · rw [h]; exact hgB
              · rw [h]; have := B1.size; simp; omega
            · rw [stL_succ, HST.out]; exact oi_snoc ho2
          clear ho2 hg2 hat2
          go_wp2
          go_roundw
          case rel => exact ⟨k + 1, by omega, by go_num, R.out⟩
          case measure => simp [intOf]; omega
      | some l =>
        rw [hl] at hL
        simp only [ixI] at hL
        have hll := (lastB_some hl).1
        have hcl := HO.out.cellAt hll
        rw [el_stL hll] at hcl
        have hl1 : (l : Int) < (k : Int) := by omega
        have hl0 : (0 : Int) ≤ (l : Int) := by omega
        have hq1 := st_pos es l
        have hq2 := st_le es l
        by_cases hk3 : (evAt es k).k = 3
        · obtain ⟨s, hs⟩ := Option.ne_none_iff_exists'.1 (okE_first (HALL.out k hlt) hk3)
          have hsl := (firstS_some hs).1
          have hS := fun (X : World) (hX : EvsAt X b off len es) => l2Send_any b off len cap (evAt es k).m es X hX hlm
          rw [firstS_mono hs len (by omega)] at hS
          simp only [ixI] at hS
          have HST : Hid (st es k = max (st es l) (st es s) + 1) := st_cases (l := some l) (s := some s) hl (by rw [if_pos hk3]; exact hs)
          have hcs := HO.out.cellAt hsl
          rw [el_stL hsl] at hcs
          have hs1 : (s : Int) < (k : Int) := by omega
          have hs0 : (0 : Int) ≤ (s : Int) := by omega
          have hp1 := st_pos es s
          have hp2 := st_le es s
          have hbd : max (st es l) (st es s) + 1 ≤ 9223372036854775807 := by omega
          have hbd0 : -9223372036854775808 ≤ max (st es l) (st es s) + 1 := by omega
          clear hl hs
          go_wp2_with fail
          refine hL.mono ?_
          rintro e w1 ⟨rfl, n1, rfl⟩
          go_wp2_with fail
          refine (hS _ (HC.out.drewN n1)).mono ?_
          rintro e w1' ⟨rfl, rfl⟩
          go_wp2_with fail
          refine (l1Max_any _ _ _).mono ?_
          rintro e w1' ⟨rfl, hw1⟩
          have O1 := HO.out.drewN n1
          have B1 := belowN (n := n1) HB.out
          rw [← hw1] at O1 B1
          clear hw1 hcs hcl c0 c1 c2
          go_wp2_with (at_builtin; refine wpList_append_os _ rfl _ _ _ rfl 2 i0 _ 1 8 Try.underlying24 hi0 hz0 hz1 hz2 rfl (by omega) g off' k c ((stL es k).map (Value.int .i64)) rfl (OSl.below O1 ((Below.refl _ _).alloc (Nat.le_refl _) _) O1.blk) ⟨w1'.heap.size, 0, none⟩ 1 1 [.int .i64 (max (st es l) (st es s) + 1)] rfl rfl (World.news_of_block (cs := #[.int .i64 (max (st es l) (st es s) + 1)]) (t := 2) (fr := (0, 0)) (heap_alloc_new w1' _)) (by simp [Value.oneCell']) (by unfold maxLen; omega) (by omega) ?_; intro g2 off2 cap2 w2 ho2 hg2 hat2)
          have R : Hid (Built w w2 (.slice (some ⟨g2, off2, none⟩) (k + 1) cap2) (k + 1) (stL es (k + 1))) := by
            refine ⟨g2, off2, cap2, rfl, ?_, ?_, below_grown (B1.alloc B1.size _) hg2 hgB (by have := B1.size; simp; omega)⟩
            · rcases hat2 with h | h
              · rw [h]; exact hgB
              · rw [h]; have := B1.size; simp; omega
            · rw [stL_succ, HST.out]; exact oi_snoc ho2
          clear ho2 hg2 hat2
          go_wp2
          go_roundw
          case rel => exact ⟨k + 1, by omega, by go_num, R.out⟩
          case measure => simp [intOf]; omega
        · have hk3b : ((evAt es k).k == 3) = false := by simpa using hk3
          have HST : Hid (st es k = st es l + 1) := st_cases (l := some l) (s := none) hl (by rw [if_neg hk3])
          have hbd : st es l + 1 ≤ 9223372036854775807 := by omega
          clear hl hk3
          go_wp2_with fail
          refine hL.mono ?_
          rintro e w1 ⟨rfl, n1, hw1⟩
          have O1 := HO.out.drewN n1
          have B1 := belowN (n := n1) HB.out
          rw [← hw1] at O1 B1
          have d1 : w1.cell? ⟨b, off + k * 3 + 1, none⟩ = some (.int .i64 (evAt es k).k) := by rw [hw1]; exact c1
          have d2 : w1.cell? ⟨g, off' + l, none⟩ = some (.int .i64 (st es l)) := by rw [hw1]; exact hcl
          clear hw1
          go_wp2_with (at_builtin; refine wpList_append_os _ rfl _ _ _ rfl 2 i0 _ 1 8 Try.underlying24 hi0 hz0 hz1 hz2 rfl (by omega) g off' k c ((stL es k).map (Value.int .i64)) rfl (OSl.below O1 ((Below.refl _ _).alloc (Nat.le_refl _) _) O1.blk) ⟨w1.heap.size, 0, none⟩ 1 1 [.int .i64 (st es l + 1)] rfl rfl (World.news_of_block (cs := #[.int .i64 (st es l + 1)]) (t := 2) (fr := (0, 0)) (heap_alloc_new w1 _)) (by simp [Value.oneCell']) (by unfold maxLen; omega) (by omega) ?_; intro g2 off2 cap2 w2 ho2 hg2 hat2)
          have R : Hid (Built w w2 (.slice (some ⟨g2, off2, none⟩) (k + 1) cap2) (k + 1) (stL es (k + 1))) := by
            refine ⟨g2, off2, cap2, rfl, ?_, ?_, below_grown (B1.alloc B1.size _) hg2 hgB (by have := B1.size; simp; omega)⟩
            · rcases hat2 with h | h
              · rw [h]; exact hgB
              · rw [h]; have := B1.size; simp; omega
            · rw [stL_succ, HST.out]; exact oi_snoc ho2
          clear ho2 hg2 hat2
          go_wp2
          go_roundw
          case rel => exact ⟨k + 1, by omega, by go_num, R.out⟩
          case measure => simp [intOf]; omega
    · have hkl : k = len := by omega
      subst hkl
      clear hown hbel
      go_wp2
      go_ret
      refine ⟨g, off', c, by rw [stL_len]; rfl, hgB, by rw [stL_len]; exact HO.out, HB.out⟩

/-- The stamps of a trace, nothing of what is none. -/
def stT (es : List Ev) (len : Nat) : List Int := if okT es len = true then stL es len else []

set_option maxRecDepth 100000 in
set_option maxHeartbeats 1600000 in
theorem specStamps_any (b off len cap : Nat) (es : List Ev) (w : World) (hc : EvsAt w b off len es) (hm : len ≤ maxLen) (hcap : len ≤ cap) :
    Calls Try.prog 35 #[.slice (some ⟨b, off, none⟩) len cap] w fun e w' => Ans w w' e (stT es len) := by
  have hT := specTok_any b off len cap es w hc hm hcap
  cases ho : okT es len
  · rw [ho] at hT
    have HZ : Hid (stT es len = []) := by rw [Hid, stT, ho]; rfl
    go_enter Try.func35, Try.ntmps35
    go_wp2_with fail
    refine hT.mono ?_
    rintro e w1 ⟨rfl, hg1⟩
    have HG : Hid (Grew w w1) := hg1
    clear hg1
    go_wp2
    go_ret
    rw [HZ.out]
    exact ⟨w1.heap.size, 0, 0, rfl, HG.out.1.size, oi_empty w1 2, (HG.out.alloc _).1⟩
  · rw [ho] at hT
    have HZ : Hid (stT es len = stL es len) := by rw [Hid, stT, ho]; rfl
    go_enter Try.func35, Try.ntmps35
    go_wp2_with fail
    refine hT.mono ?_
    rintro e w1 ⟨rfl, hg1⟩
    have hA := l2Stamps_any b off len cap es w1 (hc.grew hg1) ho
    have HG : Hid (Grew w w1) := hg1
    clear hg1
    go_wp2_with fail
    refine hA.mono ?_
    rintro e w2 ⟨g, off', c, rfl, h1, h2, h3⟩
    have H1 : Hid (w1.heap.size ≤ g) := h1
    have H2 : Hid (OI w2 g off' (stL es len).length c (stL es len)) := h2
    have H3 : Hid (Below w1.heap.size w1 w2) := h3
    clear h1 h2 h3
    go_wp2
    go_ret
    rw [HZ.out]
    exact ⟨g, off', c, rfl, Nat.le_trans HG.out.1.size H1.out, H2.out, HG.out.1.trans (H3.out.mono HG.out.1.size)⟩

/-- The row as it is being filled: stamps ahead of k, v at k, 0 behind. -/
def stP (es : List Ev) (len k : Nat) (v : Int) : List Int := (List.range len).map (fun j => if j < k then st es j else if j = k then v else 0)
theorem stP_len (es : List Ev) (len k : Nat) (v : Int) : (stP es len k v).length = len := by simp [stP]
theorem stP_set (es : List Ev) (len k : Nat) (v v' : Int) : (stP es len k v).set k v' = stP es len k v' := by
  refine List.ext_getElem (by simp [stP]) (fun i h1 h2 => ?_)
  rw [List.getElem_set]
  simp only [stP, List.getElem_map, List.getElem_range]
  by_cases e : k = i
  · subst e; simp
  · rw [if_neg e]
    by_cases hlt : i < k
    · rw [if_pos hlt, if_pos hlt]
    · rw [if_neg hlt, if_neg hlt, if_neg (by omega), if_neg (by omega)]
theorem stP_next (es : List Ev) (len k : Nat) : stP es len k (st es k) = stP es len (k + 1) 0 := by
  refine List.ext_getElem (by simp [stP]) (fun i h1 h2 => ?_)
  simp only [stP, List.getElem_map, List.getElem_range]
  by_cases hlt : i < k
  · rw [if_pos hlt, if_pos (by omega)]
  · rw [if_neg hlt]
    by_cases e : i = k
    · subst e; rw [if_pos rfl, if_pos (by omega)]
    · rw [if_neg e, if_neg (by omega)]; split <;> rfl
theorem stP_done (es : List Ev) (len : Nat) : stP es len len 0 = stL es len := by
  refine List.ext_getElem (by rw [stP_len, stL_len]) (fun i h1 h2 => ?_)
  rw [stP_len] at h1
  have h3 := stL_get (es := es) h1
  have : (stL es len).getD i 0 = (stL es len)[i]'h2 := by simp [stL_len, h1]
  rw [← this, h3]
  simp [stP, h1]
theorem stP_el {es : List Ev} {len k i : Nat} {v : Int} (hi : i < k) (hk : k ≤ len) : el (stP es len k v) i = st es i := by
  simp [el, stP, show i < len by omega, hi]
theorem stP_at {es : List Ev} {len k : Nat} {v : Int} (hk : k < len) : el (stP es len k v) k = v := by
  simp [el, stP, hk]
/-- The greatest stamp of the first j sources. -/
def mxs (es : List Ev) (k j : Nat) : Int := ((src es k).take j).foldl (fun m i => max m (st es i)) 0
theorem mxs_succ {es : List Ev} {k j : Nat} (hj : j < (src es k).length) : mxs es k (j + 1) = max (mxs es k j) (st es (src es k)[j]) := by
  unfold mxs
  rw [List.take_succ_eq_append_getElem hj, List.foldl_append]; rfl
theorem mxs_done {es : List Ev} {k j : Nat} (hj : (src es k).length ≤ j) : mxs es k j + 1 = st es k := by
  unfold mxs; rw [List.take_of_length_le hj, st_eq]
theorem mxs_bound (es : List Ev) (k j : Nat) : 0 ≤ mxs es k j ∧ mxs es k j ≤ k := by
  unfold mxs
  refine ⟨(foldl_max_ge (st es) _ 0).1, ?_⟩
  have : ∀ (l : List Nat) (m : Int), m ≤ k → (∀ i ∈ l, i < k) → l.foldl (fun m i => max m (st es i)) m ≤ k := by
    intro l
    induction l with
    | nil => intro m hm _; simpa using hm
    | cons x l ih =>
      intro m hm hl
      simp only [List.foldl_cons]
      have h1 := st_le es x
      have h2 := hl x (by simp)
      exact ih _ (by omega) (fun i hi => hl i (by simp [hi]))
  exact this _ 0 (by omega) (fun i hi => src_lt (List.mem_of_mem_take hi))
theorem srcI_len (es : List Ev) (k : Nat) : (srcI es k).length = (src es k).length := by simp [srcI]
theorem srcI_el {es : List Ev} {k j : Nat} (hj : j < (src es k).length) : el (srcI es k) j = (((src es k)[j] : Nat) : Int) := by simp [srcI, el, hj]
theorem oi_row {w : World} {b : Nat} {xs : List Int} (h : RowOf w b xs) (hm : xs.length ≤ maxLen) : OI w b 0 xs.length xs.length xs := OI.own (h.own hm)
end Go.Proofs.Ytacjpebifacclaa

/-
  The contract of the program's Stamps.
-/
namespace Go.Proofs.Ytacjpebifacclaa
set_option linter.unusedSimpArgs false
set_option linter.unusedVariables false
open Go.RowKit Go.Sort

theorem oi_made (w : World) (n : Nat) (hn : n ≤ maxLen) : OI (w.alloc (.cells (madeCells #[.int .i64 0] n) 2)) w.heap.size 0 n n (List.replicate n 0) := by
  have h := World.rowIs_made w (.int .i64 0) n 2
  have hr : RowOf (w.alloc (.cells (madeCells #[.int .i64 0] n) 2)) w.heap.size (List.replicate n 0) := by
    unfold RowOf
    rw [List.length_replicate]
    exact h.congr (fun j hj => by simp [el, hj])
  have := oi_row hr (by simpa using hn)
  simpa using this
theorem OI.setFar {w : World} {g g' off n cap i : Nat} {zs : List Int} {u : Value} (h : OI w g off n cap zs) (hne : g ≠ g') : OI (w.setCell ⟨g', i, none⟩ u) g off n cap zs :=
  OSl.of_block h (Below.heap_setCell _ _ _ _ (by exact hne)) (by simp [World.setCell]; exact h.blk)
theorem OI.set0 {w : World} {g n cap : Nat} {zs : List Int} (h : OI w g 0 n cap zs) {i : Nat} (hi : i < n) (y : Int) : OI (w.setCell ⟨g, i, none⟩ (.int .i64 y)) g 0 n cap (zs.set i y) := by
  have := h.set hi y
  rwa [Nat.zero_add] at this
theorem stP_start (es : List Ev) (len : Nat) : stP es len 0 0 = List.replicate len 0 := by
  refine List.ext_getElem (by simp [stP]) (fun i h1 h2 => ?_)
  simp [stP]
theorem evs_below {w w' : World} {b off len B : Nat} {es : List Ev} (h : EvsAt w b off len es) (hb : Below B w w') (hB : w.heap.size ≤ B) : EvsAt w' b off len es := fun i hi => by
  obtain ⟨h0, h1, h2⟩ := h i hi
  exact ⟨(hb.cell (Nat.lt_of_lt_of_le (World.block_lt_of_cell? _ _ h0) hB)).trans h0, (hb.cell (Nat.lt_of_lt_of_le (World.block_lt_of_cell? _ _ h1) hB)).trans h1, (hb.cell (Nat.lt_of_lt_of_le (World.block_lt_of_cell? _ _ h2) hB)).trans h2⟩

set_option maxRecDepth 100000 in
set_option maxHeartbeats 1600000 in
theorem implStamps_any (b off len cap : Nat) (es : List Ev) (w : World) (hc : EvsAt w b off len es) (hm : len ≤ maxLen) (hcap : len ≤ cap) :
    Calls Try.prog 32 #[.slice (some ⟨b, off, none⟩) len cap] w fun e w' => Ans w w' e (stT es len) := by
  have hT := implTok_any b off len cap es w hc hm hcap
  cases ho : okT es len
  · rw [ho] at hT
    have HZ : Hid (stT es len = []) := by rw [Hid, stT, ho]; rfl
    go_enter Try.func32, Try.ntmps32
    go_wp2_with fail
    refine hT.mono ?_
    rintro e w1 ⟨rfl, hg1⟩
    have HG : Hid (Grew w w1) := hg1
    clear hg1
    go_wp2
    go_ret
    rw [HZ.out]
    exact ⟨w1.heap.size, 0, 0, rfl, HG.out.1.size, oi_empty w1 2, (HG.out.alloc _).1⟩
  · rw [ho] at hT
    have HZ : Hid (stT es len = stL es len) := by rw [Hid, stT, ho]; rfl
    obtain ⟨h40, hall⟩ := okT_all ho
    have HALL : Hid (∀ k, k < len → okE es k = true) := hall
    have hmk := run_make_row' (P := Try.prog) 24 2 (.int .i64 0) 8 Try.underlying24 Try.info2 rfl .i64 .i64 len (by omega) (by omega)
    clear hall ho
    go_enter Try.func32, Try.ntmps32
    go_wp2_with fail
    refine hT.mono ?_
    rintro e w1 ⟨rfl, hg1⟩
    have HG : Hid (Grew w w1) := hg1
    have HC1 : Hid (EvsAt w1 b off len es) := hc.grew hg1
    clear hg1 hc hT
    go_wp2
    go_loopw [16] (fun i wr => ∃ k : Nat, k ≤ len ∧ i = .int .i64 k ∧ OI wr w1.heap.size 0 len len (stP es len k 0) ∧ Below w1.heap.size w1 wr) (fun i _ => len - (intOf i).toNat)
    case atStart => exact ⟨0, Nat.zero_le _, rfl, by rw [stP_start]; exact oi_made w1 len hm, (Below.refl _ _).alloc (Nat.le_refl _) _⟩
    case round =>
      obtain ⟨k, hk, rfl, hown, hbel⟩ := hrel
      have HO : Hid (OI wr w1.heap.size 0 len len (stP es len k 0)) := hown
      have HB : Hid (Below w1.heap.size w1 wr) := hbel
      clear hown hbel
      by_cases hlt : k < len
      · have hS := sources_any b off len cap k es wr (evs_below HC1.out HB.out (Nat.le_refl _)) hm hcap hlt (okE_first (HALL.out k hlt))
        have hkl : (k : Int) < (len : Int) := by omega
        have hk0 : (0 : Int) ≤ (k : Int) := by omega
        go_wp2_with fail
        refine hS.mono ?_
        rintro e w2 ⟨g, off', c, rfl, h1, h2, h3⟩
        have hgl : w1.heap.size < g := Nat.lt_of_lt_of_le HO.out.blk h1
        have H2 : Hid (OI w2 g off' (srcI es k).length c (srcI es k)) := h2
        have HB2 : Hid (Below w1.heap.size w1 w2) := HB.out.trans (h3.mono HB.out.size)
        have HO2 : Hid (OI w2 w1.heap.size 0 len len (stP es len k 0)) := HO.out.below h3 HO.out.blk
        clear h1 h2 h3 hS
        have hlen2 : (srcI es k).length ≤ 1000 := by
          rw [srcI_len]; unfold src; simp only [List.length_append]
          have a1 : (lastB es (evAt es k).n k).toList.length ≤ 1 := by cases lastB es (evAt es k).n k <;> simp
          have a2 : (if (evAt es k).k = 3 then (firstS es (evAt es k).m k).toList else []).length ≤ 1 := by
            split
            · cases firstS es (evAt es k).m k <;> simp
            · simp
          omega
        go_wp2
        go_loopw [23] (fun i wx => ∃ j : Nat, j ≤ (srcI es k).length ∧ i = .int .i64 j ∧ OI wx w1.heap.size 0 len len (stP es len k (mxs es k j)) ∧ OI wx g off' (srcI es k).length c (srcI es k) ∧ Below w1.heap.size w1 wx) (fun i _ => (srcI es k).length - (intOf i).toNat)
        case atStart => exact ⟨0, Nat.zero_le _, rfl, HO2.out, H2.out, HB2.out⟩
        case round =>
          obtain ⟨j, hj, rfl, hown, hsrc, hbel⟩ := hrel
          have KO : Hid (OI wr w1.heap.size 0 len len (stP es len k (mxs es k j))) := hown
          have KS : Hid (OI wr g off' (srcI es k).length c (srcI es k)) := hsrc
          have KB : Hid (Below w1.heap.size w1 wr) := hbel
          clear hown hsrc hbel
          by_cases hjl : j < (srcI es k).length
          · have hjs : j < (src es k).length := by rw [← srcI_len]; exact hjl
            have x1 := KS.out.cellAt hjl
            rw [srcI_el hjs] at x1
            have hsk : (src es k)[j] < k := src_lt (List.getElem_mem hjs)
            have x2 := KO.out.cellAt (i := (src es k)[j]) (by omega)
            rw [stP_el hsk hk] at x2
            have x3 := KO.out.cellAt (i := k) hlt
            rw [stP_at hlt] at x3
            have x4 := KO.out.free k (by omega)
            have HM : Hid (mxs es k (j + 1) = max (mxs es k j) (st es (src es k)[j])) := mxs_succ hjs
            simp only [Nat.zero_add] at x2 x3 x4
            generalize hs : (src es k)[j] = s at *
            have hs1 : (s : Int) < (len : Int) := by omega
            have hs0 : (0 : Int) ≤ (s : Int) := by omega
            have hj1 : (j : Int) < ((srcI es k).length : Int) := by omega
            clear hs
            go_wp2_with fail
            go_region
            have R1 : Hid (OI (wr.setCell ⟨w1.heap.size, k, none⟩ (.int .i64 (max (mxs es k j) (st es s)))) w1.heap.size 0 len len (stP es len k (mxs es k (j + 1)))) := by
              rw [Hid, HM.out, ← stP_set es len k (mxs es k j)]; exact KO.out.set0 hlt _
            have R2 : Hid (OI (wr.setCell ⟨w1.heap.size, k, none⟩ (.int .i64 (max (mxs es k j) (st es s)))) g off' (srcI es k).length c (srcI es k)) := KS.out.setFar (by omega)
            have R3 : Hid (Below w1.heap.size w1 (wr.setCell ⟨w1.heap.size, k, none⟩ (.int .i64 (max (mxs es k j) (st es s))))) := KB.out.setCell (Nat.le_refl _) _
            clear x1 x2 x3 x4
            go_wp2
            go_roundw
            case rel => exact ⟨j + 1, by omega, by go_num, R1.out.drewN 1, R2.out.drewN 1, belowN (n := 1) R3.out⟩
            case measure => simp [intOf]; omega
          · have HM : Hid (mxs es k j + 1 = st es k) := mxs_done (by rw [← srcI_len]; omega)
            have hb1 := mxs_bound es k j
            have x3 := KO.out.cellAt (i := k) hlt
            rw [stP_at hlt] at x3
            have x4 := KO.out.free k (by omega)
            simp only [Nat.zero_add] at x3 x4
            have hbd : mxs es k j + 1 ≤ 9223372036854775807 := by omega
            have hbd0 : -9223372036854775808 ≤ mxs es k j + 1 := by omega
            have R1 : Hid (OI (wr.setCell ⟨w1.heap.size, k, none⟩ (.int .i64 (mxs es k j + 1))) w1.heap.size 0 len len (stP es len (k + 1) 0)) := by
              rw [Hid, ← stP_next, ← HM.out, ← stP_set es len k (mxs es k j)]; exact KO.out.set0 hlt _
            have R3 : Hid (Below w1.heap.size w1 (wr.setCell ⟨w1.heap.size, k, none⟩ (.int .i64 (mxs es k j + 1)))) := KB.out.setCell (Nat.le_refl _) _
            go_wp2
            go_roundw
            case rel => exact ⟨k + 1, by omega, by go_num, R1.out, R3.out⟩
            case measure => simp [intOf]; omega
      · have hkl : k = len := by omega
        subst hkl
        go_wp2
        go_ret
        rw [HZ.out]
        refine ⟨w1.heap.size, 0, k, by rw [stL_len]; rfl, HG.out.1.size, ?_, HG.out.1.trans (HB.out.mono HG.out.1.size)⟩
        rw [stL_len, ← stP_done]; exact HO.out
end Go.Proofs.Ytacjpebifacclaa

/-
  The walk of the law FnExactStamps.
-/
namespace Go.Proofs.Ytacjpebifacclaa
set_option linter.unusedSimpArgs false
set_option linter.unusedVariables false
open Go.RowKit Go.Sort

theorem EvRow.below {w w' : World} {b n B : Nat} {es : List Ev} (h : EvRow w b n es) (hb : Below B w w') (hB : b < B) : EvRow w' b n es := World.rowIs.of_block h (hb.block b hB)
/-- What a law holds of its three rows as the world goes on. -/
structure Tri (w cur : World) (b n g og cg d od cd : Nat) (es : List Ev) (G Z : List Int) : Prop where
  below : Below w.heap.size w cur
  x0 : EvRow cur b n es
  got : OI cur g og Z.length cg G
  want : OI cur d od Z.length cd Z
theorem Tri.step {w cur next : World} {b n g og cg d od cd : Nat} {es : List Ev} {G Z : List Int} (h : Tri w cur b n g og cg d od cd es G Z) (hb : Below cur.heap.size cur next) : Tri w next b n g og cg d od cd es G Z :=
  ⟨h.below.trans (hb.mono h.below.size), h.x0.below hb h.x0.lt, h.got.below hb h.got.blk, h.want.below hb h.want.blk⟩
theorem Tri.drewN {w cur : World} {b n g og cg d od cd : Nat} {es : List Ev} {G Z : List Int} (h : Tri w cur b n g og cg d od cd es G Z) (k : Nat) : Tri w (cur.drewN k) b n g og cg d od cd es G Z :=
  ⟨belowN h.below, h.x0, h.got.drewN k, h.want.drewN k⟩
theorem stT_len (es : List Ev) (len : Nat) : (stT es len).length ≤ 40 := by
  unfold stT
  split
  · rename_i h; rw [stL_len]; exact (okT_all h).1
  · simp
theorem stT_fits (es : List Ev) (len : Nat) : Fits (stT es len) := by
  unfold stT
  split
  · rename_i h; exact fits_stL es len (by have := (okT_all h).1; omega)
  · intro x hx; simp at hx

end Go.Proofs.Ytacjpebifacclaa

/-
  The contracts of the specification's l1Has and l1Put and of the laws' has.
-/
namespace Go.Proofs.Ytacjpebifacclaa
set_option linter.unusedSimpArgs false
set_option linter.unusedVariables false
open Go.RowKit Go.Sort

theorem el_mem_iff {xs : List Int} {x : Int} : x ∈ xs ↔ ∃ j, j < xs.length ∧ el xs j = x := by
  constructor
  · intro h
    obtain ⟨i, hi, rfl⟩ := List.getElem_of_mem h
    exact ⟨i, hi, by rw [el_eq hi]⟩
  · rintro ⟨j, hj, rfl⟩; exact el_mem hj

set_option maxHeartbeats 400000 in
theorem l1Has_any (b off len cap : Nat) (x : Int) (xs : List Int) (w : World) (hlen : xs.length = len) (hc : ∀ i, i < len → w.cell? ⟨b, off + i, none⟩ = some (.int .i64 (el xs i))) (hm : len ≤ maxLen) :
    Calls Try.prog 98 #[.slice (some ⟨b, off, none⟩) len cap, .int .i64 x] w fun e w' => e = .returned (.bool (decide (x ∈ xs))) ∧ w' = w := by
  unfold maxLen at hm
  have HL : Hid (xs.length = len) := hlen
  clear hlen
  go_enter Try.func98, Try.ntmps98
  go_wp2
  go_loop [5] (fun i => ∃ k : Nat, k ≤ len ∧ i = .int .i64 k ∧ ∀ j, j < k → el xs j ≠ x) (fun i => len - (intOf i).toNat)
  case atStart => exact ⟨0, Nat.zero_le _, rfl, fun j hj => by omega⟩
  case round =>
    obtain ⟨k, hk, rfl, hno⟩ := hrel
    have HN : Hid (∀ j, j < k → el xs j ≠ x) := hno
    clear hno
    by_cases hlt : k < len
    · have hck := hc k hlt
      by_cases he : el xs k = x
      · have hb : (el xs k == x) = true := by simpa using he
        have HF : Hid (decide (x ∈ xs) = true) := by rw [Hid, decide_eq_true_eq]; exact el_mem_iff.2 ⟨k, by rw [HL.out]; exact hlt, he⟩
        clear he
        go_wp2
        go_ret
        exact ⟨ret_bool (by rw [HF.out]), rfl⟩
      · have hb : (el xs k == x) = false := by simpa using he
        have HE : Hid (el xs k ≠ x) := he
        clear he
        go_wp2
        go_round
        case rel => exact ⟨k + 1, by omega, by go_num, fun j hj => by
          rcases Nat.lt_succ_iff_lt_or_eq.1 hj with h | h
          · exact HN.out j h
          · rw [h]; exact HE.out⟩
        case measure => simp [intOf]; omega
    · have HF : Hid (decide (x ∈ xs) = false) := by
        rw [Hid, decide_eq_false_iff_not, el_mem_iff]
        rintro ⟨j, hj, e⟩
        exact HN.out j (by rw [HL.out] at hj; omega) e
      go_wp2
      go_ret
      exact ⟨ret_bool (by rw [HF.out]), rfl⟩

theorem oi_take {w : World} {g off n cap : Nat} {zs : List Int} (h : OI w g off n cap zs) {k : Nat} (hk : k ≤ n) : OI w g off k cap (zs.take k) := by
  have hl := h.length
  refine ⟨by simp; omega, Nat.le_trans hk h.le, h.max, h.blk, fun i hi => ?_, h.some, h.free⟩
  rw [h.cell i (by omega)]
  simp only [Nat.mul_one] at hi
  simp [hi]
theorem news_drop {w : World} {g off n cap : Nat} {zs : List Int} (h : OI w g off n cap zs) {k : Nat} (j : Nat) (u : Value) (hu : ((zs.drop k).map (Value.int .i64))[j]? = some u) : w.cell? ((⟨g, off + k, none⟩ : Addr).add j) = some u := by
  rw [add_lit0, Nat.add_assoc]
  have hl := h.length
  rw [List.getElem?_map, List.getElem?_drop] at hu
  have hj : k + j < zs.length := by
    rcases Nat.lt_or_ge (k + j) zs.length with h | h
    · exact h
    · rw [List.getElem?_eq_none h] at hu; simp at hu
  rw [h.cell (k + j) (by omega), List.getElem?_map]; exact hu
theorem news_take {w : World} {g off n cap : Nat} {zs : List Int} (h : OI w g off n cap zs) {k : Nat} (j : Nat) (u : Value) (hu : ((zs.take k).map (Value.int .i64))[j]? = some u) : w.cell? ((⟨g, off, none⟩ : Addr).add j) = some u := by
  rw [add_lit0]
  have hl := h.length
  rw [List.getElem?_map, List.getElem?_take] at hu
  by_cases hjk : j < k
  · rw [if_pos hjk] at hu
    have hj : j < zs.length := by
      rcases Nat.lt_or_ge j zs.length with h | h
      · exact h
      · rw [List.getElem?_eq_none h] at hu; simp at hu
    rw [h.cell j (by omega), List.getElem?_map]; exact hu
  · rw [if_neg hjk] at hu; simp at hu
theorem oi_first {w : World} {g off n cap : Nat} {zs : List Int} (h : OSl w 1 g off (0 + n) cap ([] ++ zs.map (Value.int .i64))) : OI w g off n cap zs := by
  rw [Nat.zero_add, List.nil_append] at h; exact h
theorem oi_app {w : World} {g off n m cap : Nat} {zs ys : List Int} (h : OSl w 1 g off (n + m) cap (zs.map (Value.int .i64) ++ ys.map (Value.int .i64))) : OI w g off (n + m) cap (zs ++ ys) := by
  unfold OI; rw [List.map_append]; exact h
theorem oi_app2 {w : World} {g off n cap : Nat} {zs ys : List Int} {x : Int} (h : OSl w 1 g off n cap ((zs ++ [x]).map (Value.int .i64) ++ ys.map (Value.int .i64))) : OI w g off n cap (zs ++ x :: ys) := by
  unfold OI; rw [← List.map_append] at h; simpa using h
theorem ans_of {w w' : World} {g off c n : Nat} {Z : List Int} (hn : Z.length = n) (h1 : w.heap.size ≤ g) (h2 : OI w' g off n c Z) (h3 : Below w.heap.size w w') : Ans w w' (.returned (.slice (some ⟨g, off, none⟩) n c)) Z :=
  ⟨g, off, c, by rw [hn], h1, by rw [hn]; exact h2, h3⟩
theorem at_ge {g' g H B : Nat} (h : g' = g ∨ g' = H) (hg : B ≤ g) (hH : B ≤ H) : B ≤ g' := by rcases h with h | h <;> omega
theorem at_ne {g' g H x : Nat} (h : g' = g ∨ g' = H) (hg : g ≠ x) (hH : H ≠ x) : ¬ g' = x := by rcases h with h | h <;> omega
theorem news_drop0 {w : World} {g off n cap : Nat} {zs : List Int} (h : OI w g off n cap zs) (j : Nat) (u : Value) (hu : (zs.map (Value.int .i64))[j]? = some u) : w.cell? ((⟨g, off, none⟩ : Addr).add j) = some u :=
  news_drop (k := 0) h j u (by simpa using hu)
theorem one_cells (zs : List Int) : ∀ u ∈ zs.map (Value.int .i64), u.oneCell' = true := by
  intro u hu
  obtain ⟨z, _, rfl⟩ := List.mem_map.1 hu
  rfl

set_option maxRecDepth 100000 in
set_option maxHeartbeats 1600000 in
theorem l1Put_any (b off n cap : Nat) (x : Int) (xs : List Int) (w : World) (ho : OI w b off n cap xs) (hno : x ∉ xs) (hn : n ≤ 100000) :
    Calls Try.prog 116 #[.slice (some ⟨b, off, none⟩) n cap, .int .i64 x] w fun e w' => ∃ k, k ≤ n ∧ (∀ j, j < k → el xs j < x) ∧ (k < n → x < el xs k) ∧ Ans w w' e (xs.take k ++ x :: xs.drop k) := by
  obtain ⟨i0, hi0, hz0, hz1, hz2⟩ := info_parts Try.info2
  have HO : Hid (OI w b off n cap xs) := ho
  have HX : Hid (x ∉ xs) := hno
  have hlen := ho.length
  have hle := ho.le
  have HL : Hid (xs.length = n) := hlen
  have hmx := ho.max
  clear ho hno hlen
  go_enter Try.func116, Try.ntmps116
  go_wp2
  go_loop [5] (fun i => ∃ k : Nat, k ≤ n ∧ i = .int .i64 k ∧ ∀ j, j < k → el xs j < x) (fun i => n - (intOf i).toNat)
  case atStart => exact ⟨0, Nat.zero_le _, rfl, fun j hj => by omega⟩
  case round =>
    obtain ⟨k, hk, rfl, hall⟩ := hrel
    have HA : Hid (∀ j, j < k → el xs j < x) := hall
    clear hall
    by_cases hgo : k < n ∧ el xs k < x
    · have hck := HO.out.cellAt hgo.1
      have hlt := hgo.1
      have hex := hgo.2
      clear hgo
      go_wp2
      go_round
      case rel => exact ⟨k + 1, by omega, by go_num, fun j hj => by
        rcases Nat.lt_succ_iff_lt_or_eq.1 hj with h | h
        · exact HA.out j h
        · rw [h]; exact hex⟩
      case measure => simp [intOf]; omega
    · have HGT : Hid (k < n → x < el xs k) := fun h => by
        have h1 : ¬ el xs k < x := fun h2 => hgo ⟨h, h2⟩
        have h2 : el xs k ≠ x := fun h2 => HX.out (el_mem_iff.2 ⟨k, by rw [HL.out]; exact h, h2⟩)
        omega
      clear hgo
      have hkc : (k : Int) ≤ (cap : Int) := by omega
      have hk0 : (0 : Int) ≤ (k : Int) := by omega
      have hkn : (k : Int) ≤ (n : Int) := by omega
      obtain ⟨o9, he9, hn9⟩ : ∃ o9, (if cap = k then some (⟨b, off, none⟩ : Addr) else some ⟨b, off + k, none⟩) = some ⟨b, o9, none⟩ ∧ ∀ X, Below w.heap.size w X → ∀ j u, ((xs.drop k).map (Value.int .i64))[j]? = some u → X.cell? ((⟨b, o9, none⟩ : Addr).add j) = some u := by
        by_cases h : cap = k
        · refine ⟨off, by rw [if_pos h], fun X _ j u hu => ?_⟩
          rw [List.drop_eq_nil_of_le (by rw [HL.out]; omega)] at hu
          simp at hu
        · exact ⟨off + k, by rw [if_neg h], fun X hX j u hu => news_drop (HO.out.below hX HO.out.blk) j u hu⟩
      have N0 : Hid (∀ o, ∀ j u, ((xs.drop k).map (Value.int .i64))[j]? = some u → (w.alloc o).cell? ((⟨b, o9, none⟩ : Addr).add j) = some u) := fun o => hn9 _ ((Below.refl _ _).alloc (Nat.le_refl _) o)
      have L1 : Hid (((xs.drop k).map (Value.int .i64)).length = (n - k) * 1) := by simp [Hid, HL.out]
      have L0 : Hid (((xs.take k).map (Value.int .i64)).length = k * 1) := by simp [Hid, HL.out]; omega
      clear hn9
      by_cases hlt : k < n
      · have hck := HO.out.cellAt hlt
        have hgt := HGT.out hlt
        have hb1 : decide (el xs k < x) = false := by simp; omega
        have hb2 : (el xs k == x) = false := by simp; omega
        have h9 : off + k = o9 := by rw [if_neg (by omega)] at he9; simpa using he9
        subst h9
        go_wp2_with (first
          | (at_builtin; refine wpList_append_os _ rfl _ _ _ rfl 2 i0 _ 1 8 Try.underlying24 hi0 hz0 hz1 hz2 rfl (by omega) g3 f3 (k + 1) c3 ((xs.take k ++ [x]).map (Value.int .i64)) rfl O3.out ⟨g1, f1, none⟩ (n - k) c1 ((xs.drop k).map (Value.int .i64)) rfl L1.out N3.out (one_cells _) (by unfold maxLen; omega) (by omega) ?_; intro g4 f4 c4 w4 o4 hg4 hat4; have O4 : Hid (OI w4 g4 f4 (k + 1 + (n - k)) c4 (xs.take k ++ x :: xs.drop k)) := oi_app2 o4; have B4 : Hid (Below w.heap.size w w4) := below_grown B3.out hg4 P3.out S3.out; have P4 : Hid (w.heap.size ≤ g4) := at_ge hat4 P3.out S3.out; clear o4 hg4 hat4)
          | (at_builtin; refine wpList_append_os _ rfl _ _ _ rfl 2 i0 _ 1 8 Try.underlying24 hi0 hz0 hz1 hz2 rfl (by omega) g2 f2 k c2 ((xs.take k).map (Value.int .i64)) rfl (OSl.below O2.out ((Below.refl _ _).alloc (Nat.le_refl _) _) O2.out.blk) ⟨w2.heap.size, 0, none⟩ 1 1 [.int .i64 x] rfl rfl (World.news_of_block (cs := #[.int .i64 x]) (t := 2) (fr := (0, 0)) (heap_alloc_new w2 _)) (by simp [Value.oneCell']) (by unfold maxLen; omega) (by omega) ?_; intro g3 f3 c3 w3 o3 hg3 hat3; have O3 : Hid (OI w3 g3 f3 (k + 1) c3 (xs.take k ++ [x])) := oi_snoc o3; have B3 : Hid (Below w.heap.size w w3) := below_grown (B2.out.alloc S2.out _) hg3 P2.out (Nat.le_trans S2.out (by simp)); have S3 : Hid (w.heap.size ≤ w3.heap.size) := B3.out.size; have P3 : Hid (w.heap.size ≤ g3) := at_ge hat3 P2.out (Nat.le_trans S2.out (by simp)); have N3 : Hid (∀ j u, ((xs.drop k).map (Value.int .i64))[j]? = some u → w3.cell? ((⟨g1, f1, none⟩ : Addr).add j) = some u) := news_drop0 (OSl.grown (OSl.below E2.out ((Below.refl _ _).alloc (Nat.le_refl _) _) E2.out.blk) hg3 (by simp; exact NE.out)); clear o3 hg3 hat3)
          | (at_builtin; refine wpList_append_os _ rfl _ _ _ rfl 2 i0 _ 1 8 Try.underlying24 hi0 hz0 hz1 hz2 rfl (by omega) w1.heap.size 0 0 0 [] rfl (oi_empty w1 2) ⟨b, off, none⟩ k cap ((xs.take k).map (Value.int .i64)) rfl L0.out (news_take (OI.below X1.out ((Below.refl _ _).alloc (Nat.le_refl _) _) X1.out.blk)) (one_cells _) (by unfold maxLen; omega) (by omega) ?_; intro g2 f2 c2 w2 o2 hg2 hat2; have O2 : Hid (OI w2 g2 f2 k c2 (xs.take k)) := oi_first o2; have B2 : Hid (Below w.heap.size w w2) := below_grown (B1.out.alloc S1.out _) hg2 S1.out (Nat.le_trans S1.out (by simp)); have S2 : Hid (w.heap.size ≤ w2.heap.size) := B2.out.size; have P2 : Hid (w.heap.size ≤ g2) := at_ge hat2 S1.out (Nat.le_trans S1.out (by simp)); have E2 : Hid (OI w2 g1 f1 (n - k) c1 (xs.drop k)) := OSl.grown (OSl.below O1.out ((Below.refl _ _).alloc (Nat.le_refl _) _) O1.out.blk) hg2 (by { have := O1.out.blk; simp; omega }); have NE : Hid (¬ g2 = g1) := at_ne hat2 (Nat.ne_of_gt O1.out.blk) (Nat.ne_of_gt (Nat.lt_of_lt_of_le O1.out.blk (by simp))); clear o2 hg2 hat2)
          | (at_builtin; (refine wpList_append_os _ rfl _ _ _ rfl 2 i0 _ 1 8 Try.underlying24 hi0 hz0 hz1 hz2 rfl (by omega) w.heap.size 0 0 0 [] rfl (oi_empty w 2) ⟨b, off + k, none⟩ (n - k) (cap - k) ((xs.drop k).map (Value.int .i64)) rfl L1.out (N0.out _) (one_cells _) (by unfold maxLen; omega) (by omega) ?_); intro g1 f1 c1 w1 o1 hg1 hat1; have O1 : Hid (OI w1 g1 f1 (n - k) c1 (xs.drop k)) := oi_first o1; have B1 : Hid (Below w.heap.size w w1) := below_grown ((Below.refl _ _).alloc (Nat.le_refl _) _) hg1 (Nat.le_refl _) (by simp); have S1 : Hid (w.heap.size ≤ w1.heap.size) := B1.out.size; have X1 : Hid (OI w1 b off n cap xs) := HO.out.below B1.out HO.out.blk; clear o1 hg1 hat1))
        go_ret
        exact ⟨k, hk, HA.out, HGT.out, ans_of (by simp [HL.out]; omega) P4.out O4.out B4.out⟩
      · go_wp2_with (first
          | (at_builtin; refine wpList_append_os _ rfl _ _ _ rfl 2 i0 _ 1 8 Try.underlying24 hi0 hz0 hz1 hz2 rfl (by omega) g3 f3 (k + 1) c3 ((xs.take k ++ [x]).map (Value.int .i64)) rfl O3.out ⟨g1, f1, none⟩ (n - k) c1 ((xs.drop k).map (Value.int .i64)) rfl L1.out N3.out (one_cells _) (by unfold maxLen; omega) (by omega) ?_; intro g4 f4 c4 w4 o4 hg4 hat4; have O4 : Hid (OI w4 g4 f4 (k + 1 + (n - k)) c4 (xs.take k ++ x :: xs.drop k)) := oi_app2 o4; have B4 : Hid (Below w.heap.size w w4) := below_grown B3.out hg4 P3.out S3.out; have P4 : Hid (w.heap.size ≤ g4) := at_ge hat4 P3.out S3.out; clear o4 hg4 hat4)
          | (at_builtin; refine wpList_append_os _ rfl _ _ _ rfl 2 i0 _ 1 8 Try.underlying24 hi0 hz0 hz1 hz2 rfl (by omega) g2 f2 k c2 ((xs.take k).map (Value.int .i64)) rfl (OSl.below O2.out ((Below.refl _ _).alloc (Nat.le_refl _) _) O2.out.blk) ⟨w2.heap.size, 0, none⟩ 1 1 [.int .i64 x] rfl rfl (World.news_of_block (cs := #[.int .i64 x]) (t := 2) (fr := (0, 0)) (heap_alloc_new w2 _)) (by simp [Value.oneCell']) (by unfold maxLen; omega) (by omega) ?_; intro g3 f3 c3 w3 o3 hg3 hat3; have O3 : Hid (OI w3 g3 f3 (k + 1) c3 (xs.take k ++ [x])) := oi_snoc o3; have B3 : Hid (Below w.heap.size w w3) := below_grown (B2.out.alloc S2.out _) hg3 P2.out (Nat.le_trans S2.out (by simp)); have S3 : Hid (w.heap.size ≤ w3.heap.size) := B3.out.size; have P3 : Hid (w.heap.size ≤ g3) := at_ge hat3 P2.out (Nat.le_trans S2.out (by simp)); have N3 : Hid (∀ j u, ((xs.drop k).map (Value.int .i64))[j]? = some u → w3.cell? ((⟨g1, f1, none⟩ : Addr).add j) = some u) := news_drop0 (OSl.grown (OSl.below E2.out ((Below.refl _ _).alloc (Nat.le_refl _) _) E2.out.blk) hg3 (by simp; exact NE.out)); clear o3 hg3 hat3)
          | (at_builtin; refine wpList_append_os _ rfl _ _ _ rfl 2 i0 _ 1 8 Try.underlying24 hi0 hz0 hz1 hz2 rfl (by omega) w1.heap.size 0 0 0 [] rfl (oi_empty w1 2) ⟨b, off, none⟩ k cap ((xs.take k).map (Value.int .i64)) rfl L0.out (news_take (OI.below X1.out ((Below.refl _ _).alloc (Nat.le_refl _) _) X1.out.blk)) (one_cells _) (by unfold maxLen; omega) (by omega) ?_; intro g2 f2 c2 w2 o2 hg2 hat2; have O2 : Hid (OI w2 g2 f2 k c2 (xs.take k)) := oi_first o2; have B2 : Hid (Below w.heap.size w w2) := below_grown (B1.out.alloc S1.out _) hg2 S1.out (Nat.le_trans S1.out (by simp)); have S2 : Hid (w.heap.size ≤ w2.heap.size) := B2.out.size; have P2 : Hid (w.heap.size ≤ g2) := at_ge hat2 S1.out (Nat.le_trans S1.out (by simp)); have E2 : Hid (OI w2 g1 f1 (n - k) c1 (xs.drop k)) := OSl.grown (OSl.below O1.out ((Below.refl _ _).alloc (Nat.le_refl _) _) O1.out.blk) hg2 (by { have := O1.out.blk; simp; omega }); have NE : Hid (¬ g2 = g1) := at_ne hat2 (Nat.ne_of_gt O1.out.blk) (Nat.ne_of_gt (Nat.lt_of_lt_of_le O1.out.blk (by simp))); clear o2 hg2 hat2)
          | (at_builtin; refine wpList_append_os _ rfl _ _ _ rfl 2 i0 _ 1 8 Try.underlying24 hi0 hz0 hz1 hz2 rfl (by omega) w.heap.size 0 0 0 [] rfl (oi_empty w 2) ⟨b, o9, none⟩ (n - k) (cap - k) ((xs.drop k).map (Value.int .i64)) rfl L1.out (N0.out _) (one_cells _) (by unfold maxLen; omega) (by omega) ?_; intro g1 f1 c1 w1 o1 hg1 hat1; have O1 : Hid (OI w1 g1 f1 (n - k) c1 (xs.drop k)) := oi_first o1; have B1 : Hid (Below w.heap.size w w1) := below_grown ((Below.refl _ _).alloc (Nat.le_refl _) _) hg1 (Nat.le_refl _) (by simp); have S1 : Hid (w.heap.size ≤ w1.heap.size) := B1.out.size; have X1 : Hid (OI w1 b off n cap xs) := HO.out.below B1.out HO.out.blk; clear o1 hg1 hat1))
        go_ret
        exact ⟨k, hk, HA.out, HGT.out, ans_of (by simp [HL.out]; omega) P4.out O4.out B4.out⟩
end Go.Proofs.Ytacjpebifacclaa

/-
  How the specification's search for all that is ahead of an event goes, on plain lists.
-/
namespace Go.Proofs.Ytacjpebifacclaa
set_option linter.unusedSimpArgs false
set_option linter.unusedVariables false
open Go.RowKit Go.Sort

def nI (O : List Nat) : List Int := O.map (fun (i : Nat) => (i : Int))
theorem nI_len (O : List Nat) : (nI O).length = O.length := by simp [nI]
theorem nI_mem {O : List Nat} {i : Nat} : (i : Int) ∈ nI O ↔ i ∈ O := by
  simp only [nI, List.mem_map]
  constructor
  · rintro ⟨a, h, e⟩
    have : a = i := by omega
    subst this; exact h
  · intro h; exact ⟨i, h, rfl⟩
theorem nI_el {O : List Nat} {j : Nat} (h : j < O.length) : el (nI O) j = ((O[j] : Nat) : Int) := by simp [nI, el, h]
theorem nI_put (O : List Nat) (p i : Nat) : (nI O).take p ++ (i : Int) :: (nI O).drop p = nI (O.take p ++ i :: O.drop p) := by simp [nI]
theorem nI_snoc (O : List Nat) (i : Nat) : nI O ++ [(i : Int)] = nI (O ++ [i]) := by simp [nI]
theorem nI_fits {O : List Nat} {B : Nat} (h : ∀ x ∈ O, x < B) (hB : B ≤ 1000000) : Fits (nI O) := by
  intro x hx
  simp only [nI, List.mem_map] at hx
  obtain ⟨a, ha, rfl⟩ := hx
  have := h a ha
  omega

theorem sorted_ge {l : List Nat} (h : l.Pairwise (· < ·)) : ∀ i (hi : i < l.length), i ≤ l[i] := by
  intro i
  induction i with
  | zero => intro _; omega
  | succ i ih =>
    intro hi
    have h1 := ih (by omega)
    have h2 := List.pairwise_iff_getElem.1 h i (i + 1) (by omega) hi (by omega)
    omega
theorem sorted_len {l : List Nat} {k : Nat} (h : l.Pairwise (· < ·)) (hk : ∀ x ∈ l, x < k) : l.length ≤ k := by
  rcases Nat.eq_zero_or_pos l.length with h0 | h0
  · omega
  · have h1 := sorted_ge h (l.length - 1) (by omega)
    have h2 := hk _ (List.getElem_mem (show l.length - 1 < l.length by omega))
    omega
theorem ins_sorted {O : List Nat} {p i : Nat} (h : O.Pairwise (· < ·)) (hp : p ≤ O.length) (ha : ∀ j (hj : j < p), O[j]'(by omega) < i) (hb : ∀ hlt : p < O.length, i < O[p]) : (O.take p ++ i :: O.drop p).Pairwise (· < ·) := by
  rw [List.pairwise_append]
  have ht : ∀ x ∈ O.take p, x < i := by
    intro x hx
    obtain ⟨j, hj, rfl⟩ := List.getElem_of_mem hx
    rw [List.getElem_take]
    exact ha j (by simp at hj; omega)
  have hd : ∀ x ∈ O.drop p, i < x := by
    intro x hx
    have hkl : p < O.length := by
      rcases Nat.lt_or_ge p O.length with h | h
      · exact h
      · rw [List.drop_eq_nil_of_le h] at hx; simp at hx
    have h1 := hb hkl
    rw [List.drop_eq_getElem_cons hkl] at hx
    rcases List.mem_cons.1 hx with rfl | hx
    · exact h1
    · have := (List.pairwise_cons.1 (by rw [← List.drop_eq_getElem_cons hkl]; exact h.drop : (O[p] :: O.drop (p + 1)).Pairwise (· < ·))).1 x hx
      omega
  refine ⟨h.take, List.pairwise_cons.2 ⟨hd, h.drop⟩, fun x hx y hy => ?_⟩
  rcases List.mem_cons.1 hy with rfl | hy
  · exact ht x hx
  · have := ht x hx; have := hd y hy; omega
theorem ins_mem {O : List Nat} {p i x : Nat} : x ∈ O.take p ++ i :: O.drop p ↔ x = i ∨ x ∈ O := by
  have : x ∈ O ↔ x ∈ O.take p ∨ x ∈ O.drop p := by
    rw [← List.mem_append, List.take_append_drop]
  rw [this]
  simp only [List.mem_append, List.mem_cons]
  constructor
  · rintro (h | h | h)
    · exact .inr (.inl h)
    · exact .inl h
    · exact .inr (.inr h)
  · rintro (h | h | h)
    · exact .inr (.inl h)
    · exact .inl h
    · exact .inr (.inr h)

/-- Found so far O, to be looked at T; S: what is being looked at. -/
structure PInv (es : List Ev) (k : Nat) (O T : List Nat) (S : Nat → Prop) : Prop where
  sorted : O.Pairwise (· < ·)
  anc : ∀ x ∈ O, Anc es x k
  todo : ∀ t ∈ T, t = k ∨ t ∈ O
  done : ∀ y, (y = k ∨ y ∈ O) → y ∉ T → ¬ S y → ∀ i ∈ src es y, i ∈ O
theorem PInv.start (es : List Ev) (k : Nat) : PInv es k [] [k] (fun _ => False) :=
  ⟨List.Pairwise.nil, by simp, by simp, fun y hy hn _ => by
    rcases hy with rfl | hy
    · simp at hn
    · simp at hy⟩
theorem PInv.len {es : List Ev} {k : Nat} {O T : List Nat} {S : Nat → Prop} (h : PInv es k O T S) : O.length ≤ k := sorted_len h.sorted (fun x hx => (h.anc x hx).lt)
theorem PInv.head {es : List Ev} {k x : Nat} {O T : List Nat} {S : Nat → Prop} (h : PInv es k O (x :: T) S) : x ≤ k := by
  rcases h.todo x (by simp) with rfl | hx
  · omega
  · have := (h.anc x hx).lt; omega
theorem PInv.pop {es : List Ev} {k x : Nat} {O T : List Nat} (h : PInv es k O (x :: T) (fun _ => False)) : PInv es k O T (· = x) :=
  ⟨h.sorted, h.anc, fun t ht => h.todo t (by simp [ht]), fun y hy hn hs => h.done y hy (by simp only [List.mem_cons, not_or]; exact ⟨hs, hn⟩) (fun h => h)⟩
theorem PInv.push {es : List Ev} {k x i p : Nat} {O T : List Nat} (h : PInv es k O T (· = x)) (hx : x = k ∨ x ∈ O) (hi : i ∈ src es x) (hp : p ≤ O.length) (ha : ∀ j (hj : j < p), O[j]'(by omega) < i) (hb : ∀ hlt : p < O.length, i < O[p]) :
    PInv es k (O.take p ++ i :: O.drop p) (T ++ [i]) (· = x) := by
  refine ⟨ins_sorted h.sorted hp ha hb, fun y hy => ?_, fun t ht => ?_, fun y hy hn hs j hj => ?_⟩
  · rw [ins_mem] at hy
    rcases hy with rfl | hy
    · rcases hx with rfl | hx
      · exact .base hi
      · exact Anc.cons hi (h.anc x hx)
    · exact h.anc y hy
  · rw [List.mem_append] at ht
    rcases ht with ht | ht
    · rcases h.todo t ht with e | e
      · exact .inl e
      · exact .inr (ins_mem.2 (.inr e))
    · simp at ht; subst ht; exact .inr (ins_mem.2 (.inl rfl))
  · rw [List.mem_append, not_or] at hn
    rw [ins_mem] at hy
    refine ins_mem.2 (.inr ?_)
    rcases hy with rfl | rfl | hy
    · exact h.done y (.inl rfl) hn.1 hs j hj
    · simp at hn
    · exact h.done y (.inr hy) hn.1 hs j hj
theorem PInv.seen {es : List Ev} {k x : Nat} {O T : List Nat} (h : PInv es k O T (· = x)) (hall : ∀ i ∈ src es x, i ∈ O) : PInv es k O T (fun _ => False) :=
  ⟨h.sorted, h.anc, h.todo, fun y hy hn _ => by
    by_cases e : y = x
    · subst e; exact hall
    · exact h.done y hy hn e⟩
theorem PInv.over {es : List Ev} {k : Nat} {O : List Nat} (h : PInv es k O [] (fun _ => False)) : O = pastL es k :=
  sorted_ext h.sorted (pastL_sorted es k) (fun x => by
    rw [mem_pastL]
    exact ⟨h.anc x, anc_closed (S := (· ∈ O)) (h.done k (.inl rfl) (by simp) (fun h => h)) (fun y hy => h.done y (.inr hy) (by simp) (fun h => h)) x⟩)

/-- What the search looks at next: the last of the node ahead, or -1; of a hearing, its sending. -/
def nxL (es : List Ev) (x : Nat) : List Int := ixI (lastB es (evAt es x).n x) :: (if (evAt es x).k = 3 then [ixI (firstS es (evAt es x).m x)] else [])
theorem nxL_src {es : List Ev} {x : Nat} {z : Int} (h : z ∈ nxL es x) (hz : 0 ≤ z) : z.toNat ∈ src es x ∧ ((z.toNat : Nat) : Int) = z := by
  have hix : ∀ o : Option Nat, z = ixI o → o = some z.toNat := by
    intro o ho
    cases o with
    | none => simp [ixI] at ho; omega
    | some i => simp [ixI] at ho; rw [ho]; rfl
  refine ⟨?_, by omega⟩
  unfold nxL at h
  rw [List.mem_cons] at h
  unfold src
  rw [List.mem_append]
  rcases h with h | h
  · left; rw [hix _ h]; simp
  · right
    split at h
    · rename_i h3
      rw [if_pos h3]
      simp at h
      rw [hix _ h]; simp
    · simp at h
theorem src_nxL {es : List Ev} {x i : Nat} (h : i ∈ src es x) : (i : Int) ∈ nxL es x := by
  unfold src at h
  rw [List.mem_append] at h
  unfold nxL
  rw [List.mem_cons]
  rcases h with h | h
  · left; rw [Option.mem_toList] at h; rw [h]; rfl
  · right
    split at h
    · rename_i h3
      rw [if_pos h3]
      rw [Option.mem_toList] at h; rw [h]; simp [ixI]
    · simp at h
theorem take_all {xs : List Int} {O : List Nat} {i : Nat} (hi : xs.length ≤ i) (h : ∀ z ∈ xs.take i, 0 ≤ z → z.toNat ∈ O) : ∀ z ∈ xs, 0 ≤ z → z.toNat ∈ O := by
  rw [List.take_of_length_le hi] at h; exact h
theorem take_more {xs : List Int} {O : List Nat} {i : Nat} (hi : i < xs.length) (h : ∀ z ∈ xs.take i, 0 ≤ z → z.toNat ∈ O) (hx : 0 ≤ el xs i → (el xs i).toNat ∈ O) : ∀ z ∈ xs.take (i + 1), 0 ≤ z → z.toNat ∈ O := by
  intro z hz
  rw [take_snoc hi, List.mem_append] at hz
  rcases hz with hz | hz
  · exact h z hz
  · simp at hz; subst hz; exact hx
theorem oi_tail {w : World} {g off n cap : Nat} {z : Int} {zs : List Int} (h : OI w g off n cap (z :: zs)) :
    ∃ o9, (if cap = 1 then some (⟨g, off, none⟩ : Addr) else some ⟨g, off + 1, none⟩) = some ⟨g, o9, none⟩ ∧ OI w g o9 (n - 1) (cap - 1) zs := by
  have hl := h.length
  simp at hl
  have hle := h.le
  have hmx := h.max
  by_cases hc : cap = 1
  · refine ⟨off, by rw [if_pos hc], by simp; omega, by omega, by omega, h.blk, fun i hi => by omega, fun i hi => by omega, fun i hi => by omega⟩
  · refine ⟨off + 1, by rw [if_neg hc], by simp; omega, by omega, by omega, h.blk, fun i hi => ?_, fun i hi => ?_, fun i hi => ?_⟩
    · rw [Nat.add_assoc, Nat.add_comm 1 i, h.cell (i + 1) (by omega)]; simp
    · rw [Nat.add_assoc]; exact h.some (1 + i) (by omega)
    · rw [Nat.add_assoc]; exact h.free (1 + i) (by omega)
end Go.Proofs.Ytacjpebifacclaa

/-
  The contract of the specification's l2Past.
-/
namespace Go.Proofs.Ytacjpebifacclaa
set_option linter.unusedSimpArgs false
set_option linter.unusedVariables false
open Go.RowKit Go.Sort

theorem oi_one (w : World) (z : Int) (T : TypeId) : OI (w.alloc (.cells #[.int .i64 z] T)) w.heap.size 0 1 1 [z] := by
  have h1 : ∀ i, i < 1 * 1 → i = 0 := fun i hi => by omega
  refine ⟨rfl, Nat.le_refl _, by unfold maxLen; omega, by simp, fun i hi => ?_, fun i hi => ?_, fun i hi => ?_⟩
  · rw [h1 i hi]; simp
  · rw [h1 i hi]; simp
  · unfold World.frozen?
    rw [heap_alloc_new]
    simp

set_option maxRecDepth 100000 in
set_option maxHeartbeats 3200000 in
theorem l2Past_any (b off len cap k : Nat) (es : List Ev) (w : World) (hc : EvsAt w b off len es) (hok : okT es len = true) (hk : k < len) :
    Calls Try.prog 101 #[.slice (some ⟨b, off, none⟩) len cap, .int .i64 (k : Int)] w fun e w' => Ans w w' e (nI (pastL es k)) := by
  obtain ⟨i0, hi0, hz0, hz1, hz2⟩ := info_parts Try.info3
  obtain ⟨h40, hall⟩ := okT_all hok
  have HALL : Hid (∀ k, k < len → okE es k = true) := hall
  have hlm : len ≤ maxLen := by unfold maxLen; omega
  clear hall hok
  go_enter Try.func101, Try.ntmps101
  go_wp2
  go_loopw [5, 6] (fun v5 v6 wr => ∃ (O T : List Nat) (g5 f5 c5 g6 f6 c6 : Nat), v5 = .slice (some ⟨g5, f5, none⟩) O.length c5 ∧ v6 = .slice (some ⟨g6, f6, none⟩) T.length c6 ∧ PInv es k O T (fun _ => False) ∧ T.length ≤ O.length + 1 ∧
      OI wr g5 f5 O.length c5 (nI O) ∧ OI wr g6 f6 T.length c6 (nI T) ∧ g5 ≠ g6 ∧ w.heap.size ≤ g5 ∧ w.heap.size ≤ g6 ∧ Below w.heap.size w wr) (fun v5 v6 _ => 2 * (k - lenOf v5) + lenOf v6)
  case atStart =>
    refine ⟨[], [k], w.heap.size, 0, 0, w.heap.size + 1, 0, 1, rfl, rfl, PInv.start es k, by simp, OI.below (oi_empty w 2) ((Below.refl _ _).alloc (Nat.le_refl _) _) (by simp), ?_, by omega, by omega, by omega, ((Below.refl _ _).alloc (Nat.le_refl _) _).alloc (by simp) _⟩
    have := oi_one (w.alloc (.cells #[] 2)) (k : Int) 3
    simpa [nI] using this
  case round =>
    obtain ⟨O, T, g5, f5, c5, g6, f6, c6, rfl, rfl, hP, hTO, ho5, ho6, hne, hg5, hg6, hbel⟩ := hrel
    have HP0 : Hid (PInv es k O T (fun _ => False)) := hP
    have H5 : Hid (OI wr g5 f5 O.length c5 (nI O)) := ho5
    have H6 : Hid (OI wr g6 f6 T.length c6 (nI T)) := ho6
    have HNE : Hid (g5 ≠ g6) := hne
    have HG5 : Hid (w.heap.size ≤ g5) := hg5
    have HG6 : Hid (w.heap.size ≤ g6) := hg6
    have HB : Hid (Below w.heap.size w wr) := hbel
    clear hP ho5 ho6 hne hg5 hg6 hbel
    cases T with
    | nil =>
      have HE : Hid (O = pastL es k) := HP0.out.over
      go_wp2
      go_ret
      exact ans_of (by rw [nI_len, ← HE.out]) HG5.out (by rw [← HE.out]; exact H5.out) HB.out
    | cons x T =>
      have HP : Hid (PInv es k O (x :: T) (fun _ => False)) := HP0.out
      have HX : Hid (x = k ∨ x ∈ O) := HP0.out.todo x (by simp)
      have hxk := HP0.out.head
      have hTO' : T.length ≤ O.length := by simpa using hTO
      have hxl : x < len := by omega
      have hOl := HP0.out.len
      have HC : Hid (EvsAt wr b off len es) := evs_below hc HB.out (Nat.le_refl _)
      obtain ⟨_, e1, e2⟩ := HC.out x hxl
      have hcx := H6.out.cellAt (i := 0) (by simp)
      simp only [nI_el (O := x :: T) (j := 0) (by simp), Nat.add_zero, List.getElem_cons_zero] at hcx
      have hc1 := H6.out.le
      simp only [List.length_cons] at hc1
      have hcc : (1 : Int) ≤ (c6 : Int) := by omega
      obtain ⟨o9, he9, ho9⟩ := oi_tail (z := (x : Int)) (zs := nI T) H6.out
      simp only [List.length_cons, Nat.add_sub_cancel] at ho9
      have H9 : Hid (OI wr g6 o9 T.length (c6 - 1) (nI T)) := ho9
      have hL := l2Last_any b off len cap x es wr HC.out hlm hxl
      have hxi : (x : Int) < (len : Int) := by omega
      have hxi0 : (0 : Int) ≤ (x : Int) := by omega
      clear ho9 HP0
      by_cases hk3 : (evAt es x).k = 3
      · obtain ⟨s, hs⟩ := Option.ne_none_iff_exists'.1 (okE_first (HALL.out x hxl) hk3)
        have hS := fun (X : World) (hX : EvsAt X b off len es) => l2Send_any b off len cap (evAt es x).m es X hX hlm
        rw [firstS_mono hs len (by have := (firstS_some hs).1; omega)] at hS
        simp only [ixI] at hS
        have HNX : Hid (nxL es x = [ixI (lastB es (evAt es x).n x), (s : Int)]) := by rw [Hid, nxL, if_pos hk3, hs]; rfl
        clear hs
        go_wp2_with fail
        refine hL.mono ?_
        rintro e w1 ⟨rfl, n1, hw1⟩
        have R5 := H5.out.drewN n1
        have R9 := H9.out.drewN n1
        have RB := belowN (n := n1) HB.out
        have RC := HC.out.drewN n1
        rw [← hw1] at R5 R9 RB RC
        clear hw1 hL
        have hgA := (Grew.refl w1).alloc (.cells #[.int .i64 (ixI (lastB es (evAt es x).n x))] 3)
        have S1 : w.heap.size ≤ w1.heap.size := RB.size
        obtain ⟨_, d1, d2⟩ := RC x hxl
        rw [hk3] at d1
        have hbl := World.block_lt_of_cell? _ _ d1
        simp only at hbl
        have hbne : b ≠ w1.heap.size := by omega
        clear e1 e2
        generalize hlz : ixI (lastB es (evAt es x).n x) = lz at *
        go_wp2_with fail
        refine (hS _ (RC.grew hgA)).mono ?_
        rintro e w2 ⟨rfl, hw2⟩
        have O1 : OI w2 w1.heap.size 0 1 1 [lz] := by rw [hw2]; exact oi_one w1 lz 3
        have G2 : Grew w1 w2 := by rw [hw2]; exact hgA
        clear hw2 hS hgA
        have P5 := OI.below R5 G2.1 R5.blk
        have P9 := OI.below R9 G2.1 R9.blk
        have PB : Below w.heap.size w w2 := RB.trans (G2.1.mono S1)
        have S2 : w.heap.size ≤ w2.heap.size := PB.size
        have PC : Hid (EvsAt w2 b off len es) := RC.grew G2
        have L5 := R5.blk
        have L9 := R9.blk
        clear R5 R9 RB RC d1 d2 G2
        go_wp2_with (at_builtin; refine wpList_append_os _ rfl _ _ _ rfl 3 i0 _ 1 8 Try.underlying75 hi0 hz0 hz1 hz2 rfl (by omega) w1.heap.size 0 1 1 [.int .i64 lz] rfl (OSl.below O1 ((Below.refl _ _).alloc (Nat.le_refl _) _) O1.blk) ⟨w2.heap.size, 0, none⟩ 1 1 [.int .i64 (s : Int)] rfl rfl (World.news_of_block (cs := #[.int .i64 (s : Int)]) (t := 3) (fr := (0, 0)) (heap_alloc_new w2 _)) (by simp [Value.oneCell']) (by unfold maxLen; omega) (by omega) ?_; intro gn fn cn w3 o3 hg3 hat3)
        have ON : Hid (OI w3 gn fn (nxL es x).length cn (nxL es x)) := by rw [Hid, HNX.out]; exact o3
        have M5 : Hid (OI w3 g5 f5 O.length c5 (nI O)) := OSl.grown (OSl.below P5 ((Below.refl _ _).alloc (Nat.le_refl _) _) P5.blk) hg3 (by simp; omega)
        have M9 : Hid (OI w3 g6 o9 T.length (c6 - 1) (nI T)) := OSl.grown (OSl.below P9 ((Below.refl _ _).alloc (Nat.le_refl _) _) P9.blk) hg3 (by simp; omega)
        have MB : Hid (Below w.heap.size w w3) := below_grown (PB.alloc S2 _) hg3 S1 (Nat.le_trans S2 (by simp))
        have MN : Hid (gn ≠ g6) := at_ne hat3 (by omega) (by have := P9.blk; simp; omega)
        have HNL : Hid ((nxL es x).length = 2) := by rw [Hid, HNX.out]; rfl
        clear o3 hg3 hat3 P5 P9 PB O1
        have e2' : (2 : Nat) = (nxL es x).length := HNL.out.symm
        have hnx2 : (nxL es x).length ≤ 2 := by omega
        rw [show (Value.slice (some ⟨gn, fn, none⟩) 2 cn) = .slice (some ⟨gn, fn, none⟩) (nxL es x).length cn from by rw [HNL.out]]
        clear e2'
        go_wp2
        go_loopw [5, 6, 9] (fun v5 v6 i wx => ∃ (j : Nat) (O' T' : List Nat) (g5 f5 c5 g6 f6 c6 : Nat), j ≤ (nxL es x).length ∧ i = .int .i64 j ∧ v5 = .slice (some ⟨g5, f5, none⟩) O'.length c5 ∧ v6 = .slice (some ⟨g6, f6, none⟩) T'.length c6 ∧
            PInv es k O' T' (· = x) ∧ (x = k ∨ x ∈ O') ∧ (∀ z ∈ (nxL es x).take j, 0 ≤ z → z.toNat ∈ O') ∧ T'.length + O.length = T.length + O'.length ∧ O.length ≤ O'.length ∧
            OI wx g5 f5 O'.length c5 (nI O') ∧ OI wx g6 f6 T'.length c6 (nI T') ∧ OI wx gn fn (nxL es x).length cn (nxL es x) ∧ g5 ≠ g6 ∧ gn ≠ g6 ∧ w.heap.size ≤ g5 ∧ w.heap.size ≤ g6 ∧ Below w.heap.size w wx) (fun _ _ i _ => (nxL es x).length - (intOf i).toNat)
        case atStart => exact ⟨0, O, T, g5, f5, c5, g6, o9, c6 - 1, Nat.zero_le _, rfl, rfl, rfl, HP.out.pop, HX.out, fun z hz => by simp at hz, by omega, Nat.le_refl _, M5.out, M9.out, ON.out, HNE.out, MN.out, HG5.out, HG6.out, MB.out⟩
        case round =>
          obtain ⟨j, O', T', g5', f5', c5', g6', f6', c6', hj, rfl, rfl, rfl, hP, hX, hall, hcnt, hcnt2, ho5, ho6, hon, hne1, hne2, hg5, hg6, hbel⟩ := hrel
          have KP : Hid (PInv es k O' T' (· = x)) := hP
          have KX : Hid (x = k ∨ x ∈ O') := hX
          have KA : Hid (∀ z ∈ (nxL es x).take j, 0 ≤ z → z.toNat ∈ O') := hall
          have KC : Hid (T'.length + O.length = T.length + O'.length) := hcnt
          have K5 : Hid (OI wr g5' f5' O'.length c5' (nI O')) := ho5
          have K6 : Hid (OI wr g6' f6' T'.length c6' (nI T')) := ho6
          have KN : Hid (OI wr gn fn (nxL es x).length cn (nxL es x)) := hon
          have N1 : Hid (g5' ≠ g6') := hne1
          have N2 : Hid (gn ≠ g6') := hne2
          have Q5 : Hid (w.heap.size ≤ g5') := hg5
          have Q6 : Hid (w.heap.size ≤ g6') := hg6
          have KB : Hid (Below w.heap.size w wr) := hbel
          have hOl : O'.length ≤ 40 := by have := hP.len; omega
          have hTl : T'.length ≤ 1000 := by omega
          clear hP hX hall hcnt ho5 ho6 hon hne1 hne2 hg5 hg6 hbel
          by_cases hjl : j < (nxL es x).length
          · have cz := KN.out.cellAt hjl
            have hzm : el (nxL es x) j ∈ nxL es x := el_mem hjl
            have hj1 : (j : Int) < ((nxL es x).length : Int) := by omega
            have hj0 : (0 : Int) ≤ (j : Int) := by omega
            have HM : Hid (∀ O'', (0 ≤ el (nxL es x) j → (el (nxL es x) j).toNat ∈ O'') → (∀ z ∈ (nxL es x).take j, 0 ≤ z → z.toNat ∈ O'') → ∀ z ∈ (nxL es x).take (j + 1), 0 ≤ z → z.toNat ∈ O'') := fun O'' h1 h2 => take_more hjl h2 h1
            have HSRC : Hid (0 ≤ el (nxL es x) j → (el (nxL es x) j).toNat ∈ src es x ∧ (((el (nxL es x) j).toNat : Nat) : Int) = el (nxL es x) j) := nxL_src hzm
            generalize hz : el (nxL es x) j = z at *
            clear hz hzm
            by_cases hz0' : 0 ≤ z
            · obtain ⟨hsrc, hzz⟩ := HSRC.out hz0'
              generalize hs : z.toNat = s at *
              subst hzz
              have HS : Hid (s ∈ src es x) := hsrc
              clear hs hsrc
              have hH := fun X (h : OI X g5' f5' O'.length c5' (nI O')) => l1Has_any g5' f5' O'.length c5' (s : Int) (nI O') X (nI_len O') (fun i hi => h.cellAt hi) (by unfold maxLen; omega)
              by_cases hin : s ∈ O'
              · have hd : decide ((s : Int) ∈ nI O') = true := by rw [decide_eq_true_eq]; exact nI_mem.2 hin
                rw [hd] at hH
                have HIN : Hid (s ∈ O') := hin
                clear hin hd
                go_wp2_with fail
                refine (hH wr K5.out).mono ?_
                rintro e w8 ⟨rfl, hw8⟩
                have R5 := K5.out
                have R6 := K6.out
                have RN := KN.out
                have RB := KB.out
                rw [← hw8] at R5 R6 RN RB
                clear hw8
                have Z5 : Hid (OI w8 g5' f5' O'.length c5' (nI O')) := R5
                have Z6 : Hid (OI w8 g6' f6' T'.length c6' (nI T')) := R6
                have ZN : Hid (OI w8 gn fn (nxL es x).length cn (nxL es x)) := RN
                have ZB : Hid (Below w.heap.size w w8) := RB
                clear R5 R6 RN RB
                go_wp2
                go_roundw
                case rel => exact ⟨j + 1, O', T', g5', f5', c5', g6', f6', c6', by omega, by go_num, rfl, rfl, KP.out, KX.out, HM.out O' (fun _ => by simpa using HIN.out) KA.out, KC.out, hcnt2, Z5.out, Z6.out, ZN.out, N1.out, N2.out, Q5.out, Q6.out, ZB.out⟩
                case measure => simp [intOf]; omega
              · have hd : decide ((s : Int) ∈ nI O') = false := by rw [decide_eq_false_iff_not]; exact fun h => hin (nI_mem.1 h)
                rw [hd] at hH
                have hno : (s : Int) ∉ nI O' := fun h => hin (nI_mem.1 h)
                clear hin hd
                go_wp2_with fail
                refine (hH wr K5.out).mono ?_
                rintro e w8 ⟨rfl, hw8⟩
                have R5 := K5.out
                have R6 := K6.out
                have RN := KN.out
                have RB := KB.out
                rw [← hw8] at R5 R6 RN RB
                have cz' := RN.cellAt hjl
                have cz8 : w8.cell? ⟨gn, fn + j, none⟩ = some (.int .i64 (s : Int)) := by rw [hw8]; exact cz
                clear hw8 cz'
                go_wp2_with fail
                refine (l1Put_any g5' f5' O'.length c5' (s : Int) (nI O') w8 R5 hno (by omega)).mono ?_
                rintro e w9 ⟨p, hp, hpa, hpb, g7, f7, c7, he7, hg7, ho7, hb7⟩
                rw [nI_put] at he7 ho7
                have hl7 : (nI (O'.take p ++ s :: O'.drop p)).length = O'.length + 1 := by rw [nI_len]; simp; omega
                rw [hl7] at he7 ho7
                subst he7
                have cz9 := (hb7.cell (World.block_lt_of_cell? _ _ cz8)).trans cz8
                have PP : Hid (PInv es k (O'.take p ++ s :: O'.drop p) (T' ++ [s]) (· = x)) := KP.out.push KX.out HS.out hp (fun i hi => by have := hpa i hi; rw [nI_el (by omega)] at this; omega) (fun h => by have := hpb h; rw [nI_el h] at this; omega)
                have Y6 : Hid (OI w9 g6' f6' T'.length c6' (nI T')) := OI.below R6 hb7 R6.blk
                have YN : Hid (OI w9 gn fn (nxL es x).length cn (nxL es x)) := OI.below RN hb7 RN.blk
                have Y7 : Hid (OI w9 g7 f7 (O'.length + 1) c7 (nI (O'.take p ++ s :: O'.drop p))) := ho7
                have YB : Hid (Below w.heap.size w w9) := RB.trans (hb7.mono RB.size)
                have YS : Hid (w.heap.size ≤ w9.heap.size) := YB.out.size
                have YG : Hid (w.heap.size ≤ g7) := Nat.le_trans RB.size hg7
                have YN7 : Hid (g7 ≠ g6') := by have := R6.blk; rw [Hid]; omega
                have KP2 : Hid (p ≤ O'.length) := hp
                clear R5 R6 RN RB hb7 ho7 hpa hpb hno cz cz8 hg7 hl7 hH hp
                go_wp2_with (at_builtin; refine wpList_append_os _ rfl _ _ _ rfl 3 i0 _ 1 8 Try.underlying75 hi0 hz0 hz1 hz2 rfl (by omega) g6' f6' T'.length c6' ((nI T').map (Value.int .i64)) rfl (OSl.below Y6.out ((Below.refl _ _).alloc (Nat.le_refl _) _) Y6.out.blk) ⟨w9.heap.size, 0, none⟩ 1 1 [.int .i64 (s : Int)] rfl rfl (World.news_of_block (cs := #[.int .i64 (s : Int)]) (t := 3) (fr := (0, 0)) (heap_alloc_new w9 _)) (by simp [Value.oneCell']) (by unfold maxLen; omega) (by omega) ?_; intro ga fa ca wa oa hga hata)
                have ZA : Hid (OI wa ga fa (T'.length + 1) ca (nI (T' ++ [s]))) := by rw [Hid, ← nI_snoc]; exact oi_snoc oa
                have ZN : Hid (OI wa gn fn (nxL es x).length cn (nxL es x)) := OSl.grown (OSl.below YN.out ((Below.refl _ _).alloc (Nat.le_refl _) _) YN.out.blk) hga (by have := N2.out; simp; omega)
                have Z7 : Hid (OI wa g7 f7 (O'.length + 1) c7 (nI (O'.take p ++ s :: O'.drop p))) := OSl.grown (OSl.below Y7.out ((Below.refl _ _).alloc (Nat.le_refl _) _) Y7.out.blk) hga (by have := YN7.out; simp; omega)
                have ZB : Hid (Below w.heap.size w wa) := below_grown (YB.out.alloc YS.out _) hga Q6.out (Nat.le_trans YS.out (by simp))
                have ZG : Hid (w.heap.size ≤ ga) := at_ge hata Q6.out (Nat.le_trans YS.out (by simp))
                have Z1 : Hid (g7 ≠ ga) := fun e => at_ne hata (fun e' => YN7.out e'.symm) (by have := Y7.out.blk; simp; omega) e.symm
                have Z2 : Hid (gn ≠ ga) := fun e => at_ne hata (fun e' => N2.out e'.symm) (by have := YN.out.blk; simp; omega) e.symm
                have Zl : (O'.take p ++ s :: O'.drop p).length = O'.length + 1 := by have := KP2.out; simp; omega
                have Zm : (T' ++ [s]).length = T'.length + 1 := by simp
                have HZl : Hid ((O'.take p ++ s :: O'.drop p).length = O'.length + 1) := Zl
                have HZm : Hid ((T' ++ [s]).length = T'.length + 1) := Zm
                clear oa hga hata Zl Zm cz9
                go_wp2
                go_roundw
                case rel => exact ⟨j + 1, O'.take p ++ s :: O'.drop p, T' ++ [s], g7, f7, c7, ga, fa, ca, by omega, by go_num, by rw [HZl.out], by rw [HZm.out], PP.out, (by rcases KX.out with h | h; exact .inl h; exact .inr (ins_mem.2 (.inr h))), HM.out _ (fun _ => ins_mem.2 (.inl (by simp))) (fun z hz h0 => ins_mem.2 (.inr (KA.out z hz h0))), by have := KC.out; rw [HZl.out, HZm.out]; omega, by rw [HZl.out]; omega, by rw [HZl.out]; exact Z7.out, by rw [HZm.out]; exact ZA.out, ZN.out, Z1.out, Z2.out, YG.out, ZG.out, ZB.out⟩
                case measure => simp [intOf]; omega
            · have hzb : decide (0 ≤ z) = false := by simpa using hz0'
              have HZ0 : Hid (¬ 0 ≤ z) := hz0'
              clear hz0'
              go_wp2
              go_roundw
              case rel => exact ⟨j + 1, O', T', g5', f5', c5', g6', f6', c6', by omega, by go_num, rfl, rfl, KP.out, KX.out, HM.out O' (fun h => absurd h HZ0.out) KA.out, KC.out, hcnt2, K5.out, K6.out, KN.out, N1.out, N2.out, Q5.out, Q6.out, KB.out⟩
              case measure => simp [intOf]; omega
          · have HD : Hid (PInv es k O' T' (fun _ => False)) := KP.out.seen (fun i hi => by
              have := take_all (by omega) KA.out (i : Int) (src_nxL hi) (by omega)
              simpa using this)
            have hPl := KP.out.len
            have KC2 := KC.out
            go_wp2
            go_roundw
            case rel => exact ⟨O', T', g5', f5', c5', g6', f6', c6', rfl, rfl, HD.out, by omega, K5.out, K6.out, N1.out, Q5.out, Q6.out, KB.out⟩
            case measure => simp [lenOf]; omega
      · have hk3b : ((evAt es x).k == 3) = false := by simpa using hk3
        have HNX : Hid (nxL es x = [ixI (lastB es (evAt es x).n x)]) := by rw [Hid, nxL, if_neg hk3]
        go_wp2_with fail
        refine hL.mono ?_
        rintro e w1 ⟨rfl, n1, hw1⟩
        have R5 := H5.out.drewN n1
        have R9 := H9.out.drewN n1
        have RB := belowN (n := n1) HB.out
        have RC := HC.out.drewN n1
        rw [← hw1] at R5 R9 RB RC
        clear hw1 hL
        have S1 : w.heap.size ≤ w1.heap.size := RB.size
        obtain ⟨_, d1, d2⟩ := RC x hxl
        have hbl := World.block_lt_of_cell? _ _ d1
        simp only at hbl
        have hbne : b ≠ w1.heap.size := by omega
        clear e1 e2
        generalize hlz : ixI (lastB es (evAt es x).n x) = lz at *
        have hAl : Below w1.heap.size w1 (w1.alloc (.cells #[.int .i64 lz] 3)) := (Below.refl _ _).alloc (Nat.le_refl _) _
        have ON : Hid (OI (w1.alloc (.cells #[.int .i64 lz] 3)) w1.heap.size 0 (nxL es x).length 1 (nxL es x)) := by rw [Hid, HNX.out]; exact oi_one w1 lz 3
        have M5 : Hid (OI (w1.alloc (.cells #[.int .i64 lz] 3)) g5 f5 O.length c5 (nI O)) := OI.below R5 hAl R5.blk
        have M9 : Hid (OI (w1.alloc (.cells #[.int .i64 lz] 3)) g6 o9 T.length (c6 - 1) (nI T)) := OI.below R9 hAl R9.blk
        have MB : Hid (Below w.heap.size w (w1.alloc (.cells #[.int .i64 lz] 3))) := RB.alloc S1 _
        have MN : Hid (w1.heap.size ≠ g6) := by have := R9.blk; rw [Hid]; omega
        have HNL : Hid ((nxL es x).length = 1) := by rw [Hid, HNX.out]; rfl
        have hnx2 : (nxL es x).length ≤ 2 := by have := HNL.out; omega
        clear R5 R9 RB RC hAl d2
        go_wp2
        rw [show (Value.slice (some ⟨w1.heap.size, 0, none⟩) 1 1) = .slice (some ⟨w1.heap.size, 0, none⟩) (nxL es x).length 1 from by rw [HNL.out]]
        go_loopw [5, 6, 9] (fun v5 v6 i wx => ∃ (j : Nat) (O' T' : List Nat) (g5 f5 c5 g6 f6 c6 : Nat), j ≤ (nxL es x).length ∧ i = .int .i64 j ∧ v5 = .slice (some ⟨g5, f5, none⟩) O'.length c5 ∧ v6 = .slice (some ⟨g6, f6, none⟩) T'.length c6 ∧
            PInv es k O' T' (· = x) ∧ (x = k ∨ x ∈ O') ∧ (∀ z ∈ (nxL es x).take j, 0 ≤ z → z.toNat ∈ O') ∧ T'.length + O.length = T.length + O'.length ∧ O.length ≤ O'.length ∧
            OI wx g5 f5 O'.length c5 (nI O') ∧ OI wx g6 f6 T'.length c6 (nI T') ∧ OI wx w1.heap.size 0 (nxL es x).length 1 (nxL es x) ∧ g5 ≠ g6 ∧ w1.heap.size ≠ g6 ∧ w.heap.size ≤ g5 ∧ w.heap.size ≤ g6 ∧ Below w.heap.size w wx) (fun _ _ i _ => (nxL es x).length - (intOf i).toNat)
        case atStart => exact ⟨0, O, T, g5, f5, c5, g6, o9, c6 - 1, Nat.zero_le _, rfl, rfl, rfl, HP.out.pop, HX.out, fun z hz => by simp at hz, by omega, Nat.le_refl _, M5.out, M9.out, ON.out, HNE.out, MN.out, HG5.out, HG6.out, MB.out⟩
        case round =>
          obtain ⟨j, O', T', g5', f5', c5', g6', f6', c6', hj, rfl, rfl, rfl, hP, hX, hall, hcnt, hcnt2, ho5, ho6, hon, hne1, hne2, hg5, hg6, hbel⟩ := hrel
          have KP : Hid (PInv es k O' T' (· = x)) := hP
          have KX : Hid (x = k ∨ x ∈ O') := hX
          have KA : Hid (∀ z ∈ (nxL es x).take j, 0 ≤ z → z.toNat ∈ O') := hall
          have KC : Hid (T'.length + O.length = T.length + O'.length) := hcnt
          have K5 : Hid (OI wr g5' f5' O'.length c5' (nI O')) := ho5
          have K6 : Hid (OI wr g6' f6' T'.length c6' (nI T')) := ho6
          have KN : Hid (OI wr w1.heap.size 0 (nxL es x).length 1 (nxL es x)) := hon
          have N1 : Hid (g5' ≠ g6') := hne1
          have N2 : Hid (w1.heap.size ≠ g6') := hne2
          have Q5 : Hid (w.heap.size ≤ g5') := hg5
          have Q6 : Hid (w.heap.size ≤ g6') := hg6
          have KB : Hid (Below w.heap.size w wr) := hbel
          have hOl : O'.length ≤ 40 := by have := hP.len; omega
          have hTl : T'.length ≤ 1000 := by omega
          clear hP hX hall hcnt ho5 ho6 hon hne1 hne2 hg5 hg6 hbel
          by_cases hjl : j < (nxL es x).length
          · have cz := KN.out.cellAt hjl
            simp only [Nat.zero_add] at cz
            have hzm : el (nxL es x) j ∈ nxL es x := el_mem hjl
            have hj1 : (j : Int) < ((nxL es x).length : Int) := by omega
            have hj0 : (0 : Int) ≤ (j : Int) := by omega
            have HM : Hid (∀ O'', (0 ≤ el (nxL es x) j → (el (nxL es x) j).toNat ∈ O'') → (∀ z ∈ (nxL es x).take j, 0 ≤ z → z.toNat ∈ O'') → ∀ z ∈ (nxL es x).take (j + 1), 0 ≤ z → z.toNat ∈ O'') := fun O'' h1 h2 => take_more hjl h2 h1
            have HSRC : Hid (0 ≤ el (nxL es x) j → (el (nxL es x) j).toNat ∈ src es x ∧ (((el (nxL es x) j).toNat : Nat) : Int) = el (nxL es x) j) := nxL_src hzm
            generalize hz : el (nxL es x) j = z at *
            clear hz hzm
            by_cases hz0' : 0 ≤ z
            · obtain ⟨hsrc, hzz⟩ := HSRC.out hz0'
              generalize hs : z.toNat = s at *
              subst hzz
              have HS : Hid (s ∈ src es x) := hsrc
              clear hs hsrc
              have hH := fun X (h : OI X g5' f5' O'.length c5' (nI O')) => l1Has_any g5' f5' O'.length c5' (s : Int) (nI O') X (nI_len O') (fun i hi => h.cellAt hi) (by unfold maxLen; omega)
              by_cases hin : s ∈ O'
              · have hd : decide ((s : Int) ∈ nI O') = true := by rw [decide_eq_true_eq]; exact nI_mem.2 hin
                rw [hd] at hH
                have HIN : Hid (s ∈ O') := hin
                clear hin hd
                go_wp2_with fail
                refine (hH wr K5.out).mono ?_
                rintro e w8 ⟨rfl, hw8⟩
                have R5 := K5.out
                have R6 := K6.out
                have RN := KN.out
                have RB := KB.out
                rw [← hw8] at R5 R6 RN RB
                clear hw8
                have Z5 : Hid (OI w8 g5' f5' O'.length c5' (nI O')) := R5
                have Z6 : Hid (OI w8 g6' f6' T'.length c6' (nI T')) := R6
                have ZN : Hid (OI w8 w1.heap.size 0 (nxL es x).length 1 (nxL es x)) := RN
                have ZB : Hid (Below w.heap.size w w8) := RB
                clear R5 R6 RN RB
                go_wp2
                go_roundw
                case rel => exact ⟨j + 1, O', T', g5', f5', c5', g6', f6', c6', by omega, by go_num, rfl, rfl, KP.out, KX.out, HM.out O' (fun _ => by simpa using HIN.out) KA.out, KC.out, hcnt2, Z5.out, Z6.out, ZN.out, N1.out, N2.out, Q5.out, Q6.out, ZB.out⟩
                case measure => simp [intOf]; omega
              · have hd : decide ((s : Int) ∈ nI O') = false := by rw [decide_eq_false_iff_not]; exact fun h => hin (nI_mem.1 h)
                rw [hd] at hH
                have hno : (s : Int) ∉ nI O' := fun h => hin (nI_mem.1 h)
                clear hin hd
                go_wp2_with fail
                refine (hH wr K5.out).mono ?_
                rintro e w8 ⟨rfl, hw8⟩
                have R5 := K5.out
                have R6 := K6.out
                have RN := KN.out
                have RB := KB.out
                rw [← hw8] at R5 R6 RN RB
                have cz' := RN.cellAt hjl
                have cz8 : w8.cell? ⟨w1.heap.size, j, none⟩ = some (.int .i64 (s : Int)) := by rw [hw8]; exact cz
                clear hw8 cz'
                go_wp2_with fail
                refine (l1Put_any g5' f5' O'.length c5' (s : Int) (nI O') w8 R5 hno (by omega)).mono ?_
                rintro e w9 ⟨p, hp, hpa, hpb, g7, f7, c7, he7, hg7, ho7, hb7⟩
                rw [nI_put] at he7 ho7
                have hl7 : (nI (O'.take p ++ s :: O'.drop p)).length = O'.length + 1 := by rw [nI_len]; simp; omega
                rw [hl7] at he7 ho7
                subst he7
                have cz9 := (hb7.cell (World.block_lt_of_cell? _ _ cz8)).trans cz8
                have PP : Hid (PInv es k (O'.take p ++ s :: O'.drop p) (T' ++ [s]) (· = x)) := KP.out.push KX.out HS.out hp (fun i hi => by have := hpa i hi; rw [nI_el (by omega)] at this; omega) (fun h => by have := hpb h; rw [nI_el h] at this; omega)
                have Y6 : Hid (OI w9 g6' f6' T'.length c6' (nI T')) := OI.below R6 hb7 R6.blk
                have YN : Hid (OI w9 w1.heap.size 0 (nxL es x).length 1 (nxL es x)) := OI.below RN hb7 RN.blk
                have Y7 : Hid (OI w9 g7 f7 (O'.length + 1) c7 (nI (O'.take p ++ s :: O'.drop p))) := ho7
                have YB : Hid (Below w.heap.size w w9) := RB.trans (hb7.mono RB.size)
                have YS : Hid (w.heap.size ≤ w9.heap.size) := YB.out.size
                have YG : Hid (w.heap.size ≤ g7) := Nat.le_trans RB.size hg7
                have YN7 : Hid (g7 ≠ g6') := by have := R6.blk; rw [Hid]; omega
                have KP2 : Hid (p ≤ O'.length) := hp
                clear R5 R6 RN RB hb7 ho7 hpa hpb hno cz cz8 hg7 hl7 hH hp
                go_wp2_with (at_builtin; refine wpList_append_os _ rfl _ _ _ rfl 3 i0 _ 1 8 Try.underlying75 hi0 hz0 hz1 hz2 rfl (by omega) g6' f6' T'.length c6' ((nI T').map (Value.int .i64)) rfl (OSl.below Y6.out ((Below.refl _ _).alloc (Nat.le_refl _) _) Y6.out.blk) ⟨w9.heap.size, 0, none⟩ 1 1 [.int .i64 (s : Int)] rfl rfl (World.news_of_block (cs := #[.int .i64 (s : Int)]) (t := 3) (fr := (0, 0)) (heap_alloc_new w9 _)) (by simp [Value.oneCell']) (by unfold maxLen; omega) (by omega) ?_; intro ga fa ca wa oa hga hata)
                have ZA : Hid (OI wa ga fa (T'.length + 1) ca (nI (T' ++ [s]))) := by rw [Hid, ← nI_snoc]; exact oi_snoc oa
                have ZN : Hid (OI wa w1.heap.size 0 (nxL es x).length 1 (nxL es x)) := OSl.grown (OSl.below YN.out ((Below.refl _ _).alloc (Nat.le_refl _) _) YN.out.blk) hga (by have := N2.out; simp; omega)
                have Z7 : Hid (OI wa g7 f7 (O'.length + 1) c7 (nI (O'.take p ++ s :: O'.drop p))) := OSl.grown (OSl.below Y7.out ((Below.refl _ _).alloc (Nat.le_refl _) _) Y7.out.blk) hga (by have := YN7.out; simp; omega)
                have ZB : Hid (Below w.heap.size w wa) := below_grown (YB.out.alloc YS.out _) hga Q6.out (Nat.le_trans YS.out (by simp))
                have ZG : Hid (w.heap.size ≤ ga) := at_ge hata Q6.out (Nat.le_trans YS.out (by simp))
                have Z1 : Hid (g7 ≠ ga) := fun e => at_ne hata (fun e' => YN7.out e'.symm) (by have := Y7.out.blk; simp; omega) e.symm
                have Z2 : Hid (w1.heap.size ≠ ga) := fun e => at_ne hata (fun e' => N2.out e'.symm) (by have := YN.out.blk; simp; omega) e.symm
                have Zl : (O'.take p ++ s :: O'.drop p).length = O'.length + 1 := by have := KP2.out; simp; omega
                have Zm : (T' ++ [s]).length = T'.length + 1 := by simp
                have HZl : Hid ((O'.take p ++ s :: O'.drop p).length = O'.length + 1) := Zl
                have HZm : Hid ((T' ++ [s]).length = T'.length + 1) := Zm
                clear oa hga hata Zl Zm cz9
                go_wp2
                go_roundw
                case rel => exact ⟨j + 1, O'.take p ++ s :: O'.drop p, T' ++ [s], g7, f7, c7, ga, fa, ca, by omega, by go_num, by rw [HZl.out], by rw [HZm.out], PP.out, (by rcases KX.out with h | h; exact .inl h; exact .inr (ins_mem.2 (.inr h))), HM.out _ (fun _ => ins_mem.2 (.inl (by simp))) (fun z hz h0 => ins_mem.2 (.inr (KA.out z hz h0))), by have := KC.out; rw [HZl.out, HZm.out]; omega, by rw [HZl.out]; omega, by rw [HZl.out]; exact Z7.out, by rw [HZm.out]; exact ZA.out, ZN.out, Z1.out, Z2.out, YG.out, ZG.out, ZB.out⟩
                case measure => simp [intOf]; omega
            · have hzb : decide (0 ≤ z) = false := by simpa using hz0'
              have HZ0 : Hid (¬ 0 ≤ z) := hz0'
              clear hz0'
              go_wp2
              go_roundw
              case rel => exact ⟨j + 1, O', T', g5', f5', c5', g6', f6', c6', by omega, by go_num, rfl, rfl, KP.out, KX.out, HM.out O' (fun h => absurd h HZ0.out) KA.out, KC.out, hcnt2, K5.out, K6.out, KN.out, N1.out, N2.out, Q5.out, Q6.out, KB.out⟩
              case measure => simp [intOf]; omega
          · have HD : Hid (PInv es k O' T' (fun _ => False)) := KP.out.seen (fun i hi => by
              have := take_all (by omega) KA.out (i : Int) (src_nxL hi) (by omega)
              simpa using this)
            have hPl := KP.out.len
            have KC2 := KC.out
            go_wp2
            go_roundw
            case rel => exact ⟨O', T', g5', f5', c5', g6', f6', c6', rfl, rfl, HD.out, by omega, K5.out, K6.out, N1.out, Q5.out, Q6.out, KB.out⟩
            case measure => simp [lenOf]; omega
end Go.Proofs.Ytacjpebifacclaa
