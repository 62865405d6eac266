/-
  The contracts of the specification's l2Stamps and Stamps and of the program's Stamps.
-/
import Derived.Test.YtacogcfdolmfpaaSrc
namespace Go.Proofs.Ytacogcfdolmfpaa
set_option linter.unusedSimpArgs false
set_option linter.unusedVariables false
open Go.RowKit Go.Sort

theorem okT_all {es : List Ev} {len : Nat} (h : okT es len = true) : len ≤ 40 ∧ ∀ k, k < len → okE es k = true := by
  unfold okT at h
  simp only [Bool.and_eq_true, decide_eq_true_eq] at h
  exact ⟨h.1, allE_iff.1 h.2⟩
theorem okE_first {es : List Ev} {k : Nat} (h : okE es k = true) (hk : (evAt es k).k = 3) : firstS es (evAt es k).m k ≠ none := by
  intro hn
  unfold okE at h
  rw [if_neg (by omega), if_neg (by omega), if_pos hk, hn] at h
  simp at h
theorem el_stL {es : List Ev} {n i : Nat} (h : i < n) : el (stL es n) i = st es i := stL_get h
theorem fits_stL (es : List Ev) (n : Nat) (hn : n ≤ 1000000) : Fits (stL es n) := by
  intro x hx
  obtain ⟨i, hi, rfl⟩ := List.getElem_of_mem hx
  rw [stL_len] at hi
  have h1 := st_pos es i
  have h2 := st_le es i
  have h3 := stL_get (es := es) hi
  have : (stL es n).getD i 0 = (stL es n)[i]'(by rw [stL_len]; exact hi) := by simp [stL_len, hi]
  rw [this] at h3
  omega
theorem stL_succ (es : List Ev) (k : Nat) : stL es (k + 1) = stL es k ++ [st es k] := by
  have : st es k = (src es k).foldl (fun m i => max m ((stL es k).getD i 0)) 0 + 1 := by
    have hl : (stL es k).length = k := stL_len es k
    show (stL es k ++ [(src es k).foldl (fun m i => max m ((stL es k).getD i 0)) 0 + 1]).getD k 0 = _
    rw [List.getD_eq_getElem?_getD, List.getElem?_append_right (by omega), hl, Nat.sub_self]
    rfl
  rw [this]; rfl

/-- How far the list of numbers has come. -/
def Built (w wr : World) (v : Value) (k : Nat) (Z : List Int) : Prop := ∃ g off c, v = .slice (some ⟨g, off, none⟩) k c ∧ w.heap.size ≤ g ∧ OI wr g off k c Z ∧ Below w.heap.size w wr
theorem oi_snoc {w : World} {g off n cap : Nat} {zs : List Int} {y : Int} (h : OSl w 1 g off (n + 1) cap (zs.map (Value.int .i64) ++ [.int .i64 y])) : OI w g off (n + 1) cap (zs ++ [y]) := by
  unfold OI; rw [List.map_append]; exact h

def stOf (es : List Ev) : Option Nat → Option Nat → Int
  | none, none => 0
  | some i, none => st es i
  | none, some j => max 0 (st es j)
  | some i, some j => max (st es i) (st es j)
theorem st_cases {es : List Ev} {k : Nat} {l s : Option Nat} (hl : lastB es (evAt es k).n k = l) (hs : (if (evAt es k).k = 3 then firstS es (evAt es k).m k else none) = s) :
    st es k = stOf es l s + 1 := by
  rw [st_eq, src, hl]
  congr 1
  have hsr : (if (evAt es k).k = 3 then (firstS es (evAt es k).m k).toList else []) = s.toList := by
    rw [← hs]; split <;> rfl
  rw [hsr]
  cases l with
  | none => cases s <;> rfl
  | some i =>
    have := st_pos es i
    cases s with
    | none => simp [stOf]; omega
    | some j => simp [stOf]; omega

set_option maxRecDepth 100000 in
set_option maxHeartbeats 1600000 in
theorem l2Stamps_any (b off len cap : Nat) (es : List Ev) (w : World) (hc : EvsAt w b off len es) (hok : okT es len = true) :
    Calls Try.prog 92 #[.slice (some ⟨b, off, none⟩) len cap] w fun e w' => Ans w w' e (stL es len) := by
  obtain ⟨i0, hi0, hz0, hz1, hz2⟩ := info_parts Try.info2
  obtain ⟨h40, hall⟩ := okT_all hok
  have HALL : Hid (∀ k, k < len → okE es k = true) := hall
  have hlm : len ≤ maxLen := by unfold maxLen; omega
  have hb0 : Below w.heap.size w (w.alloc (.cells #[] 2)) := (Below.refl _ _).alloc (Nat.le_refl _) _
  clear hall hok
  go_enter Try.func92, Try.ntmps92
  go_wp2
  go_loopw [3, 4] (fun v i wr => ∃ k : Nat, k ≤ len ∧ i = .int .i64 k ∧ Built w wr v k (stL es k)) (fun _ i _ => len - (intOf i).toNat)
  case atStart => exact ⟨0, Nat.zero_le _, rfl, w.heap.size, 0, 0, rfl, Nat.le_refl _, oi_empty w 2, hb0⟩
  case round =>
    obtain ⟨k, hk, rfl, g, off', c, rfl, hgB, hown, hbel⟩ := hrel
    have HO : Hid (OI wr g off' k c (stL es k)) := hown
    have HB : Hid (Below w.heap.size w wr) := hbel
    by_cases hlt : k < len
    · have HC : Hid (EvsAt wr b off len es) := fun i hi => by
        obtain ⟨x0, x1, x2⟩ := hc i hi
        exact ⟨(hbel.cell (World.block_lt_of_cell? _ _ x0)).trans x0, (hbel.cell (World.block_lt_of_cell? _ _ x1)).trans x1, (hbel.cell (World.block_lt_of_cell? _ _ x2)).trans x2⟩
      obtain ⟨c0, c1, c2⟩ := HC.out k hlt
      have hL := l2Last_any b off len cap k es wr HC.out hlm hlt
      have hk40 : k < 40 := by omega
      clear hown hbel
      cases hl : lastB es (evAt es k).n k with
      | none =>
        rw [hl] at hL
        simp only [ixI] at hL
        by_cases hk3 : (evAt es k).k = 3
        · obtain ⟨s, hs⟩ := Option.ne_none_iff_exists'.1 (okE_first (HALL.out k hlt) hk3)
          have hsl := (firstS_some hs).1
          have hS := fun (X : World) (hX : EvsAt X b off len es) => l2Send_any b off len cap (evAt es k).m es X hX hlm
          rw [firstS_mono hs len (by omega)] at hS
          simp only [ixI] at hS
          have HST : Hid (st es k = max 0 (st es s) + 1) := st_cases (l := none) (s := some s) hl (by rw [if_pos hk3]; exact hs)
          have hcs := HO.out.cellAt hsl
          rw [el_stL hsl] at hcs
          have hs1 : (s : Int) < (k : Int) := by omega
          have hs0 : (0 : Int) ≤ (s : Int) := by omega
          have hp1 := st_pos es s
          have hp2 := st_le es s
          have hbd : max 0 (st es s) + 1 ≤ 9223372036854775807 := by omega
          have hbd0 : -9223372036854775808 ≤ max 0 (st es s) + 1 := by omega
          clear hl hs
          go_wp2_with fail
          refine hL.mono ?_
          rintro e w1 ⟨rfl, n1, rfl⟩
          go_wp2_with fail
          refine (hS _ (HC.out.drewN n1)).mono ?_
          rintro e w1' ⟨rfl, rfl⟩
          go_wp2_with fail
          refine (l1Max_any _ _ _).mono ?_
          rintro e w1' ⟨rfl, hw1⟩
          have O1 := HO.out.drewN n1
          have B1 := belowN (n := n1) HB.out
          rw [← hw1] at O1 B1
          clear hw1 hcs c0 c1 c2
          go_wp2_with (at_builtin; refine wpList_append_os _ rfl _ _ _ rfl 2 i0 _ 1 8 Try.underlying24 hi0 hz0 hz1 hz2 rfl (by omega) g off' k c ((stL es k).map (Value.int .i64)) rfl (OSl.below O1 ((Below.refl _ _).alloc (Nat.le_refl _) _) O1.blk) ⟨w1'.heap.size, 0, none⟩ 1 1 [.int .i64 (max 0 (st es s) + 1)] rfl rfl (World.news_of_block (cs := #[.int .i64 (max 0 (st es s) + 1)]) (t := 2) (fr := (0, 0)) (heap_alloc_new w1' _)) (by simp [Value.oneCell']) (by unfold maxLen; omega) (by omega) ?_; intro g2 off2 cap2 w2 ho2 hg2 hat2)
          have R : Hid (Built w w2 (.slice (some ⟨g2, off2, none⟩) (k + 1) cap2) (k + 1) (stL es (k + 1))) := by
            refine ⟨g2, off2, cap2, rfl, ?_, ?_, below_grown (B1.alloc B1.size _) hg2 hgB (by have := B1.size; simp; omega)⟩
            · rcases hat2 with h | h
              · rw [h]; exact hgB
              · rw [h]; have := B1.size; simp; omega
            · rw [stL_succ, HST.out]; exact oi_snoc ho2
          clear ho2 hg2 hat2
          go_wp2
          go_roundw
          case rel => exact ⟨k + 1, by omega, by go_num, R.out⟩
          case measure => simp [intOf]; omega
        · have hk3b : ((evAt es k).k == 3) = false := by simpa using hk3
          have HST : Hid (st es k = 0 + 1) := st_cases (l := none) (s := none) hl (by rw [if_neg hk3])
          clear hl hk3
          go_wp2_with fail
          refine hL.mono ?_
          rintro e w1 ⟨rfl, n1, hw1⟩
          have O1 := HO.out.drewN n1
          have B1 := belowN (n := n1) HB.out
          rw [← hw1] at O1 B1
          have d1 : w1.cell? ⟨b, off + k * 3 + 1, none⟩ = some (.int .i64 (evAt es k).k) := by rw [hw1]; exact c1
          clear hw1
          go_wp2_with (at_builtin; refine wpList_append_os _ rfl _ _ _ rfl 2 i0 _ 1 8 Try.underlying24 hi0 hz0 hz1 hz2 rfl (by omega) g off' k c ((stL es k).map (Value.int .i64)) rfl (OSl.below O1 ((Below.refl _ _).alloc (Nat.le_refl _) _) O1.blk) ⟨w1.heap.size, 0, none⟩ 1 1 [.int .i64 (1)] rfl rfl (World.news_of_block (cs := #[.int .i64 (1)]) (t := 2) (fr := (0, 0)) (heap_alloc_new w1 _)) (by simp [Value.oneCell']) (by unfold maxLen; omega) (by omega) ?_; intro g2 off2 cap2 w2 ho2 hg2 hat2)
          have R : Hid (Built w w2 (.slice (some ⟨g2, off2, none⟩) (k + 1) cap2) (k + 1) (stL es (k + 1))) := by
            refine ⟨g2, off2, cap2, rfl, ?_, ?_, below_grown (B1.alloc B1.size _) hg2 hgB (by have := B1.size; simp; omega)⟩
            · rcases hat2 with h | h
              · rw [h]; exact hgB
              · rw [h]; have := B1.size; simp; omega
            · rw [stL_succ, HST.out]; exact oi_snoc ho2
          clear ho2 hg2 hat2
          go_wp2
          go_roundw
          case rel => exact ⟨k + 1, by omega, by go_num, R.out⟩
          case measure => simp [intOf]; omega
      | some l =>
        rw [hl] at hL
        simp only [ixI] at hL
        have hll := (lastB_some hl).1
        have hcl := HO.out.cellAt hll
        rw [el_stL hll] at hcl
        have hl1 : (l : Int) < (k : Int) := by omega
        have hl0 : (0 : Int) ≤ (l : Int) := by omega
        have hq1 := st_pos es l
        have hq2 := st_le es l
        by_cases hk3 : (evAt es k).k = 3
        · obtain ⟨s, hs⟩ := Option.ne_none_iff_exists'.1 (okE_first (HALL.out k hlt) hk3)
          have hsl := (firstS_some hs).1
          have hS := fun (X : World) (hX : EvsAt X b off len es) => l2Send_any b off len cap (evAt es k).m es X hX hlm
          rw [firstS_mono hs len (by omega)] at hS
          simp only [ixI] at hS
          have HST : Hid (st es k = max (st es l) (st es s) + 1) := st_cases (l := some l) (s := some s) hl (by rw [if_pos hk3]; exact hs)
          have hcs := HO.out.cellAt hsl
          rw [el_stL hsl] at hcs
          have hs1 : (s : Int) < (k : Int) := by omega
          have hs0 : (0 : Int) ≤ (s : Int) := by omega
          have hp1 := st_pos es s
          have hp2 := st_le es s
          have hbd : max (st es l) (st es s) + 1 ≤ 9223372036854775807 := by omega
          have hbd0 : -9223372036854775808 ≤ max (st es l) (st es s) + 1 := by omega
          clear hl hs
          go_wp2_with fail
          refine hL.mono ?_
          rintro e w1 ⟨rfl, n1, rfl⟩
          go_wp2_with fail
          refine (hS _ (HC.out.drewN n1)).mono ?_
          rintro e w1' ⟨rfl, rfl⟩
          go_wp2_with fail
          refine (l1Max_any _ _ _).mono ?_
          rintro e w1' ⟨rfl, hw1⟩
          have O1 := HO.out.drewN n1
          have B1 := belowN (n := n1) HB.out
          rw [← hw1] at O1 B1
          clear hw1 hcs hcl c0 c1 c2
          go_wp2_with (at_builtin; refine wpList_append_os _ rfl _ _ _ rfl 2 i0 _ 1 8 Try.underlying24 hi0 hz0 hz1 hz2 rfl (by omega) g off' k c ((stL es k).map (Value.int .i64)) rfl (OSl.below O1 ((Below.refl _ _).alloc (Nat.le_refl _) _) O1.blk) ⟨w1'.heap.size, 0, none⟩ 1 1 [.int .i64 (max (st es l) (st es s) + 1)] rfl rfl (World.news_of_block (cs := #[.int .i64 (max (st es l) (st es s) + 1)]) (t := 2) (fr := (0, 0)) (heap_alloc_new w1' _)) (by simp [Value.oneCell']) (by unfold maxLen; omega) (by omega) ?_; intro g2 off2 cap2 w2 ho2 hg2 hat2)
          have R : Hid (Built w w2 (.slice (some ⟨g2, off2, none⟩) (k + 1) cap2) (k + 1) (stL es (k + 1))) := by
            refine ⟨g2, off2, cap2, rfl, ?_, ?_, below_grown (B1.alloc B1.size _) hg2 hgB (by have := B1.size; simp; omega)⟩
            · rcases hat2 with h | h
              · rw [h]; exact hgB
              · rw [h]; have := B1.size; simp; omega
            · rw [stL_succ, HST.out]; exact oi_snoc ho2
          clear ho2 hg2 hat2
          go_wp2
          go_roundw
          case rel => exact ⟨k + 1, by omega, by go_num, R.out⟩
          case measure => simp [intOf]; omega
        · have hk3b : ((evAt es k).k == 3) = false := by simpa using hk3
          have HST : Hid (st es k = st es l + 1) := st_cases (l := some l) (s := none) hl (by rw [if_neg hk3])
          have hbd : st es l + 1 ≤ 9223372036854775807 := by omega
          clear hl hk3
          go_wp2_with fail
          refine hL.mono ?_
          rintro e w1 ⟨rfl, n1, hw1⟩
          have O1 := HO.out.drewN n1
          have B1 := belowN (n := n1) HB.out
          rw [← hw1] at O1 B1
          have d1 : w1.cell? ⟨b, off + k * 3 + 1, none⟩ = some (.int .i64 (evAt es k).k) := by rw [hw1]; exact c1
          have d2 : w1.cell? ⟨g, off' + l, none⟩ = some (.int .i64 (st es l)) := by rw [hw1]; exact hcl
          clear hw1
          go_wp2_with (at_builtin; refine wpList_append_os _ rfl _ _ _ rfl 2 i0 _ 1 8 Try.underlying24 hi0 hz0 hz1 hz2 rfl (by omega) g off' k c ((stL es k).map (Value.int .i64)) rfl (OSl.below O1 ((Below.refl _ _).alloc (Nat.le_refl _) _) O1.blk) ⟨w1.heap.size, 0, none⟩ 1 1 [.int .i64 (st es l + 1)] rfl rfl (World.news_of_block (cs := #[.int .i64 (st es l + 1)]) (t := 2) (fr := (0, 0)) (heap_alloc_new w1 _)) (by simp [Value.oneCell']) (by unfold maxLen; omega) (by omega) ?_; intro g2 off2 cap2 w2 ho2 hg2 hat2)
          have R : Hid (Built w w2 (.slice (some ⟨g2, off2, none⟩) (k + 1) cap2) (k + 1) (stL es (k + 1))) := by
            refine ⟨g2, off2, cap2, rfl, ?_, ?_, below_grown (B1.alloc B1.size _) hg2 hgB (by have := B1.size; simp; omega)⟩
            · rcases hat2 with h | h
              · rw [h]; exact hgB
              · rw [h]; have := B1.size; simp; omega
            · rw [stL_succ, HST.out]; exact oi_snoc ho2
          clear ho2 hg2 hat2
          go_wp2
          go_roundw
          case rel => exact ⟨k + 1, by omega, by go_num, R.out⟩
          case measure => simp [intOf]; omega
    · have hkl : k = len := by omega
      subst hkl
      clear hown hbel
      go_wp2
      go_ret
      refine ⟨g, off', c, by rw [stL_len]; rfl, hgB, by rw [stL_len]; exact HO.out, HB.out⟩

/-- The stamps of a trace, nothing of what is none. -/
def stT (es : List Ev) (len : Nat) : List Int := if okT es len = true then stL es len else []

set_option maxRecDepth 100000 in
set_option maxHeartbeats 1600000 in
theorem specStamps_any (b off len cap : Nat) (es : List Ev) (w : World) (hc : EvsAt w b off len es) (hm : len ≤ maxLen) (hcap : len ≤ cap) :
    Calls Try.prog 33 #[.slice (some ⟨b, off, none⟩) len cap] w fun e w' => Ans w w' e (stT es len) := by
  have hT := specTok_any b off len cap es w hc hm hcap
  cases ho : okT es len
  · rw [ho] at hT
    have HZ : Hid (stT es len = []) := by rw [Hid, stT, ho]; rfl
    go_enter Try.func33, Try.ntmps33
    go_wp2_with fail
    refine hT.mono ?_
    rintro e w1 ⟨rfl, hg1⟩
    have HG : Hid (Grew w w1) := hg1
    clear hg1
    go_wp2
    go_ret
    rw [HZ.out]
    exact ⟨w1.heap.size, 0, 0, rfl, HG.out.1.size, oi_empty w1 2, (HG.out.alloc _).1⟩
  · rw [ho] at hT
    have HZ : Hid (stT es len = stL es len) := by rw [Hid, stT, ho]; rfl
    go_enter Try.func33, Try.ntmps33
    go_wp2_with fail
    refine hT.mono ?_
    rintro e w1 ⟨rfl, hg1⟩
    have hA := l2Stamps_any b off len cap es w1 (hc.grew hg1) ho
    have HG : Hid (Grew w w1) := hg1
    clear hg1
    go_wp2_with fail
    refine hA.mono ?_
    rintro e w2 ⟨g, off', c, rfl, h1, h2, h3⟩
    have H1 : Hid (w1.heap.size ≤ g) := h1
    have H2 : Hid (OI w2 g off' (stL es len).length c (stL es len)) := h2
    have H3 : Hid (Below w1.heap.size w1 w2) := h3
    clear h1 h2 h3
    go_wp2
    go_ret
    rw [HZ.out]
    exact ⟨g, off', c, rfl, Nat.le_trans HG.out.1.size H1.out, H2.out, HG.out.1.trans (H3.out.mono HG.out.1.size)⟩

/-- The row as it is being filled: stamps ahead of k, v at k, 0 behind. -/
def stP (es : List Ev) (len k : Nat) (v : Int) : List Int := (List.range len).map (fun j => if j < k then st es j else if j = k then v else 0)
theorem stP_len (es : List Ev) (len k : Nat) (v : Int) : (stP es len k v).length = len := by simp [stP]
theorem stP_set (es : List Ev) (len k : Nat) (v v' : Int) : (stP es len k v).set k v' = stP es len k v' := by
  refine List.ext_getElem (by simp [stP]) (fun i h1 h2 => ?_)
  rw [List.getElem_set]
  simp only [stP, List.getElem_map, List.getElem_range]
  by_cases e : k = i
  · subst e; simp
  · rw [if_neg e]
    by_cases hlt : i < k
    · rw [if_pos hlt, if_pos hlt]
    · rw [if_neg hlt, if_neg hlt, if_neg (by omega), if_neg (by omega)]
theorem stP_next (es : List Ev) (len k : Nat) : stP es len k (st es k) = stP es len (k + 1) 0 := by
  refine List.ext_getElem (by simp [stP]) (fun i h1 h2 => ?_)
  simp only [stP, List.getElem_map, List.getElem_range]
  by_cases hlt : i < k
  · rw [if_pos hlt, if_pos (by omega)]
  · rw [if_neg hlt]
    by_cases e : i = k
    · subst e; rw [if_pos rfl, if_pos (by omega)]
    · rw [if_neg e, if_neg (by omega)]; split <;> rfl
theorem stP_done (es : List Ev) (len : Nat) : stP es len len 0 = stL es len := by
  refine List.ext_getElem (by rw [stP_len, stL_len]) (fun i h1 h2 => ?_)
  rw [stP_len] at h1
  have h3 := stL_get (es := es) h1
  have : (stL es len).getD i 0 = (stL es len)[i]'h2 := by simp [stL_len, h1]
  rw [← this, h3]
  simp [stP, h1]
theorem stP_el {es : List Ev} {len k i : Nat} {v : Int} (hi : i < k) (hk : k ≤ len) : el (stP es len k v) i = st es i := by
  simp [el, stP, show i < len by omega, hi]
theorem stP_at {es : List Ev} {len k : Nat} {v : Int} (hk : k < len) : el (stP es len k v) k = v := by
  simp [el, stP, hk]
/-- The greatest stamp of the first j sources. -/
def mxs (es : List Ev) (k j : Nat) : Int := ((src es k).take j).foldl (fun m i => max m (st es i)) 0
theorem mxs_succ {es : List Ev} {k j : Nat} (hj : j < (src es k).length) : mxs es k (j + 1) = max (mxs es k j) (st es (src es k)[j]) := by
  unfold mxs
  rw [List.take_succ_eq_append_getElem hj, List.foldl_append]; rfl
theorem mxs_done {es : List Ev} {k j : Nat} (hj : (src es k).length ≤ j) : mxs es k j + 1 = st es k := by
  unfold mxs; rw [List.take_of_length_le hj, st_eq]
theorem mxs_bound (es : List Ev) (k j : Nat) : 0 ≤ mxs es k j ∧ mxs es k j ≤ k := by
  unfold mxs
  refine ⟨(foldl_max_ge (st es) _ 0).1, ?_⟩
  have : ∀ (l : List Nat) (m : Int), m ≤ k → (∀ i ∈ l, i < k) → l.foldl (fun m i => max m (st es i)) m ≤ k := by
    intro l
    induction l with
    | nil => intro m hm _; simpa using hm
    | cons x l ih =>
      intro m hm hl
      simp only [List.foldl_cons]
      have h1 := st_le es x
      have h2 := hl x (by simp)
      exact ih _ (by omega) (fun i hi => hl i (by simp [hi]))
  exact this _ 0 (by omega) (fun i hi => src_lt (List.mem_of_mem_take hi))
theorem srcI_len (es : List Ev) (k : Nat) : (srcI es k).length = (src es k).length := by simp [srcI]
theorem srcI_el {es : List Ev} {k j : Nat} (hj : j < (src es k).length) : el (srcI es k) j = (((src es k)[j] : Nat) : Int) := by simp [srcI, el, hj]
theorem oi_row {w : World} {b : Nat} {xs : List Int} (h : RowOf w b xs) (hm : xs.length ≤ maxLen) : OI w b 0 xs.length xs.length xs := OI.own (h.own hm)
end Go.Proofs.Ytacogcfdolmfpaa
