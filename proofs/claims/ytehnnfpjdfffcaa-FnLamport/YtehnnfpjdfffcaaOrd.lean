/-
  The contract of the specification's Order.
-/
import Derived.Test.YtehnnfpjdfffcaaPin
namespace Go.Proofs.Ytehnnfpjdfffcaa
set_option linter.unusedSimpArgs false
set_option linter.unusedVariables false
open Go.RowKit Go.Sort

theorem oi_nI {w : World} {g off n cap : Nat} {A B : List Nat} (h : OSl w 1 g off n cap ((nI A).map (Value.int .i64) ++ (nI B).map (Value.int .i64))) : OI w g off n cap (nI (A ++ B)) := by
  unfold OI; rw [show nI (A ++ B) = nI A ++ nI B by simp [nI], List.map_append]; exact h
theorem oi_takeN {w : World} {g off n cap : Nat} {O : List Nat} (h : OI w g off n cap (nI O)) {k : Nat} (hk : k ≤ n) : OI w g off k cap (nI (O.take k)) := by
  have := oi_take h hk
  rwa [show (nI O).take k = nI (O.take k) by simp [nI]] at this

/-- The order of a trace's events as int64 numbers. -/
def IsOrd (es : List Ev) (len : Nat) (Z : List Int) : Prop := (okT es len = false ∧ Z = []) ∨ (okT es len = true ∧ ∃ O, IsOrder es len O ∧ Z = nI O)
theorem IsOrd.unique {es : List Ev} {len : Nat} {Z Z' : List Int} (h : IsOrd es len Z) (h' : IsOrd es len Z') : Z = Z' := by
  rcases h with ⟨a, rfl⟩ | ⟨a, O, hO, rfl⟩ <;> rcases h' with ⟨b, rfl⟩ | ⟨b, O', hO', rfl⟩
  · rfl
  · rw [a] at b; cases b
  · rw [a] at b; cases b
  · rw [hO.unique hO']

set_option maxRecDepth 100000 in
set_option maxHeartbeats 3200000 in
theorem specOrder_any (b off len cap : Nat) (es : List Ev) (w : World) (hc : EvsAt w b off len es) (hm : len ≤ maxLen) (hcap : len ≤ cap) :
    Calls Try.prog 34 #[.slice (some ⟨b, off, none⟩) len cap] w fun e w' => ∃ Z, IsOrd es len Z ∧ Ans w w' e Z := by
  have g0 : Grew w (w.alloc (.cells #[] 2)) := (Grew.refl _).alloc _
  have hT := specTok_any b off len cap es _ (hc.grew g0) hm hcap
  have o0 := oi_empty w 2
  cases ho : okT es len
  · rw [ho] at hT
    go_enter Try.func34, Try.ntmps34
    go_wp2_with fail
    refine hT.mono ?_
    rintro e w1 ⟨rfl, hg1⟩
    have HG : Hid (Grew w w1) := g0.trans hg1
    have O1 : Hid (OI w1 w.heap.size 0 0 0 []) := o0.below hg1.1 o0.blk
    clear hg1
    go_wp2
    go_ret
    exact ⟨[], .inl ⟨ho, rfl⟩, w.heap.size, 0, 0, rfl, Nat.le_refl _, O1.out, HG.out.1⟩
  · rw [ho] at hT
    have HOK : Hid (okT es len = true) := ho
    have h40 := (okT_all ho).1
    obtain ⟨i0, hi0, hz0, hz1, hz2⟩ := info_parts Try.info2
    clear ho
    go_enter Try.func34, Try.ntmps34
    go_wp2_with fail
    refine hT.mono ?_
    rintro e w1 ⟨rfl, hg1⟩
    have G1 : Grew w w1 := g0.trans hg1
    have O1 := o0.below hg1.1 o0.blk
    go_wp2_with fail
    refine (l2Stamps_any b off len cap es w1 (hc.grew G1) HOK.out).mono ?_
    rintro e w2 ⟨gs, fs, cs, rfl, hgs, hst, hb2⟩
    have B2 : Below w.heap.size w w2 := G1.1.trans (hb2.mono G1.1.size)
    have K2 : Hid (OI w2 w.heap.size 0 0 0 []) := O1.below hb2 O1.blk
    have KT : Hid (OI w2 gs fs (stL es len).length cs (stL es len)) := hst
    have KB : Hid (Below w.heap.size w w2) := B2
    have KN : Hid (¬ w.heap.size = gs) := by have := O1.blk; rw [Hid]; omega
    have KG : Hid (w.heap.size ≤ gs) := Nat.le_trans G1.1.size hgs
    clear hT o0 O1 hg1 G1 hgs hst hb2 B2
    go_wp2
    go_loopw [3, 5] (fun v x wr => ∃ (i : Nat) (O : List Nat) (g f c : Nat), i ≤ len ∧ x = .int .i64 i ∧ IsOrder es i O ∧ v = .slice (some ⟨g, f, none⟩) i c ∧ ¬ g = gs ∧ w.heap.size ≤ g ∧ OI wr g f i c (nI O) ∧ OI wr gs fs (stL es len).length cs (stL es len) ∧ Below w.heap.size w wr) (fun _ x _ => len - (intOf x).toNat)
    case atStart => exact ⟨0, [], w.heap.size, 0, 0, Nat.zero_le _, rfl, ⟨List.Perm.refl _, List.Pairwise.nil⟩, rfl, KN.out, Nat.le_refl _, K2.out, KT.out, KB.out⟩
    case round =>
      obtain ⟨i, O, g, f, c, hi, rfl, hO, rfl, hne, hgB, hown, hst, hbel⟩ := hrel
      have HO : Hid (IsOrder es i O) := hO
      have HOl : Hid (O.length = i) := hO.length
      have X0 : Hid (OI wr g f i c (nI O)) := hown
      have T0 : Hid (OI wr gs fs (stL es len).length cs (stL es len)) := hst
      have B0 : Hid (Below w.heap.size w wr) := hbel
      have NS : Hid (¬ g = gs) := hne
      have hic := hown.le
      clear hO hown hst hbel hne K2 KT KB KN
      by_cases hlt : i < len
      · have HC : Hid (EvsAt wr b off len es) := evs_below hc B0.out (Nat.le_refl _)
        have si := T0.out.cellAt (i := i) (by rw [stL_len]; exact hlt)
        rw [el_stL hlt] at si
        obtain ⟨ni, _, _⟩ := HC.out i hlt
        have hi1 : (i : Int) < ((stL es len).length : Int) := by rw [stL_len]; omega
        have hi2 : (i : Int) < (len : Int) := by omega
        have hi0' : (0 : Int) ≤ (i : Int) := by omega
        have hsl : (stL es len).length = len := stL_len es len
        have HSL : Hid ((stL es len).length = len) := hsl
        clear hsl
        go_wp2
        go_loopw [6] (fun x wx => ∃ k n : Nat, k ≤ i ∧ x = .int .i64 k ∧ (∀ j (hj : j < k), before es (O.getD j 0) i = true) ∧ wx = wr.drewN n) (fun x _ => i - (intOf x).toNat)
        case atStart => exact ⟨0, 0, Nat.zero_le _, rfl, fun j hj => by omega, rfl⟩
        case round =>
          obtain ⟨k, n, hk, rfl, hall, rfl⟩ := hrel
          have HA : Hid (∀ j (hj : j < k), before es (O.getD j 0) i = true) := hall
          clear hall
          have L1 : Hid (((nI (O.drop k)).map (Value.int .i64)).length = (i - k) * 1) := by simp [Hid, nI, HOl.out]
          have HIL : Hid (k + 1 + (i - k) = i + 1) := by rw [Hid]; omega
          have hkc : (k : Int) ≤ (c : Int) := by omega
          have hk0 : (0 : Int) ≤ (k : Int) := by omega
          have hki : (k : Int) ≤ (i : Int) := by omega
          by_cases hkl : k < i
          · have hkO : k < O.length := by rw [HOl.out]; exact hkl
            have hxi : O.getD k 0 < i := HO.out.lt (by simp [hkO])
            have ck := X0.out.cellAt hkl
            rw [nI_el hkO, show O[k] = O.getD k 0 by simp [hkO]] at ck
            have HPUT : Hid (before es (O.getD k 0) i = false → IsOrder es (i + 1) (O.take k ++ [i] ++ O.drop k)) := fun h => HO.out.put (by omega) (fun j hj => by have := HA.out j hj; rwa [show O.getD j 0 = O[j]'(by omega) by simp [show j < O.length by omega]] at this) (fun _ => h)
            have HNX : Hid (before es (O.getD k 0) i = true → ∀ j (hj : j < k + 1), before es (O.getD j 0) i = true) := fun h j hj => by
              rcases Nat.lt_succ_iff_lt_or_eq.1 hj with h' | h'
              · exact HA.out j h'
              · rw [h']; exact h
            generalize hx : O.getD k 0 = x at *
            clear hx
            have sx := T0.out.cellAt (i := x) (by rw [stL_len]; omega)
            rw [el_stL (by omega)] at sx
            obtain ⟨nx, _, _⟩ := HC.out x (by omega)
            have hx1 : (x : Int) < ((stL es len).length : Int) := by rw [HSL.out]; omega
            have hx2 : (x : Int) < (len : Int) := by omega
            have hx0 : (0 : Int) ≤ (x : Int) := by omega
            have hki' : (k : Int) < (i : Int) := by omega
            have HN9 : Hid (∀ X, OI X g f i c (nI O) → ∀ j u, ((nI (O.drop k)).map (Value.int .i64))[j]? = some u → X.cell? ((⟨g, f + k, none⟩ : Addr).add j) = some u) := fun X hX j u hu => news_drop hX j u (by rwa [show nI (O.drop k) = (nI O).drop k by simp [nI]] at hu)
            by_cases h1 : st es x < st es i
            · have HB : Hid (before es x i = true) := before_iff.2 (.inl h1)
              go_wp2_with fail
              go_quiet (fail)
              go_wp2
              go_roundw
              case rel => exact ⟨k + 1, _, by omega, by go_num, HNX.out HB.out, rfl⟩
              case measure => simp [intOf]; omega
            · have h1b : decide (st es x < st es i) = false := by simpa using h1
              by_cases h2 : st es x = st es i
              · have h2b : (st es x == st es i) = true := by simpa using h2
                by_cases h3 : (evAt es x).n < (evAt es i).n
                · have HB : Hid (before es x i = true) := before_iff.2 (.inr ⟨h2, h3⟩)
                  clear h1 h2
                  go_wp2_with fail
                  go_quiet (fail)
                  go_wp2
                  go_roundw
                  case rel => exact ⟨k + 1, _, by omega, by go_num, HNX.out HB.out, rfl⟩
                  case measure => simp [intOf]; omega
                · have h3b : decide ((evAt es x).n < (evAt es i).n) = false := by simpa using h3
                  have PUT : Hid (IsOrder es (i + 1) (O.take k ++ [i] ++ O.drop k)) := HPUT.out (by
                    cases hbf : before es x i with
                    | false => rfl
                    | true => rw [before_iff] at hbf; omega)
                  clear h1 h2 h3
                  go_wp2_with fail
                  go_quiet (fail)
                  generalize hwq : (wr.drewN n).drewN nq = wq
                  have XQ : Hid (OI wq g f i c (nI O)) := by rw [Hid, ← hwq]; exact (X0.out.drewN n).drewN nq
                  have TQ : Hid (OI wq gs fs (stL es len).length cs (stL es len)) := by rw [Hid, ← hwq]; exact (T0.out.drewN n).drewN nq
                  have BQ : Hid (Below w.heap.size w wq) := by rw [Hid, ← hwq]; exact belowN (n := nq) (belowN (n := n) B0.out)
                  have N0 : Hid (∀ o, ∀ j u, ((nI (O.drop k)).map (Value.int .i64))[j]? = some u → (wq.alloc o).cell? ((⟨g, f + k, none⟩ : Addr).add j) = some u) := fun o => HN9.out (wq.alloc o) (XQ.out.below ((Below.refl _ _).alloc (Nat.le_refl _) o) XQ.out.blk)
                  clear hwq 
                  go_wp2_with (first
                    | (at_builtin; refine wpList_append_os _ rfl _ _ _ rfl 2 i0 _ 1 8 Try.underlying24 hi0 hz0 hz1 hz2 rfl (by omega) g2 f2 (k + 1) c2 ((nI (O.take k ++ [i])).map (Value.int .i64)) rfl O2.out ⟨g1, f1, none⟩ (i - k) c1 ((nI (O.drop k)).map (Value.int .i64)) rfl L1.out N2.out (one_cells _) (by unfold maxLen; omega) (by omega) ?_; intro g3 f3 c3 w3 o3 hg3 hat3; have O3 : Hid (OI w3 g3 f3 (k + 1 + (i - k)) c3 (nI (O.take k ++ [i] ++ O.drop k))) := oi_nI o3; have B3 : Hid (Below w.heap.size w w3) := below_grown B2.out hg3 P2.out S2.out; have P3 : Hid (w.heap.size ≤ g3) := at_ge hat3 P2.out S2.out; have T3 : Hid (OI w3 gs fs (stL es len).length cs (stL es len)) := OSl.grown T2.out hg3 (by { have := NS2.out; simp; omega }); have NS3 : Hid (¬ g3 = gs) := at_ne hat3 NS2.out (Nat.ne_of_gt T2.out.blk); clear o3 hg3 hat3)
                    | (at_builtin; refine wpList_append_os _ rfl _ _ _ rfl 2 i0 _ 1 8 Try.underlying24 hi0 hz0 hz1 hz2 rfl (by omega) g f k c ((nI (O.take k)).map (Value.int .i64)) rfl (OSl.below (oi_takeN X1.out (by omega)) ((Below.refl _ _).alloc (Nat.le_refl _) _) X1.out.blk) ⟨w1.heap.size, 0, none⟩ 1 1 [.int .i64 (i : Int)] rfl rfl (World.news_of_block (cs := #[.int .i64 (i : Int)]) (t := 2) (fr := (0, 0)) (heap_alloc_new w1 _)) (by simp [Value.oneCell']) (by unfold maxLen; omega) (by omega) ?_; intro g2 f2 c2 w2 o2 hg2 hat2; have O2 : Hid (OI w2 g2 f2 (k + 1) c2 (nI (O.take k ++ [i]))) := by { rw [Hid, ← nI_snoc]; exact oi_snoc o2 }; have B2 : Hid (Below w.heap.size w w2) := below_grown (B1.out.alloc S1.out _) hg2 hgB (Nat.le_trans S1.out (by simp)); have S2 : Hid (w.heap.size ≤ w2.heap.size) := B2.out.size; have P2 : Hid (w.heap.size ≤ g2) := at_ge hat2 hgB (Nat.le_trans S1.out (by simp)); have E2 : Hid (OI w2 g1 f1 (i - k) c1 (nI (O.drop k))) := OSl.grown (OSl.below O1.out ((Below.refl _ _).alloc (Nat.le_refl _) _) O1.out.blk) hg2 (by { have := NG1.out; simp; omega }); have N2 : Hid (∀ j u, ((nI (O.drop k)).map (Value.int .i64))[j]? = some u → w2.cell? ((⟨g1, f1, none⟩ : Addr).add j) = some u) := news_drop0 E2.out; have T2 : Hid (OI w2 gs fs (stL es len).length cs (stL es len)) := OSl.grown (OSl.below T1.out ((Below.refl _ _).alloc (Nat.le_refl _) _) T1.out.blk) hg2 (by { have := NS.out; simp; omega }); have NS2 : Hid (¬ g2 = gs) := at_ne hat2 NS.out (Nat.ne_of_gt (Nat.lt_of_lt_of_le T1.out.blk (by simp))); clear o2 hg2 hat2)
                    | (at_builtin; refine wpList_append_os _ rfl _ _ _ rfl 2 i0 _ 1 8 Try.underlying24 hi0 hz0 hz1 hz2 rfl (by omega) wq.heap.size 0 0 0 [] rfl (oi_empty wq 2) ⟨g, f + k, none⟩ (i - k) (c - k) ((nI (O.drop k)).map (Value.int .i64)) rfl L1.out (N0.out _) (one_cells _) (by unfold maxLen; omega) (by omega) ?_; intro g1 f1 c1 w1 o1 hg1 hat1; have O1 : Hid (OI w1 g1 f1 (i - k) c1 (nI (O.drop k))) := oi_first o1; have b1 : Below wq.heap.size wq w1 := below_grown ((Below.refl _ _).alloc (Nat.le_refl _) _) hg1 (Nat.le_refl _) (by simp); have B1 : Hid (Below w.heap.size w w1) := BQ.out.trans (b1.mono BQ.out.size); have S1 : Hid (w.heap.size ≤ w1.heap.size) := B1.out.size; have X1 : Hid (OI w1 g f i c (nI O)) := XQ.out.below b1 XQ.out.blk; have T1 : Hid (OI w1 gs fs (stL es len).length cs (stL es len)) := TQ.out.below b1 TQ.out.blk; have NG1 : Hid (¬ g1 = g) := at_ne hat1 (Nat.ne_of_gt XQ.out.blk) (Nat.ne_of_gt (Nat.lt_of_lt_of_le XQ.out.blk (by simp))); clear o1 hg1 hat1 b1))
                  go_roundw
                  case rel => exact ⟨i + 1, O.take k ++ [i] ++ O.drop k, g3, f3, c3, by omega, by go_num, PUT.out, by rw [HIL.out], NS3.out, P3.out, by have h := O3.out; rw [HIL.out] at h; exact h, T3.out, B3.out⟩
                  case measure => simp [intOf]; omega
              · have h2b : (st es x == st es i) = false := by simpa using h2
                have PUT : Hid (IsOrder es (i + 1) (O.take k ++ [i] ++ O.drop k)) := HPUT.out (by
                  cases hbf : before es x i with
                  | false => rfl
                  | true => rw [before_iff] at hbf; omega)
                clear h1 h2
                go_wp2_with fail
                go_quiet (fail)
                generalize hwq : (wr.drewN n).drewN nq = wq
                have XQ : Hid (OI wq g f i c (nI O)) := by rw [Hid, ← hwq]; exact (X0.out.drewN n).drewN nq
                have TQ : Hid (OI wq gs fs (stL es len).length cs (stL es len)) := by rw [Hid, ← hwq]; exact (T0.out.drewN n).drewN nq
                have BQ : Hid (Below w.heap.size w wq) := by rw [Hid, ← hwq]; exact belowN (n := nq) (belowN (n := n) B0.out)
                have N0 : Hid (∀ o, ∀ j u, ((nI (O.drop k)).map (Value.int .i64))[j]? = some u → (wq.alloc o).cell? ((⟨g, f + k, none⟩ : Addr).add j) = some u) := fun o => HN9.out (wq.alloc o) (XQ.out.below ((Below.refl _ _).alloc (Nat.le_refl _) o) XQ.out.blk)
                clear hwq 
                go_wp2_with (first
                  | (at_builtin; refine wpList_append_os _ rfl _ _ _ rfl 2 i0 _ 1 8 Try.underlying24 hi0 hz0 hz1 hz2 rfl (by omega) g2 f2 (k + 1) c2 ((nI (O.take k ++ [i])).map (Value.int .i64)) rfl O2.out ⟨g1, f1, none⟩ (i - k) c1 ((nI (O.drop k)).map (Value.int .i64)) rfl L1.out N2.out (one_cells _) (by unfold maxLen; omega) (by omega) ?_; intro g3 f3 c3 w3 o3 hg3 hat3; have O3 : Hid (OI w3 g3 f3 (k + 1 + (i - k)) c3 (nI (O.take k ++ [i] ++ O.drop k))) := oi_nI o3; have B3 : Hid (Below w.heap.size w w3) := below_grown B2.out hg3 P2.out S2.out; have P3 : Hid (w.heap.size ≤ g3) := at_ge hat3 P2.out S2.out; have T3 : Hid (OI w3 gs fs (stL es len).length cs (stL es len)) := OSl.grown T2.out hg3 (by { have := NS2.out; simp; omega }); have NS3 : Hid (¬ g3 = gs) := at_ne hat3 NS2.out (Nat.ne_of_gt T2.out.blk); clear o3 hg3 hat3)
                  | (at_builtin; refine wpList_append_os _ rfl _ _ _ rfl 2 i0 _ 1 8 Try.underlying24 hi0 hz0 hz1 hz2 rfl (by omega) g f k c ((nI (O.take k)).map (Value.int .i64)) rfl (OSl.below (oi_takeN X1.out (by omega)) ((Below.refl _ _).alloc (Nat.le_refl _) _) X1.out.blk) ⟨w1.heap.size, 0, none⟩ 1 1 [.int .i64 (i : Int)] rfl rfl (World.news_of_block (cs := #[.int .i64 (i : Int)]) (t := 2) (fr := (0, 0)) (heap_alloc_new w1 _)) (by simp [Value.oneCell']) (by unfold maxLen; omega) (by omega) ?_; intro g2 f2 c2 w2 o2 hg2 hat2; have O2 : Hid (OI w2 g2 f2 (k + 1) c2 (nI (O.take k ++ [i]))) := by { rw [Hid, ← nI_snoc]; exact oi_snoc o2 }; have B2 : Hid (Below w.heap.size w w2) := below_grown (B1.out.alloc S1.out _) hg2 hgB (Nat.le_trans S1.out (by simp)); have S2 : Hid (w.heap.size ≤ w2.heap.size) := B2.out.size; have P2 : Hid (w.heap.size ≤ g2) := at_ge hat2 hgB (Nat.le_trans S1.out (by simp)); have E2 : Hid (OI w2 g1 f1 (i - k) c1 (nI (O.drop k))) := OSl.grown (OSl.below O1.out ((Below.refl _ _).alloc (Nat.le_refl _) _) O1.out.blk) hg2 (by { have := NG1.out; simp; omega }); have N2 : Hid (∀ j u, ((nI (O.drop k)).map (Value.int .i64))[j]? = some u → w2.cell? ((⟨g1, f1, none⟩ : Addr).add j) = some u) := news_drop0 E2.out; have T2 : Hid (OI w2 gs fs (stL es len).length cs (stL es len)) := OSl.grown (OSl.below T1.out ((Below.refl _ _).alloc (Nat.le_refl _) _) T1.out.blk) hg2 (by { have := NS.out; simp; omega }); have NS2 : Hid (¬ g2 = gs) := at_ne hat2 NS.out (Nat.ne_of_gt (Nat.lt_of_lt_of_le T1.out.blk (by simp))); clear o2 hg2 hat2)
                  | (at_builtin; refine wpList_append_os _ rfl _ _ _ rfl 2 i0 _ 1 8 Try.underlying24 hi0 hz0 hz1 hz2 rfl (by omega) wq.heap.size 0 0 0 [] rfl (oi_empty wq 2) ⟨g, f + k, none⟩ (i - k) (c - k) ((nI (O.drop k)).map (Value.int .i64)) rfl L1.out (N0.out _) (one_cells _) (by unfold maxLen; omega) (by omega) ?_; intro g1 f1 c1 w1 o1 hg1 hat1; have O1 : Hid (OI w1 g1 f1 (i - k) c1 (nI (O.drop k))) := oi_first o1; have b1 : Below wq.heap.size wq w1 := below_grown ((Below.refl _ _).alloc (Nat.le_refl _) _) hg1 (Nat.le_refl _) (by simp); have B1 : Hid (Below w.heap.size w w1) := BQ.out.trans (b1.mono BQ.out.size); have S1 : Hid (w.heap.size ≤ w1.heap.size) := B1.out.size; have X1 : Hid (OI w1 g f i c (nI O)) := XQ.out.below b1 XQ.out.blk; have T1 : Hid (OI w1 gs fs (stL es len).length cs (stL es len)) := TQ.out.below b1 TQ.out.blk; have NG1 : Hid (¬ g1 = g) := at_ne hat1 (Nat.ne_of_gt XQ.out.blk) (Nat.ne_of_gt (Nat.lt_of_lt_of_le XQ.out.blk (by simp))); clear o1 hg1 hat1 b1))
                go_roundw
                case rel => exact ⟨i + 1, O.take k ++ [i] ++ O.drop k, g3, f3, c3, by omega, by go_num, PUT.out, by rw [HIL.out], NS3.out, P3.out, by have h := O3.out; rw [HIL.out] at h; exact h, T3.out, B3.out⟩
                case measure => simp [intOf]; omega
          · have hke : k = i := by omega
            obtain ⟨o9, he9, hn9⟩ : ∃ o9, (if c = k then some (⟨g, f, none⟩ : Addr) else some ⟨g, f + k, none⟩) = some ⟨g, o9, none⟩ ∧ ∀ X, OI X g f i c (nI O) → ∀ j u, ((nI (O.drop k)).map (Value.int .i64))[j]? = some u → X.cell? ((⟨g, o9, none⟩ : Addr).add j) = some u := by
              have hd : O.drop k = [] := List.drop_eq_nil_of_le (by rw [HOl.out]; omega)
              by_cases h : c = k
              · exact ⟨f, by rw [if_pos h], fun X _ j u hu => by rw [hd] at hu; simp [nI] at hu⟩
              · exact ⟨f + k, by rw [if_neg h], fun X _ j u hu => by rw [hd] at hu; simp [nI] at hu⟩
            have HN9 : Hid (∀ X, OI X g f i c (nI O) → ∀ j u, ((nI (O.drop k)).map (Value.int .i64))[j]? = some u → X.cell? ((⟨g, o9, none⟩ : Addr).add j) = some u) := hn9
            have PUT : Hid (IsOrder es (i + 1) (O.take k ++ [i] ++ O.drop k)) := HO.out.put (by rw [HOl.out]; omega) (fun j hj => by have := HA.out j hj; rwa [show O.getD j 0 = O[j]'(by rw [HOl.out]; omega) by simp [show j < O.length by rw [HOl.out]; omega]] at this) (fun h => by rw [HOl.out] at h; omega)
            have hkb : decide ((k : Int) < (i : Int)) = false := by simp; omega
            have HKE : Hid (k = i) := hke
            clear hn9 hke
            go_wp2_with fail
            go_quiet (fail)
            clear hkl hkb
            generalize hwq : (wr.drewN n).drewN nq = wq
            have XQ : Hid (OI wq g f i c (nI O)) := by rw [Hid, ← hwq]; exact (X0.out.drewN n).drewN nq
            have TQ : Hid (OI wq gs fs (stL es len).length cs (stL es len)) := by rw [Hid, ← hwq]; exact (T0.out.drewN n).drewN nq
            have BQ : Hid (Below w.heap.size w wq) := by rw [Hid, ← hwq]; exact belowN (n := nq) (belowN (n := n) B0.out)
            have N0 : Hid (∀ o, ∀ j u, ((nI (O.drop k)).map (Value.int .i64))[j]? = some u → (wq.alloc o).cell? ((⟨g, o9, none⟩ : Addr).add j) = some u) := fun o => HN9.out (wq.alloc o) (XQ.out.below ((Below.refl _ _).alloc (Nat.le_refl _) o) XQ.out.blk)
            clear hwq 
            go_wp2_with (first
              | (at_builtin; refine wpList_append_os _ rfl _ _ _ rfl 2 i0 _ 1 8 Try.underlying24 hi0 hz0 hz1 hz2 rfl (by omega) g2 f2 (k + 1) c2 ((nI (O.take k ++ [i])).map (Value.int .i64)) rfl O2.out ⟨g1, f1, none⟩ (i - k) c1 ((nI (O.drop k)).map (Value.int .i64)) rfl L1.out N2.out (one_cells _) (by unfold maxLen; omega) (by omega) ?_; intro g3 f3 c3 w3 o3 hg3 hat3; have O3 : Hid (OI w3 g3 f3 (k + 1 + (i - k)) c3 (nI (O.take k ++ [i] ++ O.drop k))) := oi_nI o3; have B3 : Hid (Below w.heap.size w w3) := below_grown B2.out hg3 P2.out S2.out; have P3 : Hid (w.heap.size ≤ g3) := at_ge hat3 P2.out S2.out; have T3 : Hid (OI w3 gs fs (stL es len).length cs (stL es len)) := OSl.grown T2.out hg3 (by { have := NS2.out; simp; omega }); have NS3 : Hid (¬ g3 = gs) := at_ne hat3 NS2.out (Nat.ne_of_gt T2.out.blk); clear o3 hg3 hat3)
              | (at_builtin; refine wpList_append_os _ rfl _ _ _ rfl 2 i0 _ 1 8 Try.underlying24 hi0 hz0 hz1 hz2 rfl (by omega) g f k c ((nI (O.take k)).map (Value.int .i64)) rfl (OSl.below (oi_takeN X1.out (by omega)) ((Below.refl _ _).alloc (Nat.le_refl _) _) X1.out.blk) ⟨w1.heap.size, 0, none⟩ 1 1 [.int .i64 (i : Int)] rfl rfl (World.news_of_block (cs := #[.int .i64 (i : Int)]) (t := 2) (fr := (0, 0)) (heap_alloc_new w1 _)) (by simp [Value.oneCell']) (by unfold maxLen; omega) (by omega) ?_; intro g2 f2 c2 w2 o2 hg2 hat2; have O2 : Hid (OI w2 g2 f2 (k + 1) c2 (nI (O.take k ++ [i]))) := by { rw [Hid, ← nI_snoc]; exact oi_snoc o2 }; have B2 : Hid (Below w.heap.size w w2) := below_grown (B1.out.alloc S1.out _) hg2 hgB (Nat.le_trans S1.out (by simp)); have S2 : Hid (w.heap.size ≤ w2.heap.size) := B2.out.size; have P2 : Hid (w.heap.size ≤ g2) := at_ge hat2 hgB (Nat.le_trans S1.out (by simp)); have E2 : Hid (OI w2 g1 f1 (i - k) c1 (nI (O.drop k))) := OSl.grown (OSl.below O1.out ((Below.refl _ _).alloc (Nat.le_refl _) _) O1.out.blk) hg2 (by { have := NG1.out; simp; omega }); have N2 : Hid (∀ j u, ((nI (O.drop k)).map (Value.int .i64))[j]? = some u → w2.cell? ((⟨g1, f1, none⟩ : Addr).add j) = some u) := news_drop0 E2.out; have T2 : Hid (OI w2 gs fs (stL es len).length cs (stL es len)) := OSl.grown (OSl.below T1.out ((Below.refl _ _).alloc (Nat.le_refl _) _) T1.out.blk) hg2 (by { have := NS.out; simp; omega }); have NS2 : Hid (¬ g2 = gs) := at_ne hat2 NS.out (Nat.ne_of_gt (Nat.lt_of_lt_of_le T1.out.blk (by simp))); clear o2 hg2 hat2)
              | (at_builtin; refine wpList_append_os _ rfl _ _ _ rfl 2 i0 _ 1 8 Try.underlying24 hi0 hz0 hz1 hz2 rfl (by omega) wq.heap.size 0 0 0 [] rfl (oi_empty wq 2) ⟨g, o9, none⟩ (i - k) (c - k) ((nI (O.drop k)).map (Value.int .i64)) rfl L1.out (N0.out _) (one_cells _) (by unfold maxLen; omega) (by omega) ?_; intro g1 f1 c1 w1 o1 hg1 hat1; have O1 : Hid (OI w1 g1 f1 (i - k) c1 (nI (O.drop k))) := oi_first o1; have b1 : Below wq.heap.size wq w1 := below_grown ((Below.refl _ _).alloc (Nat.le_refl _) _) hg1 (Nat.le_refl _) (by simp); have B1 : Hid (Below w.heap.size w w1) := BQ.out.trans (b1.mono BQ.out.size); have S1 : Hid (w.heap.size ≤ w1.heap.size) := B1.out.size; have X1 : Hid (OI w1 g f i c (nI O)) := XQ.out.below b1 XQ.out.blk; have T1 : Hid (OI w1 gs fs (stL es len).length cs (stL es len)) := TQ.out.below b1 TQ.out.blk; have NG1 : Hid (¬ g1 = g) := at_ne hat1 (Nat.ne_of_gt XQ.out.blk) (Nat.ne_of_gt (Nat.lt_of_lt_of_le XQ.out.blk (by simp))); clear o1 hg1 hat1 b1))
            go_roundw
            case rel => exact ⟨i + 1, O.take k ++ [i] ++ O.drop k, g3, f3, c3, by omega, by go_num, PUT.out, by rw [HIL.out], NS3.out, P3.out, by have h := O3.out; rw [HIL.out] at h; exact h, T3.out, B3.out⟩
            case measure => simp [intOf]; omega
      · have hil : i = len := by omega
        subst hil
        go_wp2
        go_ret
        exact ⟨nI O, .inr ⟨HOK.out, O, HO.out, rfl⟩, ans_of (by rw [nI_len, HOl.out]) hgB X0.out B0.out⟩
end Go.Proofs.Ytehnnfpjdfffcaa
