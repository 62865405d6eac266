/-
  Marks in a slice that lies anywhere; the contracts of the program's lastOf, isNumberOf and sources.
-/
import Derived.Test.YtacogcfdolmfpaaLawTok
namespace Go.Proofs.Ytacogcfdolmfpaa
set_option linter.unusedSimpArgs false
set_option linter.unusedVariables false
open Go.RowKit Go.Sort

theorem OI.set {w : World} {g off n cap : Nat} {zs : List Int} (h : OI w g off n cap zs) {i : Nat} (hi : i < n) (y : Int) : OI (w.setCell ⟨g, off + i, none⟩ (.int .i64 y)) g off n cap (zs.set i y) := by
  have hl := h.length
  have hc := h.cellAt hi
  refine ⟨by simp [hl], h.le, h.max, by simp [World.setCell]; exact h.blk, fun j hj => ?_, fun j hj => ?_, fun j hj => by rw [World.frozen?_setCell]; exact h.free j hj⟩
  · by_cases e : i = j
    · subst e
      rw [World.cell?_setCell_same _ _ _ hc]
      simp [show i < zs.length by omega]
    · rw [World.cell?_setCell_other _ _ _ _ (by simp [e]), h.cell j hj]
      simp [e]
  · by_cases e : i = j
    · subst e
      rw [World.cell?_setCell_same _ _ _ hc]; rfl
    · rw [World.cell?_setCell_other _ _ _ _ (by simp [e])]; exact h.some j hj
theorem OI.touch {w w' : World} {g g' off n cap : Nat} {zs : List Int} (h : OI w g off n cap zs) (ht : Touch g' w w') (hne : g ≠ g') : OI w' g off n cap zs :=
  OSl.of_block h (ht.block g hne) (by rw [ht.size]; exact h.blk)

set_option maxHeartbeats 400000 in
theorem markO_any (g off cap k0 n : Nat) (q : Int) (zs : List Int) (w : World) (ho : OI w g off n cap zs) (hq : q = (k0 : Int)) (hk : k0 ≤ 10000000) (hn : n ≤ 10000000) :
    Calls Try.prog 63 #[.slice (some ⟨g, off, none⟩) n cap, .int .i64 q] w fun e w' => e = .returned (.int .i64 (q + (n : Int))) ∧ OI w' g off n cap (marks n k0) ∧ Touch g w w' := by
  subst hq
  have hzl := ho.length
  subst hzl
  go_enter Try.func63, Try.ntmps63
  go_wp2
  go_loopw [1, 5] (fun q i wr => ∃ j : Nat, j ≤ zs.length ∧ i = .int .i64 j ∧ q = .int .i64 ((k0 + j : Nat) : Int) ∧ OI wr g off zs.length cap (mk zs k0 j) ∧ Touch g w wr) (fun _ i _ => zs.length - (intOf i).toNat)
  case atStart => exact ⟨0, Nat.zero_le _, rfl, rfl, by rw [mk_zero]; exact ho, Touch.refl _ _⟩
  case round =>
    obtain ⟨j, hj, rfl, rfl, hown, ht⟩ := hrel
    have HO : Hid (OI wr g off zs.length cap (mk zs k0 j)) := hown
    have HT : Hid (Touch g w wr) := ht
    clear hown ht ho
    by_cases hlt : j < zs.length
    · have hc := HO.out.cellAt hlt
      have hf := HO.out.free j (by have := HO.out.le; omega)
      have hi1 : (j : Int) < (zs.length : Int) := by omega
      go_wp2
      go_roundw
      case rel => exact ⟨j + 1, by omega, by go_num, by go_num, by rw [← mk_step]; exact HO.out.set hlt _, HT.out.set _ _⟩
      case measure => simp [intOf]; omega
    · have hjl : j = zs.length := by omega
      subst hjl
      go_wp2
      go_ret
      exact ⟨ret_int (by omega), by rw [← mk_done]; exact HO.out, HT.out⟩

set_option maxHeartbeats 400000 in
theorem heldO_any (g off cap k0 n : Nat) (q : Int) (w : World) (ho : OI w g off n cap (marks n k0)) (hq : q = (k0 : Int)) (hk : k0 ≤ 10000000) (hn : n ≤ 10000000) :
    Calls Try.prog 64 #[.slice (some ⟨g, off, none⟩) n cap, .int .i64 q] w fun e w' => e = .returned (.int .i64 (q + (n : Int))) ∧ w' = w := by
  subst hq
  go_enter Try.func64, Try.ntmps64
  go_wp2
  go_loop [1, 5] (fun q i => ∃ j : Nat, j ≤ n ∧ i = .int .i64 j ∧ q = .int .i64 ((k0 + j : Nat) : Int)) (fun _ i => n - (intOf i).toNat)
  case atStart => exact ⟨0, Nat.zero_le _, rfl, rfl⟩
  case round =>
    obtain ⟨j, hj, rfl, rfl⟩ := hrel
    by_cases hlt : j < n
    · have hc := ho.cellAt hlt
      rw [marks_el hlt] at hc
      have hi1 : (j : Int) < (n : Int) := by omega
      go_wp2
      go_round
      case rel => exact ⟨j + 1, by omega, by go_num, by go_num⟩
      case measure => simp [intOf]; omega
    · have hjl : j = n := by omega
      subst hjl
      go_wp2
      go_ret
      exact ⟨ret_int (by omega), rfl⟩

set_option maxHeartbeats 400000 in
theorem lastOf_any (b off len cap : Nat) (n : Int) (es : List Ev) (w : World) (hc : EvsAt w b off len es) (hm : len ≤ maxLen) :
    Calls Try.prog 110 #[.slice (some ⟨b, off, none⟩) len cap, .int .i64 n] w fun e w' => e = .returned (.int .i64 (ixI (lastB es n len))) ∧ w' = w := by
  unfold maxLen at hm
  go_enter Try.func110, Try.ntmps110
  go_wp2
  go_loop [5] (fun i => ∃ j : Nat, j ≤ len ∧ i = .int .i64 ((j : Int) - 1) ∧ lastB es n len = lastB es n j) (fun i => (intOf i + 1).toNat)
  case atStart => exact ⟨len, Nat.le_refl _, by go_num, rfl⟩
  case round =>
    obtain ⟨j, hj, rfl, he⟩ := hrel
    have HE : Hid (lastB es n len = lastB es n j) := he
    clear he
    cases j with
    | zero =>
      go_wp2
      go_ret
      exact ⟨ret_int (by rw [HE.out]; rfl), rfl⟩
    | succ j =>
      obtain ⟨c0, _, _⟩ := hc j (by omega)
      have ej : (((j + 1 : Nat) : Int) - 1) = (j : Int) := by omega
      rw [ej]
      have hj1 : (j : Int) < (len : Int) := by omega
      have hj0 : (0 : Int) ≤ (j : Int) := by omega
      by_cases hn : (evAt es j).n = n
      · have HF : Hid (lastB es n len = some j) := by
          rw [Hid, HE.out]; simp only [lastB]; rw [if_pos hn]
        have hb : ((evAt es j).n == n) = true := by simpa using hn
        clear hn
        go_wp2
        go_ret
        exact ⟨ret_int (by rw [HF.out]; rfl), rfl⟩
      · have HF : Hid (lastB es n len = lastB es n j) := by
          rw [Hid, HE.out]; simp only [lastB]; rw [if_neg hn]
        have hb : ((evAt es j).n == n) = false := by simpa using hn
        clear hn
        go_wp2
        go_round
        case rel => exact ⟨j, by omega, by go_num, HF.out⟩
        case measure => simp [intOf]

set_option maxHeartbeats 400000 in
theorem isNumber_any (a : Option Addr) (len cap : Nat) (k : Int) (w : World) (hm : len ≤ maxLen) :
    Calls Try.prog 93 #[.slice a len cap, .int .i64 k] w fun e w' => e = .returned (.bool (decide (0 ≤ k) && decide (k < (len : Int)))) ∧ w' = w := by
  unfold maxLen at hm
  by_cases h0 : 0 ≤ k
  · go_enter Try.func93, Try.ntmps93
    go_wp2
    go_ret
    exact ⟨ret_bool (by simp [h0]), rfl⟩
  · have hb : decide (0 ≤ k) = false := by simpa using h0
    go_enter Try.func93, Try.ntmps93
    go_wp2
    go_ret
    exact ⟨ret_bool (by simp [hb]), rfl⟩

theorem grown_cell {w w' : World} {g : Nat} (hg : w.grownBy w' (some g)) {x : Addr} {v : Value} (hc : w.cell? x = some v) (hne : x.block ≠ g) : w'.cell? x = some v :=
  (World.cell?_of_block (w := w) (hg.block x.block (World.block_lt_of_cell? _ _ hc) (by simpa using hne))).trans hc
theorem below_grown {B g : Nat} {w w1 w2 : World} (h : Below B w w1) (hg : w1.grownBy w2 (some g)) (hB : B ≤ g) (hs : B ≤ w1.heap.size) : Below B w w2 :=
  ⟨hg.os.trans h.os, hg.tape.trans h.tape, hg.output.trans h.output, Nat.le_trans h.size hg.size, fun k hk => (hg.block k (by omega) (by simp; omega)).trans (h.block k hk)⟩
theorem evs_grown {w w' : World} {g b off len : Nat} {es : List Ev} (h : EvsAt w b off len es) (hg : w.grownBy w' (some g)) (hne : b ≠ g) : EvsAt w' b off len es :=
  fun i hi => ⟨grown_cell hg (h i hi).1 hne, grown_cell hg (h i hi).2.1 hne, grown_cell hg (h i hi).2.2 hne⟩
/-- The sources of event k as int numbers. -/
def srcI (es : List Ev) (k : Nat) : List Int := (src es k).map (fun (i : Nat) => (i : Int))

/-- What an answer that is a slice of numbers comes to. -/
def Ans (w w' : World) (e : Ending) (Z : List Int) : Prop := ∃ g off c, e = .returned (.slice (some ⟨g, off, none⟩) Z.length c) ∧ w.heap.size ≤ g ∧ OI w' g off Z.length c Z ∧ Below w.heap.size w w'

theorem Try.info3 : (Try.prog.info? 3).map (fun i => (i.zero, i.size, i.bytes)) = some (some (.int .i64 0), 1, 8) := by kernel_rfl
theorem oi_empty (w : World) (T : TypeId) : OI (w.alloc (.cells #[] T)) w.heap.size 0 0 0 [] :=
  ⟨rfl, Nat.le_refl _, Nat.zero_le _, by simp, fun i hi => by omega, fun i hi => by omega, fun i hi => by omega⟩

set_option maxRecDepth 100000 in
set_option maxHeartbeats 1600000 in
theorem sources_any (b off len cap k : Nat) (es : List Ev) (w : World) (hc : EvsAt w b off len es) (hm : len ≤ maxLen) (hcap : len ≤ cap) (hk : k < len) (hok : (evAt es k).k = 3 → firstS es (evAt es k).m k ≠ none) :
    Calls Try.prog 85 #[.slice (some ⟨b, off, none⟩) len cap, .int .i64 (k : Int)] w fun e w' => Ans w w' e (srcI es k) := by
  obtain ⟨i0, hi0, hz0, hz1, hz2⟩ := info_parts Try.info3
  obtain ⟨c0, c1, c2⟩ := hc k hk
  have hb0 : Grew w (w.alloc (.cells #[] 3)) := (Grew.refl _).alloc _
  have hlb := World.block_lt_of_cell? _ _ c0
  simp only at hlb
  have hne : b ≠ w.heap.size := by omega
  have hk1 : (k : Int) < (len : Int) := by omega
  have hkc : (k : Int) ≤ (cap : Int) := by omega
  have hk0 : (0 : Int) ≤ (k : Int) := by omega
  have hkm : k ≤ maxLen := by omega
  have hL := fun (X : World) (hX : Grew w X) => lastOf_any b off k cap (evAt es k).n es X ((hc.grew hX).mono (by omega)) hkm
  have hnew : ∀ (q : Nat) (v : Value), (((w.alloc (.cells #[] 3)).drewN q).alloc (.cells #[v] 3)).heap[w.heap.size + 1]? = some (.cells #[v] 3 (0, 0)) := fun q v => by
    have := heap_alloc_new ((w.alloc (.cells #[] 3)).drewN q) (.cells #[v] 3)
    have e : ((w.alloc (.cells #[] 3)).drewN q).heap.size = w.heap.size + 1 := by show (w.alloc (.cells #[] 3)).heap.size = _; simp
    rwa [e] at this
  have HW : Hid (∀ (q : Nat) (v : Value), (((w.alloc (.cells #[] 3)).drewN q).alloc (.cells #[v] 3)).heap[w.heap.size + 1]? = some (.cells #[v] 3 (0, 0))) := hnew
  clear hnew
  cases hl : lastB es (evAt es k).n k with
  | none =>
    rw [hl] at hL
    simp only [ixI] at hL
    go_enter Try.func85, Try.ntmps85
    go_wp2_with fail
    go_quiet (first | (go_at_call 110; exact (hL _ (hb0.drewN _)).mono (fun e w' h => ⟨h.1, _, h.2⟩)))
    by_cases hk3 : (evAt es k).k = 3
    · skip
      have hS := fun (X : World) (hX : EvsAt X b off len es) => sendOf_any b off k cap (evAt es k).m es X (hX.mono (by omega)) hkm
      cases hf : firstS es (evAt es k).m k with
      | none => exact absurd hf (hok hk3)
      | some s =>
        rw [hf] at hS
        simp only [ixI] at hS
        have HS : Hid (srcI es k = ([] : List Int) ++ [(s : Int)]) := by rw [Hid, srcI, src, hl, if_pos hk3, hf]; rfl
        have d2 := hb0.cell c2
        have hOwn : ∀ (q : Nat) (X : World), Grew ((w.alloc (.cells #[] 3)).drewN q) X → ∀ o, OSl (X.alloc o) 1 w.heap.size 0 0 0 [] := fun q X hX o => OSl.below (OSl.drewN (oi_empty w 3) q) (hX.1.alloc hX.1.size o) (by show w.heap.size < (w.alloc (.cells #[] 3)).heap.size; simp)
        go_wp2_with fail
        go_region_held3 (fun w' => w'.cell? ⟨b, off + k * 3 + 2, none⟩ = some (.int .i64 (evAt es k).m))
          (first
            | go_keep
            | exact hg3.cell (by assumption)
            | exact grown_cell hg4 (by assumption) hne)
          (first
            | (go_at_call 111; refine (hS _ ((hc.grew (hb0.drewN _)))).mono ?_; rintro e w3 ⟨rfl, hg3⟩)
            | (refine step_append_os _ (by rfl) _ _ _ (by rfl) 3 i0 _ 1 8 Try.underlying74 hi0 hz0 hz1 hz2 rfl (by omega) w.heap.size 0 0 0 (([] : List Int).map (Value.int .i64)) (by rfl) (hOwn _ _ hg3 _) ⟨w3.heap.size, 0, none⟩ 1 1 [.int .i64 (s : Int)] (by rfl) (by rfl) (World.news_of_block (cs := #[.int .i64 (s : Int)]) (t := 3) (fr := (0, 0)) (heap_alloc_new w3 _)) (by simp [Value.oneCell']) (by unfold maxLen; omega) (by omega) ?_; intro g4 off4 cap4 w4 ho4 hg4 hat4))
        have B4 : Hid (Below w.heap.size w w4) := below_grown (((hb0.drewN (nq + 1)).trans hg3).alloc _).1 hg4 (Nat.le_refl _) (by have := (((hb0.drewN (nq + 1)).trans hg3).alloc (.cells #[] 3)).1.size; simp at this ⊢; omega)
        have A4 : Hid (w.heap.size ≤ g4) := by
          have := (((hb0.drewN (nq + 1)).trans hg3)).1.size
          rcases hat4 with h | h <;> simp [Hid, h] <;> omega
        have O4 : Hid (OSl w4 1 g4 off4 1 cap4 [.int .i64 (s : Int)]) := ho4
        clear ho4 hg4 hat4 hg3
        go_wp2
        go_ret
        rw [HS.out]
        exact ⟨g4, off4, cap4, rfl, A4.out, O4.out, B4.out⟩
    · have hk3b : ((evAt es k).k == 3) = false := by simpa using hk3
      have HS : Hid (srcI es k = []) := by rw [Hid, srcI, src, hl, if_neg hk3]; rfl
      go_wp2
      go_ret
      rw [HS.out]
      exact ⟨w.heap.size, 0, 0, rfl, Nat.le_refl _, (oi_empty w 3).drewN _, ((hb0.drewN _)).1⟩
  | some l =>
    rw [hl] at hL
    simp only [ixI] at hL
    have hl0 : (0 : Int) ≤ (l : Int) := by omega
    by_cases hk3 : (evAt es k).k = 3
    · go_enter Try.func85, Try.ntmps85
      go_wp2_with fail
      go_quiet (first | (go_at_call 110; exact (hL _ (hb0.drewN _)).mono (fun e w' h => ⟨h.1, _, h.2⟩)))
      go_wp2_with (at_builtin; refine wpList_append_os _ rfl _ _ _ rfl 3 i0 _ 1 8 Try.underlying74 hi0 hz0 hz1 hz2 rfl (by omega) w.heap.size 0 0 0 [] rfl (((oi_empty w 3).drewN nq).below ((Below.refl _ _).alloc (Nat.le_refl _) _) (by simp)) ⟨w.heap.size + 1, 0, none⟩ 1 1 [.int .i64 (l : Int)] rfl rfl (World.news_of_block (cs := #[.int .i64 (l : Int)]) (t := 3) (fr := (0, 0)) (HW.out _ _)) (by simp [Value.oneCell']) (by unfold maxLen; omega) (by omega) ?_; intro g2 off2 cap2 w2 ho2 hg2 hat2; have HE2 : Hid (EvsAt w2 b off len es) := evs_grown (hc.grew ((hb0.drewN _).alloc _)) hg2 hne; have d1 := (HE2.out k hk).2.1; have d2 := (HE2.out k hk).2.2; clear c1 c2; rw [hk3] at d1)
      have hS := fun (X : World) (hX : EvsAt X b off len es) => sendOf_any b off k cap (evAt es k).m es X (hX.mono (by omega)) hkm
      cases hf : firstS es (evAt es k).m k with
      | none => exact absurd hf (hok hk3)
      | some s =>
        rw [hf] at hS
        simp only [ixI] at hS
        have HS : Hid (srcI es k = [(l : Int)] ++ [(s : Int)]) := by rw [Hid, srcI, src, hl, if_pos hk3, hf]; rfl
        have S1 := (((hb0.drewN nq).alloc (.cells #[.int .i64 (l : Int)] 3))).1.size
        have A2 : w.heap.size ≤ g2 := by
          rcases hat2 with h | h
          · rw [h]; exact Nat.le_refl _
          · rw [h]; exact S1
        have hbg : b ≠ g2 := by omega
        have hOwn : ∀ (q : Nat) (X : World), Grew (w2.drewN q) X → ∀ o, OSl (X.alloc o) 1 g2 off2 1 cap2 [.int .i64 (l : Int)] := fun q X hX o => OSl.below (OSl.drewN ho2 q) (hX.1.alloc hX.1.size o) ho2.blk
        go_wp2_with fail
        go_region_held3 (fun w' => w'.cell? ⟨b, off + k * 3 + 2, none⟩ = some (.int .i64 (evAt es k).m))
          (first
            | go_keep
            | exact hg3.cell (by assumption)
            | exact grown_cell hg4 (by assumption) hbg)
          (first
            | (go_at_call 111; refine (hS _ (HE2.out.drewN _)).mono ?_; rintro e w3 ⟨rfl, hg3⟩)
            | (refine step_append_os _ (by rfl) _ _ _ (by rfl) 3 i0 _ 1 8 Try.underlying74 hi0 hz0 hz1 hz2 rfl (by omega) g2 off2 1 cap2 ([(l : Int)].map (Value.int .i64)) (by rfl) (hOwn _ _ hg3 _) ⟨w3.heap.size, 0, none⟩ 1 1 [.int .i64 (s : Int)] (by rfl) (by rfl) (World.news_of_block (cs := #[.int .i64 (s : Int)]) (t := 3) (fr := (0, 0)) (heap_alloc_new w3 _)) (by simp [Value.oneCell']) (by unfold maxLen; omega) (by omega) ?_; intro g4 off4 cap4 w4 ho4 hg4 hat4))
        have S2 : w.heap.size ≤ w2.heap.size := Nat.le_trans S1 hg2.size
        have S3 : w.heap.size ≤ w3.heap.size := Nat.le_trans S2 hg3.1.size
        have B2 : Below w.heap.size w w2 := below_grown (((hb0.drewN _).alloc _)).1 hg2 (Nat.le_refl _) S1
        have B3 : Below w.heap.size w w3 := (belowN (n := 1) B2).trans (hg3.1.mono S2)
        have B4 : Hid (Below w.heap.size w w4) := below_grown (B3.alloc S3 _) hg4 A2 (by simp; omega)
        have A4 : Hid (w.heap.size ≤ g4) := by
          rcases hat4 with h | h
          · rw [Hid, h]; exact A2
          · rw [Hid, h]; simp; omega
        have O4 : Hid (OSl w4 1 g4 off4 2 cap4 [.int .i64 (l : Int), .int .i64 (s : Int)]) := ho4
        clear ho4 hg4 hat4 hg3
        go_wp2
        go_ret
        rw [HS.out]
        exact ⟨g4, off4, cap4, rfl, A4.out, O4.out, B4.out⟩
    · have hk3b : ((evAt es k).k == 3) = false := by simpa using hk3
      have HS : Hid (srcI es k = [(l : Int)]) := by rw [Hid, srcI, src, hl, if_neg hk3]; rfl
      go_enter Try.func85, Try.ntmps85
      go_wp2_with fail
      go_quiet (first | (go_at_call 110; exact (hL _ (hb0.drewN _)).mono (fun e w' h => ⟨h.1, _, h.2⟩)))
      go_wp2_with (at_builtin; refine wpList_append_os _ rfl _ _ _ rfl 3 i0 _ 1 8 Try.underlying74 hi0 hz0 hz1 hz2 rfl (by omega) w.heap.size 0 0 0 [] rfl (((oi_empty w 3).drewN nq).below ((Below.refl _ _).alloc (Nat.le_refl _) _) (by simp)) ⟨w.heap.size + 1, 0, none⟩ 1 1 [.int .i64 (l : Int)] rfl rfl (World.news_of_block (cs := #[.int .i64 (l : Int)]) (t := 3) (fr := (0, 0)) (HW.out _ _)) (by simp [Value.oneCell']) (by unfold maxLen; omega) (by omega) ?_; intro g2 off2 cap2 w2 ho2 hg2 hat2; have HE2 : Hid (EvsAt w2 b off len es) := evs_grown (hc.grew ((hb0.drewN _).alloc _)) hg2 hne; have d1 := (HE2.out k hk).2.1; clear c1)
      go_ret
      rw [HS.out]
      exact ⟨g2, off2, cap2, rfl, by rcases hat2 with h | h <;> simp [h] <;> omega, ho2, below_grown (((hb0.drewN _).alloc _)).1 hg2 (Nat.le_refl _) (by simp; omega)⟩
end Go.Proofs.Ytacogcfdolmfpaa
