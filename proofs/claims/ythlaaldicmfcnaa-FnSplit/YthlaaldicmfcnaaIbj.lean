/-
  The program's Joined.
-/
import Derived.Test.YthlaaldicmfcnaaIbl
import Derived.Test.YthlaaldicmfcnaaItg
namespace Go.Proofs.Ythlaaldicmfcnaa
set_option linter.unusedVariables false
set_option linter.unusedSimpArgs false
open Go.RowKit Go.Sort

/-- The text of the first one with this index from place j on, if there is one. -/
def tfx (L : List Blk) (j i : Nat) : List UInt8 := ((L.drop j).find? (fun b => b.1 == (i : Int))).elim [] (fun b => b.2.2)
def tfs (L : List Blk) (j T : Nat) : List (List UInt8) := (List.range T).map (tfx L j)
theorem tfs_len (L : List Blk) (j T : Nat) : (tfs L j T).length = T := by simp [tfs]
theorem tfs_end (L : List Blk) (T : Nat) : tfs L L.length T = List.replicate T [] := by
  apply List.ext_getElem
  · simp [tfs]
  · intro i h1 h2
    simp [tfs, tfx]
theorem drop_bat {L : List Blk} {k : Nat} (h : k < L.length) : L.drop k = bat L k :: L.drop (k + 1) := by
  rw [List.drop_eq_getElem_cons h]
  simp [bat, List.getD, h]
theorem tfs_step {L : List Blk} {k T X : Nat} (h : k < L.length) (hX : (bat L k).1 = (X : Int)) (hT : X < T) : tfs L k T = (tfs L (k + 1) T).set X (bat L k).2.2 := by
  apply List.ext_getElem
  · simp [tfs]
  · intro i h1 h2
    rw [List.getElem_set]
    simp only [tfs, List.getElem_map, List.getElem_range, tfx]
    rw [drop_bat h, List.find?_cons]
    by_cases e : X = i
    · subst e
      simp [hX]
    · rw [if_neg e, show ((bat L k).1 == (i : Int)) = false by rw [hX]; simp; omega]
theorem tfs_gath {L : List Blk} : ∀ {m : Nat}, (∀ i, i < m → fst11 L i ≠ none) → gath L m = some (tfs L 0 m).flatten
  | 0, _ => by simp [gath, tfs]
  | m + 1, h => by
    have ih := tfs_gath (m := m) (fun i hi => h i (by omega))
    unfold gath
    rw [ih]
    cases e : fst11 L m with
    | none => exact absurd e (h m (by omega))
    | some b =>
      have : tfx L 0 m = b.2.2 := by unfold tfx; unfold fst11 at e; rw [List.drop_zero, e]; rfl
      simp only [tfs, List.range_succ, List.map_append, List.map_cons, List.map_nil, this]
      simp
theorem tfs_short {L : List Blk} {j T : Nat} (h : allB L = true) : ∀ z ∈ tfs L j T, z.length ≤ 1048576 := by
  intro z hz
  simp only [tfs, List.mem_map, List.mem_range] at hz
  obtain ⟨i, _, rfl⟩ := hz
  unfold tfx
  cases e : (L.drop j).find? (fun b => b.1 == (i : Int)) with
  | none => simp
  | some b =>
    have hb := List.mem_of_mem_drop (List.mem_of_find?_eq_some e)
    have := (okBk_iff.1 (allB_iff.1 h b hb).1).2.2
    simp only [Option.elim]
    omega
theorem hasB_fst {L : List Blk} {t : Int} {i : Nat} (h : allB L = true) (ht : (bat L 0).2.1 = t) : hasB L t i = true ↔ fst11 L i ≠ none := by
  rw [ne_eq, fst11_none]
  simp only [hasB, List.any_eq_true, Bool.and_eq_true, beq_iff_eq]
  constructor
  · rintro ⟨b, hb, _, _, h3⟩ hh
    exact hh b hb h3
  · intro hh
    simp only [ne_eq, Classical.not_forall, Decidable.not_not] at hh
    obtain ⟨b, hb, h3⟩ := hh
    have := allB_iff.1 h b hb
    exact ⟨b, hb, this.1, by rw [this.2, ht], h3⟩
theorem lck_nil {L : List Blk} {t : Int} {m : Nat} : lck L t m = [] ↔ ∀ i, i < m → hasB L t i = true := by
  simp [lck]
theorem osm (w : World) (M : Nat) (hM : M ≤ maxLen) : OS (w.alloc (.cells (madeCells #[.string ⟨#[]⟩] M) 9)) w.heap.size 0 M M (List.replicate M []) := by
  have h := osl_made w #[.string ⟨#[]⟩] 1 M 9 rfl (by omega) hM
  rw [Nat.mul_one] at h
  have e : (List.replicate M (#[Value.string ⟨#[]⟩]).toList).flatten = svs (List.replicate M []) := by
    induction M with
    | zero => rfl
    | succ M ih => simp [svs, sv, List.replicate_succ]
  rw [e] at h
  exact h
theorem osm_set {w : World} {g n cap : Nat} {zs : List (List UInt8)} (h : OS w g 0 n cap zs) {i : Nat} (hi : i < n) (y : List UInt8) : OS (w.setCell ⟨g, i, none⟩ (.string (sv y))) g 0 n cap (zs.set i y) := by
  have := h.set hi y
  rwa [Nat.zero_add] at this
attribute [local irreducible] sv
set_option maxRecDepth 100000 in
set_option maxHeartbeats 3200000 in
theorem joiI_any (a : Option Addr) (n cap : Nat) (L : List Blk) (w : World) (hv : BkS w a n L) (hsh : ShortB L) (hm : n ≤ 1048576) :
    Calls Try.prog 29 #[.slice a n cap] w fun e w' => e = .returned (.tuple #[.string (sv (joinL L).1), .bool (joinL L).2]) ∧ Below w.heap.size w w' := by
  have HNIL : Hid ((⟨#[]⟩ : ByteArray) = sv []) := by unfold sv; rfl
  have HN : Hid (L.length = n) := hv.1
  rcases Nat.eq_zero_or_pos n with e | e
  · subst e
    have HZ : Hid (joinL L = ([], false)) := joinL_no (fun h => h.1 (List.eq_nil_of_length_eq_zero HN.out))
    go_enter Try.func29, Try.ntmps29
    go_wp2
    refine bodyPost_ret (v := .tuple #[.string ⟨#[]⟩, .bool false]) (by simp [results, Try.results29, go_sem]) rfl ?_
    rw [HZ.out, HNIL.out]
    exact ⟨rfl, Below.refl _ _⟩
  · have ne0 : ((n : Int) == 0) = false := by simp; omega
    have n0 : (0 : Int) < (n : Int) := by omega
    have HV : Hid (BkS w a n L) := hv
    have C0 := areOf_any a n cap L (bat L 0).2.1 w hv hsh hm
    obtain ⟨_, h0 | ⟨bb, bo, rfl, hcs⟩⟩ := hv
    · omega
    obtain ⟨_, d1, _⟩ := hcs 0 e
    simp only [Nat.zero_mul, Nat.add_zero] at d1
    have HAE : Hid ((L.all (fun b => ofB b (bat L 0).2.1)) = allB L) := rfl
    cases hall : allB L with
    | false =>
      have HZ : Hid (joinL L = ([], false)) := joinL_no (fun h => by rw [hall] at h; exact absurd h.2 (by simp))
      rw [HAE.out, hall] at C0
      clear hcs hall HAE
      generalize (bat L 0).2.1 = t at *
      go_enter Try.func29, Try.ntmps29
      go_wp2_with (go_at_call 66; refine C0.mono ?_; rintro e w1 ⟨rfl, hb1⟩)
      have HB1 : Hid (Below w.heap.size w w1) := hb1
      clear hb1
      refine bodyPost_ret (v := .tuple #[.string ⟨#[]⟩, .bool false]) (by simp [results, Try.results29, go_sem]) rfl ?_
      rw [HZ.out, HNIL.out]
      exact ⟨rfl, HB1.out⟩
    | true =>
      have HAL : Hid (allB L = true) := hall
      have hb0 := (okBk_iff.1 (allB_iff.1 hall _ (bat_mem (by rw [HN.out]; exact e))).1).1
      obtain ⟨T, hT⟩ : ∃ T : Nat, (bat L 0).2.1 = (T : Int) := ⟨(bat L 0).2.1.toNat, by omega⟩
      rw [HAE.out, hall, hT] at C0
      rw [hT] at d1 hb0
      have hT1 : 1 ≤ T := by omega
      have hT12 : T ≤ 12 := by omega
      have HT0 : Hid ((bat L 0).2.1 = (T : Int)) := hT
      have HJ : Hid (joinL L = jnO (gath L T)) := by
        rw [Hid, joinL, if_pos ⟨fun h => by have := HN.out; rw [h] at this; simp at this; omega, HAL.out⟩, hT]
        simp
      have HK : Hid (lackL L (T : Int) = lck L (T : Int) T) := by
        rw [Hid, lackL, if_pos (inB7.2 hb0)]; simp
      have HX : Hid (∀ k, k < n → ∃ X : Nat, (bat L k).1 = (X : Int) ∧ X < T) := fun k hk => by
        have h1 := allB_iff.1 HAL.out _ (bat_mem (L := L) (i := k) (by rw [HN.out]; exact hk))
        have h2 := (okBk_iff.1 h1.1).2.1
        rw [h1.2, hT] at h2
        exact ⟨(bat L k).1.toNat, by omega, by omega⟩
      have C1 := fun X (h : Below w.heap.size w X) => lacI_any (some ⟨bb, bo, none⟩) n cap L (T : Int) X (HV.out.below h) hsh hm
      clear hcs hall HAE hT hb0
      by_cases hlk : ∀ i, i < T → hasB L (T : Int) i = true
      · have HL0 : Hid (lackL L (T : Int) = []) := by rw [Hid, HK.out]; exact lck_nil.2 hlk
        have HG : Hid (joinL L = ((tfs L 0 T).flatten, true)) := by
          rw [Hid, HJ.out, tfs_gath (fun i hi => (hasB_fst HAL.out HT0.out).1 (hlk i hi))]; rfl
        rw [HL0.out] at C1
        clear HK HL0 hlk HJ
        have hmk := run_make_row' (P := Try.prog) 70 9 (.string ⟨#[]⟩) 16 Try.underlying70 Try.info9 rfl .i64 .i64 T (by omega) (by omega)
        go_enter Try.func29, Try.ntmps29
        go_wp2_with (first | (go_at_call 66; refine C0.mono ?_; rintro e w1 ⟨rfl, hb1⟩) | (go_at_call 34; refine (C1 _ hb1).mono ?_; rintro e w2 ⟨g2, o2, c2, rfl, hg2, ho2, hb2⟩))
        have HB2 : Hid (Below w.heap.size w w2) := hb1.trans (hb2.mono hb1.size)
        have HS2 : Hid (w.heap.size ≤ w2.heap.size) := HB2.out.size
        have HO2 : Hid (OS (w2.alloc (.cells (madeCells #[.string ⟨#[]⟩] T) 9)) w2.heap.size 0 T T (tfs L n T)) := by
          rw [Hid, ← HN.out, tfs_end]; exact osm w2 T (by unfold maxLen; omega)
        have HB3 : Hid (Below w.heap.size w (w2.alloc (.cells (madeCells #[.string ⟨#[]⟩] T) 9))) := HB2.out.alloc HB2.out.size _
        clear hb1 hb2 ho2 hmk C0 C1 d1 HB2
        go_loopw [6] (fun y wr => ∃ j : Nat, j ≤ n ∧ y = .int .i64 ((j : Int) - 1) ∧ OS wr w2.heap.size 0 T T (tfs L j T) ∧ Below w.heap.size w wr) (fun y _ => (intOf y + 1).toNat)
        case atStart => exact ⟨n, Nat.le_refl _, by go_num, HO2.out, HB3.out⟩
        case round =>
          clear HO2 HB3
          obtain ⟨j, hj, rfl, hO, hB⟩ := hrel
          have KO : Hid (OS wr w2.heap.size 0 T T (tfs L j T)) := hO
          have KB : Hid (Below w.heap.size w wr) := hB
          clear hO
          cases j with
          | zero =>
            have z0 : ¬ ((0 : Int) ≤ ((0 : Nat) : Int) - 1) := by omega
            have C := together_any w2.heap.size 0 T T (tfs L 0 T) wr KO.out (by omega) (tfs_short HAL.out)
            generalize (tfs L 0 T).flatten = F at *
            clear hB
            go_wp2_with (go_at_call 67; refine C.mono ?_; rintro e w3 ⟨rfl, hb3⟩)
            have HB4 : Hid (Below w.heap.size w w3) := KB.out.trans (hb3.mono KB.out.size)
            clear hb3
            refine bodyPost_ret (v := .tuple #[.string (sv F), .bool true]) (by simp [results, Try.results29, go_sem]) rfl ?_
            rw [HG.out]
            exact ⟨rfl, HB4.out⟩
          | succ j =>
            have z0 : (0 : Int) ≤ ((j + 1 : Nat) : Int) - 1 := by omega
            have z1 : ((j + 1 : Nat) : Int) - 1 = (j : Int) := by omega
            have z2 : (j : Int) < (n : Int) := by omega
            have z3 : (0 : Int) ≤ (j : Int) := by omega
            obtain ⟨_, h0 | ⟨bb', bo', e', hcs⟩⟩ := HV.out.below hB
            · omega
            cases e'
            obtain ⟨c0, c1, c2⟩ := hcs j (by omega)
            obtain ⟨X, hX, hXT⟩ := HX.out j (by omega)
            have HST : Hid (tfs L j T = (tfs L (j + 1) T).set X (bat L j).2.2) := tfs_step (by rw [HN.out]; omega) hX hXT
            have NO : Hid (OS (wr.setCell ⟨w2.heap.size, X, none⟩ (.string (sv (bat L j).2.2))).drew w2.heap.size 0 T T (tfs L j T)) := by
              rw [Hid, HST.out]; exact (osm_set KO.out hXT _).drewN 1
            have NB : Hid (Below w.heap.size w (wr.setCell ⟨w2.heap.size, X, none⟩ (.string (sv (bat L j).2.2))).drew) := belowN (n := 1) (KB.out.setCell (p := ⟨w2.heap.size, X, none⟩) HS2.out _)
            rw [hX] at c0
            have f0 := KO.out.free X (by omega)
            have f1 := KO.out.cellAt hXT
            rw [Nat.zero_add] at f0 f1
            have x0 : (0 : Int) ≤ (X : Int) := by omega
            have x1 : (X : Int) < (T : Int) := by omega
            have hne : Hid (bb ≠ w2.heap.size) := by
              obtain ⟨_, g0 | ⟨bb', bo', e', hcw⟩⟩ := HV.out
              · omega
              cases e'
              have h1 := World.block_lt_of_cell? _ _ (hcw j (by omega)).1
              have h3 := HS2.out
              simp only at h1
              rw [Hid]
              omega
            generalize (bat L j).2.2 = tx at *
            clear hcs hB hX
            have hS1 : ∀ q, (wr.drewN q).cell? ⟨bb, bo + j * 3, none⟩ = some (.int .i64 (X : Int)) ∧ (wr.drewN q).cell? ⟨bb, bo + j * 3 + 2, none⟩ = some (.string (sv tx)) := fun q => ⟨c0, c2⟩
            have hS2 : (wr.setCell ⟨w2.heap.size, X, none⟩ (.string (sv tx))).drew.cell? ⟨bb, bo + j * 3, none⟩ = some (.int .i64 (X : Int)) ∧ (wr.setCell ⟨w2.heap.size, X, none⟩ (.string (sv tx))).drew.cell? ⟨bb, bo + j * 3 + 2, none⟩ = some (.string (sv tx)) := by
              constructor
              · exact (World.cell?_setCell_other _ _ _ _ (by intro h; exact hne.out (congrArg Addr.block h).symm)).trans c0
              · exact (World.cell?_setCell_other _ _ _ _ (by intro h; exact hne.out (congrArg Addr.block h).symm)).trans c2
            rw [z1]
            clear z1 z0
            go_wp2_with fail
            go_region_held3 (fun Y => Y.cell? ⟨bb, bo + j * 3, none⟩ = some (.int .i64 (X : Int)) ∧ Y.cell? ⟨bb, bo + j * 3 + 2, none⟩ = some (.string (sv tx)))
              (first
                | (with_reducible exact hS2)
                | (with_reducible exact hS1 _)
                | exact hS1 1
                | go_keep)
              (fail)
            go_wp2
            go_roundw
            case rel => exact ⟨j, by omega, by go_num, NO.out, NB.out⟩
            case measure => simp [intOf]
      · have HL0 : Hid (0 < (lackL L (T : Int)).length) := by
          rw [Hid, HK.out]
          rcases Nat.eq_zero_or_pos (lck L (T : Int) T).length with h | h
          · exact absurd (lck_nil.1 (List.eq_nil_of_length_eq_zero h)) hlk
          · exact h
        have HZ : Hid (joinL L = ([], false)) := by
          rw [Hid, HJ.out]
          simp only [Classical.not_forall] at hlk
          obtain ⟨i, hi, h⟩ := hlk
          rw [gath_lacks (i := i) (Classical.byContradiction fun hh => h ((hasB_fst HAL.out HT0.out).2 hh)) hi]
          rfl
        generalize hZZ : lackL L (T : Int) = Z at *
        clear HK hlk HJ hZZ
        have z0 : (0 : Int) < (Z.length : Int) := by have := HL0.out; omega
        go_enter Try.func29, Try.ntmps29
        go_wp2_with (first | (go_at_call 66; refine C0.mono ?_; rintro e w1 ⟨rfl, hb1⟩) | (go_at_call 34; refine (C1 _ hb1).mono ?_; rintro e w2 ⟨g2, o2, c2, rfl, hg2, ho2, hb2⟩))
        have HB1 : Hid (Below w.heap.size w w2) := hb1.trans (hb2.mono hb1.size)
        clear hb1 hb2 ho2
        refine bodyPost_ret (v := .tuple #[.string ⟨#[]⟩, .bool false]) (by simp [results, Try.results29, go_sem]) rfl ?_
        rw [HZ.out, HNIL.out]
        exact ⟨rfl, HB1.out⟩
theorem implJoined : ImplJoined := fun a cap L w hv _ hsh _ _ hl => joiI_any a L.length cap L w hv hsh hl
end Go.Proofs.Ythlaaldicmfcnaa
