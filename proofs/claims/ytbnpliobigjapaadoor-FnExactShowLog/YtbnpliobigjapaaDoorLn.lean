/-
  Several texts in one: Jat.
-/
import Derived.Test.YtbnpliobigjapaaDoorHd
/-
  The contract of the program's frameAt where nothing asks for errors.As: the same walk, one variable less.
-/
namespace Go.Proofs.YtbnpliobigjapaaDoor
set_option linter.unusedSimpArgs false
set_option linter.unusedVariables false
open Go.RowKit Go.Sort Go.Shelf

/-- What the package-level variables hold: a is where the program's one sentinel lies. -/
structure GlB (a : Addr) (w : World) : Prop where
  tab : Tab w
  syn : ∃ tp p, w.cell? ⟨3, 0, none⟩ = some (.iface tp p)
  rng : ∃ tp p, w.cell? ⟨4, 0, none⟩ = some (.iface tp p)
  err : w.cell? ⟨0, 0, none⟩ = some (.iface 134 (.pointer (some a)))
theorem GlB.below {a : Addr} {w w' : World} (h : GlB a w) (hb : Below w.heap.size w w') : GlB a w' := by
  obtain ⟨tp, p, h1⟩ := h.syn
  obtain ⟨tp2, p2, h2⟩ := h.rng
  exact ⟨h.tab.below hb (Nat.le_refl _), ⟨tp, p, cellB h1 hb⟩, ⟨tp2, p2, cellB h2 hb⟩, cellB h.err hb⟩
theorem atoi_badB (a : Addr) (l : List UInt8) (w : World) (hl : l.length ≤ 1048576) (h : ∀ v, Lib.atoiAll l ≠ .ok v) (hG : GlB a w) :
    Calls Tryd.prog 62 #[.string (sv l)] w fun e w' => ∃ k N, e = .returned (.tuple #[.int .i64 k, .iface 118 (.pointer (some ⟨N, 0, none⟩))]) ∧ Below w.heap.size w w' := by
  have hd : (sv l).data.toList = l := by unfold sv; simp
  cases hc : Lib.atoiAll l with
  | ok v => exact absurd hc (h v)
  | «syntax» =>
    obtain ⟨tp, p, hs⟩ := hG.syn
    refine (Any.strconv_Atoi_syntax Tryd.atoiL (sv l) (by rw [sv_size]; omega) (by rw [hd]; exact hc) (.iface tp p) w hs (.inr ⟨tp, p, rfl⟩)).mono ?_
    rintro e w' ⟨N, he, _, _, hb⟩
    exact ⟨_, N, he, hb⟩
  | range =>
    obtain ⟨tp, p, hs⟩ := hG.rng
    refine (Any.strconv_Atoi_range Tryd.atoiL (sv l) (by rw [sv_size]; omega) (by rw [hd]; exact hc) (.iface tp p) w hs (.inr ⟨tp, p, rfl⟩)).mono ?_
    rintro e w' ⟨N, he, _, _, hb⟩
    exact ⟨_, N, he, hb⟩
attribute [local irreducible] sv
set_option maxRecDepth 100000 in
set_option maxHeartbeats 3200000 in
theorem frameAtB_any (a : Addr) (d : List UInt8) (k : Nat) (w : World) (hl : d.length ≤ 1048576) (hk : k ≤ d.length) (hG : GlB a w) :
    Calls Tryd.prog 42 #[.string (sv d), .int .i64 (k : Int)] w fun e w' => AtF w w' a (d.drop k) k e := by
  have HNIL : Hid ((⟨#[]⟩ : ByteArray) = sv []) := by rw [Hid]; unfold sv; rfl
  have KG : Hid (GlB a w) := hG
  clear hG
  have hsz := sv_size d
  have e1 : (sv d).extract k d.length = sv (d.drop k) := by rw [sv_sub, List.take_of_length_le (by rw [List.length_drop]; omega)]
  have k0 : (0 : Int) ≤ (k : Int) := by omega
  have k1 : (k : Int) ≤ (d.length : Int) := by omega
  have hrl : (d.drop k).length ≤ 1048576 := by rw [List.length_drop]; omega
  generalize hr : d.drop k = r at *
  have h1 := fun X => cut_any r 10 X hrl
  have hul : (upto 10 r).length ≤ 1048576 := by have := (upto_prefix 10 r).length_le; omega
  have h2 := fun X => cut_any (upto 10 r) 32 X hul
  have hnl : (upto 32 (upto 10 r)).length ≤ 1048576 := by have := (upto_prefix 32 (upto 10 r)).length_le; omega
  have hB : bodyQ r = r.drop ((upto 10 r).length + 1) := rfl
  have HLEN : Hid (lenL r = Lib.atoiAll (upto 32 (upto 10 r))) := rfl
  have hbl : (bodyQ r).length ≤ 1048576 := by rw [hB, List.length_drop]; omega
  rw [← hB] at h1
  clear hB hr hul
  generalize upto 32 (upto 10 r) = num at *
  go_enter Tryd.func42, Tryd.ntmps42
  go_wp2_with fail
  refine (h1 w).mono ?_
  rintro e w1 ⟨b1, rfl, hg1⟩
  have KB1 : Hid (Below w.heap.size w w1) := hg1.1
  clear hg1 h1
  go_wp2_with fail
  refine (h2 w1).mono ?_
  rintro e w2 ⟨b2, rfl, hg2⟩
  have KB2 : Hid (Below w.heap.size w w2) := KB1.out.trans (hg2.1.mono KB1.out.size)
  clear hg2 h2 KB1
  have KG2 : Hid (GlB a w2) := KG.out.below KB2.out
  have hszb := sv_size (bodyQ r)
  by_cases hbad : ∀ v, Lib.atoiAll num ≠ .ok v
  · have hA := atoi_badB a num w2 hnl hbad KG2.out
    have HN : Hid (∀ t, ¬ Begins r t) := none_bad (by rw [HLEN.out]; exact hbad)
    clear hbad
    go_wp2_with fail
    refine hA.mono ?_
    rintro e w3 ⟨kk, N, rfl, hb3⟩
    have KB3 : Hid (Below w.heap.size w w3) := KB2.out.trans (hb3.mono KB2.out.size)
    have c0 := (KG.out.below KB3.out).err
    clear hb3 hA
    go_wp2
    go_quiet (fail)
    go_wp2
    go_ret2
    exact ⟨.inr ⟨HN.out, by rw [← HNIL.out]; rfl⟩, belowN KB3.out⟩
  · obtain ⟨v, hv⟩ : ∃ v, Lib.atoiAll num = .ok v := by
      refine Classical.byContradiction fun h => hbad fun v hv => h ⟨v, hv⟩
    have hA := atoi_ok num v w2 hnl hv
    have HV : Hid (lenL r = .ok v) := by rw [Hid, HLEN.out]; exact hv
    clear hbad hv
    go_wp2_with fail
    refine hA.mono ?_
    rintro e w3 ⟨rfl, hb3⟩
    have KB3 : Hid (Below w.heap.size w w3) := KB2.out.trans (hb3.mono KB2.out.size)
    have KG3 : Hid (GlB a w3) := KG.out.below KB3.out
    clear hb3 hA
    by_cases hneg : v < 0
    · have HN : Hid (∀ t, ¬ Begins r t) := none_far HV.out (.inl hneg)
      have c0 := KG3.out.err
      go_wp2
      go_quiet (fail)
      go_wp2
      go_ret2
      exact ⟨.inr ⟨HN.out, by rw [← HNIL.out]; rfl⟩, belowN KB3.out⟩
    · by_cases hfar : min ((bodyQ r).length : Int) 2000 < v
      · have HN : Hid (∀ t, ¬ Begins r t) := none_far HV.out (.inr (by omega))
        have c0 := KG3.out.err
        go_wp2
        go_quiet (fail)
        go_wp2
        go_ret2
        exact ⟨.inr ⟨HN.out, by rw [← HNIL.out]; rfl⟩, belowN KB3.out⟩
      · obtain ⟨n, rfl⟩ : ∃ n : Nat, v = (n : Int) := ⟨v.toNat, by omega⟩
        have n1 : n ≤ 2000 := by omega
        have n2 : (n : Int) ≤ ((bodyQ r).length : Int) := by omega
        have n0 : (0 : Int) ≤ (n : Int) := by omega
        have e2 : (sv (bodyQ r)).extract 0 n = sv ((bodyQ r).take n) := by rw [sv_sub, List.drop_zero, Nat.sub_zero]
        have HTRUE : Hid (Lib.hasPrefix r (frameL ((bodyQ r).take n)) = true → Begins r ((bodyQ r).take n)) := fun h => some_here n1 h
        have HFALSE : Hid (Lib.hasPrefix r (frameL ((bodyQ r).take n)) = false → ∀ t, ¬ Begins r t) := fun h => none_other HV.out n1 h
        have htl : ((bodyQ r).take n).length ≤ 1048576 := by rw [List.length_take]; omega
        generalize (bodyQ r).take n = t at *
        go_wp2_with fail
        refine (clone_any t w3 htl).mono ?_
        rintro e w4 ⟨rfl, hb4⟩
        have KB4 : Hid (Below w.heap.size w w4) := KB3.out.trans (hb4.mono KB3.out.size)
        have hFr : ∀ X, Grew w4 X → Calls Tryd.prog 38 #[.string (sv t)] X fun e w' => e = .returned (.string (sv (frameL t))) ∧ Grew X w' := fun X hX => frame_any t X htl ((KG.out.below KB4.out).tab.below hX.1 (Nat.le_refl _))
        have hHas : ∀ X, Calls Tryd.prog 63 #[.string (sv r), .string (sv (frameL t))] X fun e w' => e = .returned (.bool (Lib.hasPrefix r (frameL t))) ∧ Grew X w' := fun X => (has_any r (frameL t) X).mono fun e w' ⟨he, hw⟩ => ⟨he, by rw [hw]; exact Grew.refl _⟩
        clear hb4
        cases hp : Lib.hasPrefix r (frameL t) with
        | true =>
          have HT := HTRUE.out hp
          have HTH : Hid (Begins r t) := HT
          rw [hp] at hHas
          clear hp HT HTRUE HFALSE
          generalize frameL t = F at *
          go_wp2_with fail
          have hmix := mixedF
          go_quiet_grown (first | (go_at_call 38; exact grown_at (hFr _ (Grew.of_grow _ _ _))) | (go_at_call 63; exact grown_at (hHas _)))
          go_wp2
          go_ret2
          exact ⟨.inl ⟨t, HTH.out, rfl⟩, KB4.out.trans ((Grew.of_grow _ _ _).1.mono KB4.out.size)⟩
        | false =>
          have HT := HFALSE.out hp
          have HTH : Hid (∀ t, ¬ Begins r t) := HT
          rw [hp] at hHas
          have c0 := (KG.out.below KB4.out).err
          have c1 : ∀ q os, (grow (w4.drewN q) os).cell? ⟨0, 0, none⟩ = some (.iface 134 (.pointer (some a))) := fun q os => (Grew.of_grow w4 q os).cell c0
          clear hp HT HTRUE HFALSE c0
          generalize frameL t = F at *
          go_wp2_with fail
          have hmix := mixedF
          go_quiet_grown (first | (go_at_call 38; exact grown_at (hFr _ (Grew.of_grow _ _ _))) | (go_at_call 63; exact grown_at (hHas _)))
          go_wp2
          go_quiet (fail)
          go_wp2
          go_ret2
          exact ⟨.inr ⟨HTH.out, by rw [← HNIL.out]; rfl⟩, belowN (KB4.out.trans ((Grew.of_grow _ _ _).1.mono KB4.out.size))⟩
end Go.Proofs.YtbnpliobigjapaaDoor
