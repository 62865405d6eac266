/-
  Several texts in one: Cnc Srs Fli Flw.
-/
import Derived.Test.YtacjpebifacclaaGj
import Derived.Test.YtacjpebifacclaaGb
import Derived.Test.YtacjpebifacclaaGk
import Derived.Deep.Upon
import Derived.Shelf.SortG.AssemblyIn
import Derived.Sort.EveryDepth
import Derived.Lib.SortBridge
import Derived.Shelf.SlGeneric
/-
  slices.Grow of nothing and slices.Concat of eight lanes.
-/
namespace Go.Proofs.Ytacjpebifacclaa
set_option linter.unusedSimpArgs false
set_option linter.unusedVariables false
open Go.RowKit Go.Sort

theorem int3 : Try.prog.underlying 3 = some (.int .i64) := Try.underlying3

set_option maxRecDepth 100000 in
set_option maxHeartbeats 1600000 in
theorem grow_any (n : Nat) (w : World) (hn : n ≤ 10000) :
    Calls Try.prog 134 #[.slice none 0 0, .int .i64 (n : Int)] w fun e w' => ∃ v, e = .returned v ∧ LaneV w' w.heap.size v [] ∧ Below w.heap.size w w' := by
  obtain ⟨i0, hi0, hz0, hz1, hz2⟩ := info_parts Try.info3
  rcases Nat.eq_zero_or_pos n with h0 | hp
  · subst h0
    go_enter Try.func134, Try.ntmps134
    go_wp2
    go_ret
    exact ⟨_, rfl, .inl ⟨rfl, rfl⟩, Below.refl _ _⟩
  · have hr := fun ty => Lib.run_append_nil_zeros (P := Try.prog) w 75 3 ty 3 i0 _ .i64 .i64 Try.underlying75 int3 hi0 hz0 n hp (by rw [hz1]; omega) (by omega) (by rw [hz2]; omega)
    have hge := grownCap_ge w n 0 3
    have hcm : grownCap w n 0 3 ≤ maxLen := grownCap_le_maxLen w n 0 3 (by unfold maxLen; omega)
    have hpi : (0 : Int) < (n : Int) := by omega
    have h0i : ¬ ((n : Int) < 0) := by omega
    have hown := World.ownsRow_made (base := w.heap.size) (e := 3) (size := 1) w.drew (Builtin.zeroCells (Value.int .i64 0).cells n ++ Builtin.zeroCells (Value.int .i64 0).cells (grownCap w n 0 3 - n)) (grownCap w n 0 3) (Nat.le_refl _) hcm (by
      rw [Array.size_append, size_zeroCells, size_zeroCells]
      show n * 1 + (grownCap w n 0 3 - n) * 1 = _
      omega)
    obtain ⟨g2, cap2, hv2, hb2, hO⟩ := OSl.of_ownsRow hown (by simp)
    have HL : Hid (LaneV (w.drew.alloc (.cells (Builtin.zeroCells (Value.int .i64 0).cells n ++ Builtin.zeroCells (Value.int .i64 0).cells (grownCap w n 0 3 - n)) 3)) w.heap.size (.slice (some ⟨w.heap.size, 0, none⟩) 0 (grownCap w n 0 3)) []) := .inr ⟨g2, 0, cap2, hv2, hb2, hO⟩
    have HB : Hid (Below w.heap.size w (w.drew.alloc (.cells (Builtin.zeroCells (Value.int .i64 0).cells n ++ Builtin.zeroCells (Value.int .i64 0).cells (grownCap w n 0 3 - n)) 3))) := (belowN (n := 1) (Below.refl _ _)).alloc (Nat.le_refl _) _
    have hc0 : (0 : Int) ≤ ((grownCap w n 0 3 : Nat) : Int) := by omega
    generalize grownCap w n 0 3 = G at *
    obtain ⟨W, hW⟩ : ∃ W, w.drew.alloc (.cells (Builtin.zeroCells (Value.int .i64 0).cells n ++ Builtin.zeroCells (Value.int .i64 0).cells (G - n)) 3) = W := ⟨_, rfl⟩
    rw [hW] at HL HB
    simp only [hW] at hr
    clear hown hv2 hb2 hO hge hcm hW
    go_enter Try.func134, Try.ntmps134
    go_wp2_with (at_builtin; refine Lib.wpList_append_run _ rfl _ _ 75 3 rfl (.slice none 0 0) (.int .i64 (n : Int)) rfl rfl _ _ (hr _) ?_)
    go_ret
    exact ⟨_, rfl, HL.out, HB.out⟩

/-- Some numbers more at the end of a lane. -/
theorem lane_more {w : World} {B : Nat} {v x : Value} {L M : List Int} (h : LaneV w B v L) (hx : Lv w x M) (hB : B ≤ w.heap.size) (hL : L.length + M.length ≤ 10000) (ty : TypeId) :
    ∃ v' w', (Builtin.append_ #[75, 75] ty #[v, x]).run Try.prog w = .ok v' w' ∧ LaneV w' B v' (L ++ M) ∧ w.grownBy w' v.ownBlock := by
  obtain ⟨i0, hi0, hz0, hz1, hz2⟩ := info_parts Try.info3
  obtain ⟨a, rfl, hM⟩ := hx
  rcases Nat.eq_zero_or_pos M.length with h0 | hp
  · have hM0 : M = [] := List.length_eq_zero_iff.1 h0
    subst hM0
    refine ⟨v, w, ?_, by rw [List.append_nil]; exact h, ⟨rfl, rfl, rfl, Nat.le_refl _, fun _ _ _ => rfl⟩⟩
    have hs : Src Try.prog i0.size 75 (.slice a 0 0) 0 [] w := by
      cases a with
      | none => exact Src.ofNil w Try.underlying75 0
      | some ad => exact Src.ofSlice w Try.underlying75 ad 0 0 [] (by simp) (fun j u hu => by simp at hu) (fun u hu => by simp at hu)
    rcases h with ⟨rfl, _⟩ | ⟨g, off, cap, rfl, _, ho⟩
    · exact run_append_nothing w 75 75 ty 3 i0 Try.underlying75 hi0 none 0 0 (Nat.le_refl _) _ hs
    · exact run_append_nothing w 75 75 ty 3 i0 Try.underlying75 hi0 _ _ _ ho.le _ hs
  · obtain ⟨b, o, rfl, hc⟩ := hM.cells (by omega)
    have hnews : ∀ j u, (M.map (Value.int .i64))[j]? = some u → w.cell? ((⟨b, o, none⟩ : Addr).add j) = some u := vec_news hc
    have hml : (M.map (Value.int .i64)).length = M.length * 1 := by simp
    rcases h with ⟨rfl, rfl⟩ | ⟨g, off, cap, rfl, h1', h2⟩
    · simp only [List.length_nil, Nat.zero_add] at hL
      obtain ⟨v', w', hr, hown, hg, hn⟩ := run_append_own (P := Try.prog) w B 75 ty 3 i0 _ 1 8 Try.underlying75 hi0 hz0 hz1 hz2 rfl (by omega) (.slice none 0 0) 0 [] (World.ownsRow_nil _ _ _ _) ⟨b, o, none⟩ M.length M.length (M.map (Value.int .i64)) hml hnews (one_cells M) (by unfold maxLen; omega) (by omega) hB
      obtain ⟨g2, cap2, hv2, hb2, hO⟩ := OSl.of_ownsRow hown (by rw [Ne, hn]; omega)
      subst hv2
      rw [Nat.zero_add] at hr hO
      exact ⟨_, w', hr, .inr ⟨g2, 0, cap2, rfl, hb2, hO⟩, hg⟩
    · obtain ⟨g', off', cap', w', hr, hO', hg, hat⟩ := run_append_os (P := Try.prog) w 75 ty 3 i0 _ 1 8 Try.underlying75 hi0 hz0 hz1 hz2 rfl (by omega) g off L.length cap _ h2 ⟨b, o, none⟩ M.length M.length (M.map (Value.int .i64)) hml hnews (one_cells M) (by unfold maxLen; omega) (by omega)
      refine ⟨_, w', hr, .inr ⟨g', off', cap', by rw [List.length_append], ?_, ?_⟩, hg⟩
      · rcases hat with h | h
        · rw [h]; exact h1'
        · rw [h]; exact hB
      · rw [List.length_append]
        unfold OI
        rw [List.map_append]
        exact hO'
/-- The first j lanes in one. -/
def catL (L : Nat → List Int) (j : Nat) : List Int := ((List.range j).map L).flatten
theorem catL_succ (L : Nat → List Int) (j : Nat) : catL L (j + 1) = catL L j ++ L j := by
  unfold catL
  rw [List.range_succ, List.map_append, List.flatten_append]
  simp
theorem catL_len {L : Nat → List Int} {k : Nat} (h : ∀ p, p < 8 → (L p).length ≤ k) : ∀ j, j ≤ 8 → (catL L j).length ≤ k * j := by
  intro j
  induction j with
  | zero => intro _; simp [catL]
  | succ j ih =>
    intro hj
    have := ih (by omega)
    have := h j (by omega)
    rw [catL_succ, List.length_append, Nat.mul_succ]
    omega

set_option maxRecDepth 100000 in
set_option maxHeartbeats 1600000 in
theorem concat_any (A : Nat) (f : Nat → Value) (L : Nat → List Int) (w : World) (hA : Av w A 0 8 f) (hL : ∀ p, p < 8 → Lv w (f p) (L p)) (h40 : ∀ p, p < 8 → (L p).length ≤ 40) :
    Calls Try.prog 113 #[.slice (some ⟨A, 0, none⟩) 8 8] w fun e w' => ∃ v, e = .returned v ∧ LaneV w' w.heap.size v (catL L 8) ∧ Below w.heap.size w w' := by
  have HA : Hid (Av w A 0 8 f) := hA
  have HL : Hid (∀ p, p < 8 → Lv w (f p) (L p)) := hL
  have H40 : Hid (∀ p, p < 8 → (L p).length ≤ 40) := h40
  have HC : Hid (∀ j, j ≤ 8 → (catL L j).length ≤ 40 * j) := catL_len h40
  clear hA hL h40
  go_enter Try.func113, Try.ntmps113
  go_wp2
  go_loop [3, 11] (fun s i => ∃ j : Nat, j ≤ 8 ∧ i = .int .i64 j ∧ s = .int .i64 ((catL L j).length : Nat)) (fun _ i => 8 - (intOf i).toNat)
  case atStart => exact ⟨0, Nat.zero_le _, rfl, rfl⟩
  case round =>
    obtain ⟨j, hj, rfl, rfl⟩ := hrel
    by_cases hlt : j < 8
    · have j1 : (j : Int) < 8 := by omega
      have j0 : (0 : Int) ≤ (j : Int) := by omega
      obtain ⟨a, hfj, _⟩ := HL.out j hlt
      have c1 := HA.out.cell j hlt
      rw [hfj, Nat.zero_add] at c1
      have n1 := HC.out j (by omega)
      have n2 := H40.out j hlt
      have HS : Hid ((catL L (j + 1)).length = (catL L j).length + (L j).length) := by rw [Hid, catL_succ, List.length_append]
      clear hfj
      generalize (catL L j).length = s at *
      generalize (L j).length = m at *
      have b1 : (s : Int) + (m : Int) ≤ 9223372036854775807 := by omega
      have b0 : -9223372036854775808 ≤ (s : Int) + (m : Int) := by omega
      have b2 : ¬ ((s : Int) + (m : Int) < 0) := by omega
      have b3 : decide ((s : Int) + (m : Int) < 0) = false := by simp; omega
      go_wp2
      go_round
      case rel => exact ⟨j + 1, by omega, by go_num, by rw [HS.out]; rfl⟩
      case measure => simp [intOf]; omega
    · have hj8 : j = 8 := by omega
      subst hj8
      have n1 := HC.out 8 (by omega)
      go_wp2_with fail
      refine (grow_any (catL L 8).length w (by omega)).mono ?_
      rintro e w1 ⟨v, rfl, hv, hb⟩
      have HV : Hid (LaneV w1 w.heap.size v (catL L 0)) := hv
      have HB : Hid (Below w.heap.size w w1) := hb
      clear hv hb
      go_wp2
      go_loopw [6, 27] (fun s i wr => ∃ j : Nat, j ≤ 8 ∧ i = .int .i64 j ∧ LaneV wr w.heap.size s (catL L j) ∧ Below w.heap.size w wr) (fun _ i _ => 8 - (intOf i).toNat)
      case atStart => exact ⟨0, Nat.zero_le _, rfl, HV.out, HB.out⟩
      case round =>
        obtain ⟨j, hj, rfl, hv, hb⟩ := hrel
        have KV : Hid (LaneV wr w.heap.size u6 (catL L j)) := hv
        have KB : Hid (Below w.heap.size w wr) := hb
        clear hv hb HV HB
        by_cases hlt : j < 8
        · have j1 : (j : Int) < 8 := by omega
          have j0 : (0 : Int) ≤ (j : Int) := by omega
          have hx := (HL.out j hlt).below KB.out
          obtain ⟨a, hfj, _⟩ := hx
          have hx := (HL.out j hlt).below KB.out
          have c1 := (HA.out.below KB.out HA.out.blk).cell j hlt
          rw [hfj, Nat.zero_add] at c1
          rw [hfj] at hx
          have hM := fun ty => lane_more KV.out hx KB.out.size (by have := HC.out j (by omega); have := H40.out j hlt; omega) ty
          clear hx hfj
          go_wp2_with (at_builtin; obtain ⟨v', w', hr, hv', hg'⟩ := hM _; refine Lib.wpList_append_run _ rfl _ _ 75 75 rfl u6 _ rfl rfl v' w' hr ?_)
          go_roundw
          case rel => exact ⟨j + 1, by omega, by go_num, by rw [catL_succ]; exact hv', KB.out.grown hg' KB.out.size (fun i hi => (KV.out.lt hi).1)⟩
          case measure => simp [intOf]; omega
        · have hj8 : j = 8 := by omega
          subst hj8
          go_wp2
          go_ret
          exact ⟨u6, rfl, KV.out, KB.out⟩
end Go.Proofs.Ytacjpebifacclaa

/-
  slices.Sort of int64 numbers, by the library's contract laid at this program.
-/
namespace Go.Proofs.Ytacjpebifacclaa
set_option linter.unusedSimpArgs false
set_option linter.unusedVariables false
open Go.RowKit Go.Sort Go.Shelf
def Try.sortO_ren : Go.Shelf.Ren := ⟨fun | 53 => 114 | 64 => 124 | 63 => 135 | 78 => 146 | 79 => 147 | 70 => 149 | 71 => 150 | 72 => 151 | 73 => 152 | 74 => 153 | 75 => 154 | 59 => 155 | 76 => 156 | 77 => 157 | 88 => 163 | 89 => 159 | 90 => 160 | 91 => 164 | 92 => 165 | 68 => 125 | 96 => 167 | n => n, fun | 22 => 24 | 23 => 2 | 3 => 3 | 51 => 122 | 0 => 0 | 67 => 142 | 69 => 144 | 4 => 4 | 61 => 135 | 60 => 134 | 44 => 139 | 5 => 5 | 9 => 9 | 75 => 153 | 79 => 157 | 83 => 161 | 84 => 162 | n => n, fun | n => n⟩
theorem Try.sortO : Go.Proofs.SlLaysN.n53 Try.prog Try.sortO_ren := {
  mixed := by kernel_rfl
  f53 := ⟨Try.f114.name, by decide, Try.func114.trans (congrArg some (by kernel_rfl))⟩
  f59 := ⟨Try.f155.name, by decide, Try.func155.trans (congrArg some (by kernel_rfl))⟩
  f63 := ⟨Try.f135.name, by decide, Try.func135.trans (congrArg some (by kernel_rfl))⟩
  f64 := Try.func124.trans (congrArg some (by kernel_rfl))
  f68 := ⟨Try.f125.name, by decide, Try.func125.trans (congrArg some (by kernel_rfl))⟩
  f70 := ⟨Try.f149.name, by decide, Try.func149.trans (congrArg some (by kernel_rfl))⟩
  f71 := ⟨Try.f150.name, by decide, Try.func150.trans (congrArg some (by kernel_rfl))⟩
  f72 := ⟨Try.f151.name, by decide, Try.func151.trans (congrArg some (by kernel_rfl))⟩
  f73 := ⟨Try.f152.name, by decide, Try.func152.trans (congrArg some (by kernel_rfl))⟩
  f74 := ⟨Try.f153.name, by decide, Try.func153.trans (congrArg some (by kernel_rfl))⟩
  f75 := ⟨Try.f154.name, by decide, Try.func154.trans (congrArg some (by kernel_rfl))⟩
  f76 := ⟨Try.f156.name, by decide, Try.func156.trans (congrArg some (by kernel_rfl))⟩
  f77 := ⟨Try.f157.name, by decide, Try.func157.trans (congrArg some (by kernel_rfl))⟩
  f78 := Try.func146.trans (congrArg some (by kernel_rfl))
  f79 := Try.func147.trans (congrArg some (by kernel_rfl))
  f88 := ⟨Try.f163.name, by decide, Try.func163.trans (congrArg some (by kernel_rfl))⟩
  f89 := Try.func159.trans (congrArg some (by kernel_rfl))
  f90 := Try.func160.trans (congrArg some (by kernel_rfl))
  f91 := ⟨Try.f164.name, by decide, Try.func164.trans (congrArg some (by kernel_rfl))⟩
  f92 := ⟨Try.f165.name, by decide, Try.func165.trans (congrArg some (by kernel_rfl))⟩
  f96 := ⟨Try.f167.name, by decide, Try.func167.trans (congrArg some (by kernel_rfl))⟩
  t0 := Try.underlying0
  a0 := Try.isAgg0
  z0 := Try.sizeOf0
  v0 := Try.zeroValue0
  t3 := Try.underlying3
  a3 := Try.isAgg3
  z3 := Try.sizeOf3
  v3 := Try.zeroValue3
  t4 := Try.underlying4
  a4 := Try.isAgg4
  z4 := Try.sizeOf4
  v4 := Try.zeroValue4
  t5 := Try.underlying5
  a5 := Try.isAgg5
  z5 := Try.sizeOf5
  v5 := Try.zeroValue5
  t9 := Try.underlying9
  a9 := Try.isAgg9
  z9 := Try.sizeOf9
  v9 := Try.zeroValue9
  t22 := Try.underlying24
  a22 := Try.isAgg24
  z22 := Try.sizeOf24
  v22 := Try.zeroValue24
  t23 := Try.underlying2
  a23 := Try.isAgg2
  z23 := Try.sizeOf2
  v23 := Try.zeroValue2
  t44 := Try.underlying139
  a44 := Try.isAgg139
  z44 := Try.sizeOf139
  v44 := Try.zeroValue139
  t51 := Try.underlying122
  a51 := Try.isAgg122
  z51 := Try.sizeOf122
  v51 := Try.zeroValue122
  t60 := Try.underlying134
  a60 := Try.isAgg134
  z60 := Try.sizeOf134
  v60 := Try.zeroValue134
  t61 := Try.underlying135
  a61 := Try.isAgg135
  z61 := Try.sizeOf135
  v61 := Try.zeroValue135
  t67 := Try.underlying142
  a67 := Try.isAgg142
  z67 := Try.sizeOf142
  v67 := Try.zeroValue142
  t69 := Try.underlying144
  a69 := Try.isAgg144
  z69 := Try.sizeOf144
  v69 := Try.zeroValue144
  t75 := Try.underlying153
  a75 := Try.isAgg153
  z75 := Try.sizeOf153
  v75 := Try.zeroValue153
  t79 := Try.underlying157
  a79 := Try.isAgg157
  z79 := Try.sizeOf157
  v79 := Try.zeroValue157
  t83 := Try.underlying161
  a83 := Try.isAgg161
  z83 := Try.sizeOf161
  v83 := Try.zeroValue161
  t84 := Try.underlying162
  a84 := Try.isAgg162
  z84 := Try.sizeOf162
  v84 := Try.zeroValue162 }

theorem OI.setsG {w : World} {g off n cap : Nat} {zs : List Int} (h : OI w g off n cap zs) {ys : List Int} (hy : ys.length = n) (os : Array Obj) (q : Nat) : OI (grow ((w.drewN q).setCells g off (ys.map (Value.int .i64))) os) g off n cap ys := by
  have hl : (ys.map (Value.int .i64)).length = n := by simp [hy]
  have hin := World.cell?_setCells_in g (ys.map (Value.int .i64)) off (w.drewN q) (fun j hj => by rw [hl] at hj; exact h.some j (by have := h.le; omega))
  have hs : g < ((w.drewN q).setCells g off (ys.map (Value.int .i64))).heap.size := by rw [size_setCells]; exact h.blk
  have h1 : OI ((w.drewN q).setCells g off (ys.map (Value.int .i64))) g off n cap ys := by
    refine ⟨by simp [hy], h.le, h.max, hs, fun i hi => ?_, fun i hi => ?_, fun i hi => by rw [World.frozen?_setCells]; exact h.free i hi⟩
    · simp only [Nat.mul_one] at hi
      rw [hin i (by rw [hl]; exact hi)]
      simp [show i < ys.length by omega]
    · by_cases hc : i < n
      · rw [hin i (by rw [hl]; exact hc)]; rfl
      · rw [World.cell?_setCells_out _ _ _ _ _ (fun _ _ => by rw [hl]; simp; omega)]; exact h.some i hi
  exact OSl.of_block h1 (heap_grow_old _ _ hs) (by rw [size_grow]; omega)
theorem sortO_any (g off cap : Nat) (zs : List Int) (w : World) (ho : OI w g off zs.length cap zs) (hn : zs.length ≤ 100000) :
    Calls Try.prog 114 #[.slice (some ⟨g, off, none⟩) zs.length cap] w fun e w' => e = .returned (.tuple #[]) ∧ OI w' g off zs.length cap (zs.mergeSort (fun x y => decide (x ≤ y))) ∧ w.grownBy w' (some g) := by
  have hH : Holds (Value.int .i64) w g off zs.toArray := fun j hj => by
    have hj' : j < zs.length := by simpa using hj
    refine ⟨?_, ho.free j (by have := ho.le; omega)⟩
    rw [ho.cellAt hj', el_eq hj']
    simp [hj']
  have hS : Calls Try.prog 114 #[.slice (some ⟨g, off, none⟩) zs.length cap] w fun e w' => e = .returned (.tuple #[]) ∧ ∃ n os, w' = grow (putRow (Value.int .i64) (Sort.ahead w n) g off (zs.mergeSort fun x y => decide (x ≤ y)).toArray) os :=
    calls_of_every_depth fun D => AnySG.slices_Sort_int_in Try.sortO D g off cap zs w hH ho.blk (by omega)
  refine hS.mono ?_
  rintro e w' ⟨he, q, os, hw⟩
  have hlen : (zs.mergeSort (fun x y => decide (x ≤ y))).length = zs.toArray.size := by simp
  have hw2 : w' = grow ((w.drewN q).setCells g off ((zs.mergeSort (fun x y => decide (x ≤ y))).map (Value.int .i64))) os := by
    rw [hw]; exact Lib.sorted_world (Value.int .i64) w g off q zs.toArray _ os hH hlen
  rw [hw2]
  refine ⟨he, ho.setsG (by simp) os q, ?_⟩
  have g1 := grown_setCells g ((zs.mergeSort (fun x y => decide (x ≤ y))).map (Value.int .i64)) off (w.drewN q)
  refine ⟨g1.os, g1.tape, g1.output, by simp [size_grow, size_setCells], fun k hk hr => ?_⟩
  rw [heap_grow_old _ _ (by rw [size_setCells]; exact hk)]
  exact g1.block k hk hr
end Go.Proofs.Ytacjpebifacclaa

/-
  The contract of the program's Flying.
-/
namespace Go.Proofs.Ytacjpebifacclaa
set_option linter.unusedSimpArgs false
set_option linter.unusedVariables false
open Go.RowKit Go.Sort
attribute [local irreducible] aV World.setCells

theorem flyB_kind {es : List Ev} {M : List Int} {k : Nat} (h : (evAt es k).k ≠ 2) : flyB es M (k : Int) = false := by simp [flyB, h]
/-- None of the first q numbers of M hears mail m. -/
def NoM (es : List Ev) (M : List Int) (m : Int) (q : Nat) : Prop := ∀ j, j < q → ¬ ((evAt es (el M j).toNat).k = 3 ∧ (evAt es (el M j).toNat).m = m)
theorem NoM.next {es : List Ev} {M : List Int} {m : Int} {q k : Nat} (h : NoM es M m q) (hk : el M q = (k : Int)) (hn : ¬ ((evAt es k).k = 3 ∧ (evAt es k).m = m)) : NoM es M m (q + 1) := fun j hj => by
  rcases Nat.lt_succ_iff_lt_or_eq.1 hj with h1 | h1
  · exact h j h1
  · subst h1; rw [hk, Int.toNat_natCast]; exact hn
theorem flyB_heard {es : List Ev} {M : List Int} {k q k' : Nat} (hq : q < M.length) (hk : el M q = (k' : Int)) (h3 : (evAt es k').k = 3) (hm : (evAt es k').m = (evAt es k).m) : flyB es M (k : Int) = false := by
  have : M.any (fun j => decide ((evAt es j.toNat).k = 3) && decide ((evAt es j.toNat).m = (evAt es (k : Int).toNat).m)) = true := by
    rw [List.any_eq_true]
    refine ⟨el M q, el_mem hq, ?_⟩
    rw [hk]
    simp [h3, hm]
  unfold flyB
  rw [this]
  simp
theorem flyB_fly {es : List Ev} {M : List Int} {k : Nat} (h2 : (evAt es k).k = 2) (h : NoM es M (evAt es k).m M.length) : flyB es M (k : Int) = true := by
  have : M.any (fun j => decide ((evAt es j.toNat).k = 3) && decide ((evAt es j.toNat).m = (evAt es (k : Int).toNat).m)) = false := by
    rw [List.any_eq_false]
    intro x hx
    obtain ⟨j, hj, rfl⟩ := el_mem_iff.1 hx
    have := h j hj
    simp only [Int.toNat_natCast, Bool.and_eq_true, decide_eq_true_eq]
    exact this
  unfold flyB
  rw [this]
  simp [h2]
theorem flyL_skip {es : List Ev} {M : List Int} {i : Nat} (hi : i < M.length) (h : flyB es M (el M i) = false) : flyL es M (M.take (i + 1)) = flyL es M (M.take i) := by
  rw [take_snoc hi, flyL_snoc, h]; simp
theorem flyL_put {es : List Ev} {M : List Int} {i : Nat} (hi : i < M.length) (h : flyB es M (el M i) = true) : flyL es M (M.take (i + 1)) = flyL es M (M.take i) ++ [(evAt es (el M i).toNat).m] := by
  rw [take_snoc hi, flyL_snoc, h]; simp
theorem LaneV.vec {w : World} {B : Nat} {v : Value} {L : List Int} (h : LaneV w B v L) (hf : Fits L) : ∃ a cap, v = .slice a L.length cap ∧ L.length ≤ cap ∧ Vec w a L.length L ∧ ∀ b o, a = some ⟨b, o, none⟩ → B ≤ b := by
  rcases h with ⟨rfl, rfl⟩ | ⟨g, off, cap, rfl, h1, h2⟩
  · exact ⟨none, 0, rfl, Nat.le_refl _, ⟨rfl, hf, .inl rfl⟩, fun b o h => by cases h⟩
  · exact ⟨_, cap, rfl, h2.le, h2.vec hf, fun b o h => by cases h; exact h1⟩
theorem allI_fits {es : List Ev} {n : Nat} {c : List Int} (h : IsCut es n c) : Fits (allI es n c) := fun x hx => by
  obtain ⟨k, rfl, hk, _⟩ := (mem_allI h).1 hx
  have := h.le40
  omega
theorem allI_len {es : List Ev} {n : Nat} {c : List Int} (h : IsCut es n c) : (allI es n c).length ≤ 320 := by
  have := catL_len (L := cutI es n c) (k := 40) (fun p hp => by rw [cutI_len h hp]; have := h.hi p hp; have := num_leK es (p : Int) n; have := h.le40; omega) 8 (Nat.le_refl _)
  exact this
theorem flyL_len (es : List Ev) (M L : List Int) : (flyL es M L).length ≤ L.length := by
  unfold flyL; rw [List.length_map]; exact List.length_filter_le _ _
/-- What Flying holds as it goes on: out, the numbers, the rest as it was. -/
structure Fls (w w4 cur : World) (a : Option Addr) (M : List Int) (g o c : Nat) (Z : List Int) : Prop where
  grown : w4.grownBy cur (some w.heap.size)
  out : OI cur g o Z.length c Z
  at_ : g = w.heap.size ∨ w4.heap.size ≤ g
theorem Fls.drewN {w w4 cur : World} {a : Option Addr} {M : List Int} {g o c : Nat} {Z : List Int} (h : Fls w w4 cur a M g o c Z) (n : Nat) : Fls w w4 (cur.drewN n) a M g o c Z :=
  ⟨⟨h.grown.os, h.grown.tape, h.grown.output, h.grown.size, h.grown.block⟩, h.out.drewN n, h.at_⟩
theorem Fls.put {w w4 cur w' : World} {a : Option Addr} {M : List Int} {g o c g' o' c' : Nat} {Z : List Int} {x : Int} (h : Fls w w4 cur a M g o c Z) (hO : OSl w' 1 g' o' (Z.length + 1) c' (Z.map (Value.int .i64) ++ [.int .i64 x])) (T : TypeId)
    (hg : (cur.alloc (.cells #[.int .i64 x] T)).grownBy w' (some g)) (hat : g' = g ∨ g' = (cur.alloc (.cells #[.int .i64 x] T)).heap.size) : Fls w w4 w' a M g' o' c' (Z ++ [x]) := by
  have hs : (cur.alloc (.cells #[.int .i64 x] T)).heap.size = cur.heap.size + 1 := by simp
  refine ⟨⟨hg.os.trans h.grown.os, hg.tape.trans h.grown.tape, hg.output.trans h.grown.output, by have := h.grown.size; have := hg.size; omega, fun k hk hne => ?_⟩, ?_, ?_⟩
  · have hkc : k < cur.heap.size := Nat.lt_of_lt_of_le hk h.grown.size
    rw [hg.block k (by omega) (by
      rcases h.at_ with e | e
      · rw [e]; exact hne
      · simp; omega), heap_alloc_old _ _ hkc, h.grown.block k hk hne]
  · unfold OI; rw [List.length_append, List.map_append]; exact hO
  · rcases hat with e | e
    · rw [e]; exact h.at_
    · right; have := h.grown.size; omega
theorem Fls.vec {w w4 cur : World} {a : Option Addr} {M : List Int} {g o c : Nat} {Z : List Int} (h : Fls w w4 cur a M g o c Z) (hv : Vec w4 a M.length M) (ha : ∀ b o, a = some ⟨b, o, none⟩ → w.heap.size + 1 ≤ b) : Vec cur a M.length M :=
  ⟨hv.1, hv.2.1, by
    rcases hv.2.2 with e | ⟨b, off, rfl, hc⟩
    · exact .inl e
    · exact .inr ⟨b, off, rfl, fun i hi => grown_cell h.grown (hc i hi) (by have := ha b off rfl; show b ≠ w.heap.size; omega)⟩⟩
theorem Fls.evs {w w4 cur : World} {a : Option Addr} {M : List Int} {g o c : Nat} {Z : List Int} (h : Fls w w4 cur a M g o c Z) {b off len : Nat} {es : List Ev} (hw : EvsAt w b off len es) (he : EvsAt w4 b off len es) : EvsAt cur b off len es := fun i hi => by
  have hb : b ≠ w.heap.size := by have := World.block_lt_of_cell? _ _ (hw i hi).1; simp only at this; omega
  exact ⟨grown_cell h.grown (he i hi).1 hb, grown_cell h.grown (he i hi).2.1 hb, grown_cell h.grown (he i hi).2.2 hb⟩
end Go.Proofs.Ytacjpebifacclaa

/-
  The contract of the program's Flying: the walk.
-/
namespace Go.Proofs.Ytacjpebifacclaa
set_option linter.unusedSimpArgs false
set_option linter.unusedVariables false
open Go.RowKit Go.Sort
attribute [local irreducible] aV World.setCells

set_option maxRecDepth 100000 in
set_option maxHeartbeats 3200000 in
theorem implFlying : ImplFlying := by
  intro b off len cap es a m c xs w hc hm hcap hv hmc hcm
  obtain ⟨i0, hi0, hz0, hz1, hz2⟩ := info_parts Try.info2
  have hb0 : Below w.heap.size w (w.alloc (.cells #[] 2)) := (Below.refl _ _).alloc (Nat.le_refl _) _
  have o0 := oi_empty w 2
  have hCk := implCutOk b off len cap es a m c xs (w.alloc (.cells #[] 2)) (evs_below hc hb0 (Nat.le_refl _)) hm hcap (hv.below hb0 (Nat.le_refl _)) hmc hcm
  cases ho : okC es len xs
  · rw [ho] at hCk
    have HO : Hid (okC es len xs = false) := ho
    go_enter Try.func57, Try.ntmps57
    go_wp2_with fail
    go_step3
    go_wp2_with fail
    refine hCk.mono ?_
    rintro e w1 ⟨rfl, hb1⟩
    have KO : Hid (OI w1 w.heap.size 0 0 0 []) := o0.below hb1 o0.blk
    have KB : Hid (Below w.heap.size w w1) := hb0.trans (hb1.mono hb0.size)
    clear hb1 hCk ho o0 hb0
    go_wp2
    rw [Exit.noGoto_ret]
    go_ret
    exact ⟨[], .inl ⟨HO.out, rfl⟩, ans_of rfl (Nat.le_refl _) KO.out KB.out⟩
  · rw [ho] at hCk
    have HO : Hid (okC es len xs = true) := ho
    have hI := (okC_iff.1 ho).1
    have HI : Hid (IsCut es len xs) := hI
    have hcB : cutB es len xs = true := cutB_iff.2 hI
    have HCE : Hid (EvsAt w b off len es) := hc
    go_enter Try.func57, Try.ntmps57
    go_wp2_with fail
    go_step3
    go_wp2_with fail
    refine hCk.mono ?_
    rintro e w1 ⟨rfl, hb1⟩
    have B1 : Below w.heap.size w w1 := hb0.trans (hb1.mono hb0.size)
    have O1 := o0.below hb1 o0.blk
    have hL := lanesIn_any b off len cap es a m c xs w1 (evs_below hc B1 (Nat.le_refl _)) hm hcap (hv.below B1 (Nat.le_refl _)) hmc hcm
    rw [hcB] at hL
    clear hCk hb1
    go_wp2_with fail
    refine hL.mono ?_
    rintro e w2 ⟨f, rfl, hl2, h2, hb2⟩
    obtain ⟨W3, hW3, hA3, hB3, hA0⟩ := pre_arr w2 f
    have H1 : Hid (∀ p, p < 8 → (f p).oneCell' = true) := h2
    have HA : Hid (Av (w2.alloc (.cells (aV 8 nilS) 105)) w2.heap.size 0 8 nilS) := hA0
    have B2 : Below w.heap.size w w2 := B1.trans (hb2.mono B1.size)
    have B3 : Below w.heap.size w W3 := B2.trans (hB3.mono B2.size)
    have O3 : OI W3 w.heap.size 0 0 0 [] := (O1.below hb2 O1.blk).below hB3 (Nat.lt_of_lt_of_le O1.blk hb2.size)
    have hK := concat_any w2.heap.size f (cutI es len xs) W3 hA3 (fun p hp => (hl2 trivial p hp).below hB3) (fun p hp => by rw [cutI_len hI hp]; have := hI.hi p hp; have := num_leK es (p : Int) len; have := hI.le40; omega)
    have KB3 : Hid (Below w.heap.size w W3) := B3
    have KO3 : Hid (OI W3 w.heap.size 0 0 0 []) := O3
    clear hL h2 hl2 hb2 hA3 hB3 hA0 B2 B3 O3 O1 B1 ho hcB hI o0 hb0 hc hv
    go_wp2_with (first | (refine wpA_alloc _ rfl 105 8 192 nilS rfl Try.infoLn ?_) | (refine wpA_store _ rfl rfl 105 8 192 nilS _ _ rfl Try.infoLn w2.heap.size 0 nilS f H1.out rfl rfl HA.out ?_))
    clear hW3
    refine hK.mono ?_
    rintro e w4 ⟨v, rfl, hv4, hb4⟩
    have hv4' : LaneV w4 W3.heap.size v (allI es len xs) := hv4
    obtain ⟨aM, cM, rfl, hcM, hVM, hbM⟩ := hv4'.vec (allI_fits HI.out)
    have HM : Hid (∀ x, x ∈ allI es len xs → ∃ k : Nat, x = (k : Int) ∧ k < len) := fun x hx => by
      obtain ⟨k, h1, h2, _⟩ := (mem_allI HI.out).1 hx
      exact ⟨k, h1, h2⟩
    have HFly : Hid (IsFly es len xs len ((flyL es (allI es len xs) (allI es len xs)).mergeSort (fun x y => decide (x ≤ y)))) := flyL_sorted HI.out
    have hM320 := allI_len HI.out
    have KV : Hid (Vec w4 aM (allI es len xs).length (allI es len xs)) := hVM
    have KBM : Hid (∀ b o, aM = some ⟨b, o, none⟩ → w.heap.size + 1 ≤ b) := fun b o h => by have := hbM b o h; have := KO3.out.blk; omega
    have KB4 : Hid (Below w.heap.size w w4) := KB3.out.trans (hb4.mono KB3.out.size)
    have KE4 : Hid (EvsAt w4 b off len es) := evs_below HCE.out KB4.out (Nat.le_refl _)
    have KF : Hid (Fls w w4 w4 aM (allI es len xs) w.heap.size 0 0 []) := ⟨grown_refl _ _, KO3.out.below hb4 KO3.out.blk, .inl rfl⟩
    clear hv4 hv4' hVM hbM hb4 hK H1 HA KB3 KO3 HI
    generalize allI es len xs = M at *
    go_wp2
    go_step3
    go_wp2
    go_loopg [5, 29] M.length (fun g s5 s29 wr => ∃ i : Nat, i + g = M.length ∧ s29 = .int .i64 i ∧ ∃ go oo co, s5 = .slice (some ⟨go, oo, none⟩) (flyL es M (M.take i)).length co ∧ Fls w w4 wr aM M go oo co (flyL es M (M.take i)))
    case atStart => exact ⟨0, by omega, rfl, w.heap.size, 0, 0, rfl, KF.out⟩
    case round =>
      obtain ⟨i, hig, rfl, go, oo, co, rfl, hF⟩ := hrel
      have LF : Hid (Fls w w4 wr aM M go oo co (flyL es M (M.take i))) := hF
      clear hF KF
      cases gk with
      | zero =>
        have hiM : i = M.length := by omega
        subst hiM
        have LF2 : Hid (Fls w w4 wr aM M go oo co (flyL es M M)) := by have := LF.out; rwa [List.take_length] at this
        rw [List.take_length]
        have hz : (flyL es M M).length ≤ 320 := Nat.le_trans (flyL_len _ _ _) hM320
        have hSo := sortO_any go oo co (flyL es M M) wr LF2.out.out (by omega)
        generalize flyL es M M = Z at *
        clear LF
        go_wp2_with fail
        refine hSo.mono ?_
        rintro e w5 ⟨rfl, hO5, hg5⟩
        have hsz : (Z.mergeSort (fun x y => decide (x ≤ y))).length = Z.length := by simp
        have KO5 : Hid (OI w5 go oo Z.length co (Z.mergeSort (fun x y => decide (x ≤ y)))) := hO5
        have KG : Hid (w.heap.size ≤ go) := by
          rcases LF2.out.at_ with e | e
          · rw [Hid, e]; exact Nat.le_refl _
          · have := KB4.out.size; rw [Hid]; omega
        have KB5 : Hid (Below w.heap.size w w5) := by
          have h1 : Below w.heap.size w wr := KB4.out.grown LF2.out.grown KB4.out.size (fun k hk => by cases hk; exact Nat.le_refl _)
          exact h1.grown hg5 h1.size (fun k hk => by cases hk; exact KG.out)
        clear hO5 hg5 hSo
        go_wp2
        rw [Exit.noGoto_ret]
        go_ret
        exact ⟨_, .inr ⟨HO.out, HFly.out⟩, ans_of hsz KG.out KO5.out KB5.out⟩
      | succ g1 =>
        have hi : i < M.length := by omega
        have i1 : (i : Int) < (M.length : Int) := by omega
        have ii0 : (0 : Int) ≤ (i : Int) := by omega
        obtain ⟨k, hk, hkl⟩ := HM.out (el M i) (el_mem hi)
        have HK : Hid (el M i = (k : Int)) := hk
        obtain ⟨bM, oM, rfl, hcell⟩ := (LF.out.vec KV.out KBM.out).cells (by omega)
        have x1 := hcell i hi
        rw [hk] at x1
        have k1 : (k : Int) < (len : Int) := by omega
        have k0 : (0 : Int) ≤ (k : Int) := by omega
        have LE : Hid (EvsAt wr b off len es) := LF.out.evs HCE.out KE4.out
        have LC : Hid (∀ q, q < M.length → wr.cell? ⟨bM, oM + q, none⟩ = some (.int .i64 (el M q))) := hcell
        obtain ⟨e0, e1, e2⟩ := LE.out k hkl
        clear hk hcell
        by_cases h2 : (evAt es k).k = 2
        · rw [h2] at e1
          go_wp2
          go_loopg [41] M.length (fun g s41 wx => ∃ q : Nat, q + g = M.length ∧ s41 = .int .i64 q ∧ NoM es M (evAt es k).m q ∧ ∃ n, wx = wr.drewN n)
          case atStart => exact ⟨0, by omega, rfl, fun j hj => by omega, 0, rfl⟩
          case round =>
            obtain ⟨q, hqg, rfl, hN, n, rfl⟩ := hrel
            have MN : Hid (NoM es M (evAt es k).m q) := hN
            clear hN
            cases gk with
            | zero =>
              have hqM : q = M.length := by omega
              subst hqM
              have HP : Hid (flyL es M (M.take (i + 1)) = flyL es M (M.take i) ++ [(evAt es k).m]) := by
                have := flyL_put (es := es) hi (by rw [HK.out]; exact flyB_fly h2 MN.out)
                rwa [HK.out, Int.toNat_natCast] at this
              have hzl : (flyL es M (M.take i)).length ≤ 320 := Nat.le_trans (flyL_len _ _ _) (by rw [List.length_take]; omega)
              have LFn := LF.out.drewN n
              generalize flyL es M (M.take i) = Z at *
              have hO1 : OSl ((wr.drewN n).alloc (.cells #[.int .i64 (evAt es k).m] 2)) 1 go oo Z.length co (Z.map (Value.int .i64)) := OSl.below LFn.out ((Below.refl _ _).alloc (Nat.le_refl _) _) LFn.out.blk
              have KLF : Hid (Fls w w4 (wr.drewN n) (some ⟨bM, oM, none⟩) M go oo co Z) := LFn
              clear LFn
              go_wp2_with (at_builtin; refine wpList_append_os _ rfl _ _ 24 rfl 2 i0 _ 1 8 Try.underlying24 hi0 hz0 hz1 hz2 rfl (by omega) go oo Z.length co _ rfl hO1 ⟨wr.heap.size, 0, none⟩ 1 1 [.int .i64 (evAt es k).m] rfl rfl (World.news_of_block (cs := #[.int .i64 (evAt es k).m]) (t := 2) (fr := (0, 0)) (heap_alloc_new _ _)) (by simp [Value.oneCell']) (by unfold maxLen; omega) (by omega) ?_; intro g6 o6 c6 w6 hO6 hg6 hat6)
              go_roundg g1
              case measure => omega
              case rel => exact ⟨i + 1, by omega, by go_num, g6, o6, c6, by rw [HP.out, List.length_append]; rfl, by rw [HP.out]; exact KLF.out.put hO6 2 hg6 hat6⟩
            | succ g2 =>
              have hq : q < M.length := by omega
              have q1 : (q : Int) < (M.length : Int) := by omega
              have q0 : (0 : Int) ≤ (q : Int) := by omega
              obtain ⟨k', hk', hkl'⟩ := HM.out (el M q) (el_mem hq)
              have HK' : Hid (el M q = (k' : Int)) := hk'
              have x2 := LC.out q hq
              rw [hk'] at x2
              have k1' : (k' : Int) < (len : Int) := by omega
              have k0' : (0 : Int) ≤ (k' : Int) := by omega
              obtain ⟨f0, f1, f2⟩ := LE.out k' hkl'
              clear hk'
              by_cases h3 : (evAt es k').k = 3
              · rw [h3] at f1
                by_cases hm3 : (evAt es k').m = (evAt es k).m
                · have HS : Hid (flyL es M (M.take (i + 1)) = flyL es M (M.take i)) := flyL_skip hi (by rw [HK.out]; exact flyB_heard hq HK'.out h3 hm3)
                  have hb3 : ((evAt es k').m == (evAt es k).m) = true := by simpa using hm3
                  clear hm3 h3
                  go_wp2_with fail
                  go_quiet (fail)
                  go_wp2
                  go_roundg g1
                  case measure => omega
                  case rel => exact ⟨i + 1, by omega, by go_num, go, oo, co, by rw [HS.out], by rw [HS.out]; exact LF.out.drewN _⟩
                · have HN' : Hid (NoM es M (evAt es k).m (q + 1)) := MN.out.next HK'.out (fun h => hm3 h.2)
                  have hb3 : ((evAt es k').m == (evAt es k).m) = false := by simpa using hm3
                  clear hm3 h3
                  go_wp2_with fail
                  go_quiet (fail)
                  go_wp2
                  go_roundg g2
                  case measure => omega
                  case rel => exact ⟨q + 1, by omega, by go_num, HN'.out, _, rfl⟩
              · have HN' : Hid (NoM es M (evAt es k).m (q + 1)) := MN.out.next HK'.out (fun h => h3 h.1)
                have hb3 : ((evAt es k').k == 3) = false := by simpa using h3
                clear h3
                go_wp2_with fail
                go_quiet (fail)
                go_wp2
                go_roundg g2
                case measure => omega
                case rel => exact ⟨q + 1, by omega, by go_num, HN'.out, _, rfl⟩
        · have h2b : ((evAt es k).k != 2) = true := by simpa using h2
          have HS : Hid (flyL es M (M.take (i + 1)) = flyL es M (M.take i)) := flyL_skip hi (by rw [HK.out]; exact flyB_kind h2)
          clear h2
          go_wp2
          go_roundg g1
          case measure => omega
          case rel => exact ⟨i + 1, by omega, by go_num, go, oo, co, by rw [HS.out], by rw [HS.out]; exact LF.out⟩
end Go.Proofs.Ytacjpebifacclaa
