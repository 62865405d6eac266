/-
  Several texts in one: Ear Wip Wii Ari.
-/
import Derived.Test.YtacjpebifacclaaGa
import Derived.Test.YtacjpebifacclaaGj
import Derived.Test.YtacjpebifacclaaGi
import Derived.Deep.LoopGhost
/-
  The contracts of Earlier and Apart, the specification's and the program's, and the walks of the laws FnExactEarlier and FnExactApart.
-/
namespace Go.Proofs.Ytacjpebifacclaa
set_option linter.unusedSimpArgs false
set_option linter.unusedVariables false
open Go.RowKit

def earlB (xs ys : List Int) : Bool := underB xs ys && !decide (xs = ys)
def apartB (xs ys : List Int) : Bool := twoB xs ys && !underB xs ys && !underB ys xs

set_option maxHeartbeats 400000 in
theorem slEqual_any (a a' : Option Addr) (len cap len' cap' : Nat) (xs ys : List Int) (w : World) (hv : Vec w a len xs) (hv' : Vec w a' len' ys) (hm : len ≤ maxLen) :
    Calls Try.prog 108 #[.slice a len cap, .slice a' len' cap'] w fun e w' => e = .returned (.bool (decide (xs = ys))) ∧ ∃ n, w' = w.drewN n := by
  unfold maxLen at hm
  obtain ⟨hlen, _, hcs⟩ := hv
  obtain ⟨hlen', _, hcs'⟩ := hv'
  by_cases hl : len = len'
  · have hne : ((len : Int) != (len' : Int)) = false := by simp [hl]
    have HL : Hid (xs.length = len) := hlen
    have HL' : Hid (ys.length = len') := hlen'
    have HLL : Hid (len = len') := hl
    have hle : (len : Int) ≤ (len' : Int) := by omega
    clear hlen hlen' hl
    by_cases h0 : len = 0
    · have hx : xs = [] := List.length_eq_zero_iff.1 (by rw [HL.out]; exact h0)
      have hy : ys = [] := List.length_eq_zero_iff.1 (by rw [HL'.out, ← HLL.out]; exact h0)
      subst h0 hx hy
      clear hcs hcs'
      go_enter Try.func108, Try.ntmps108
      go_wp2
      go_loop [13] (fun i => i = .int .i64 0) (fun _ => 0)
      case atStart => rfl
      case round =>
        subst hrel
        go_wp2
        go_ret
        exact ⟨rfl, 0, rfl⟩
    · rcases hcs with h | ⟨b, off, rfl, hc⟩
      · omega
      rcases hcs' with h | ⟨b', off', rfl, hc'⟩
      · have := HLL.out; omega
      go_enter Try.func108, Try.ntmps108
      go_wp2
      go_loopw [13] (fun i wr => ∃ k : Nat, k ≤ len ∧ i = .int .i64 k ∧ (∀ j, j < k → el xs j = el ys j) ∧ ∃ n, wr = w.drewN n) (fun i _ => len - (intOf i).toNat)
      case atStart => exact ⟨0, Nat.zero_le _, rfl, fun j hj => by omega, 0, rfl⟩
      case round =>
        obtain ⟨k, hk, rfl, hall, n, rfl⟩ := hrel
        have HA : Hid (∀ j, j < k → el xs j = el ys j) := hall
        clear hall
        by_cases hlt : k < len
        · have hck := hc k hlt
          have hck' := hc' k (by have := HLL.out; omega)
          have hi1 : (k : Int) < (len : Int) := by omega
          have hi2 : (k : Int) < (len' : Int) := by omega
          by_cases he : el xs k = el ys k
          · have hd : (el xs k != el ys k) = false := by simp [he]
            have HX : Hid (el xs k = el ys k) := he
            clear he
            go_wp2_with fail
            go_quiet (fail)
            go_wp2
            go_roundw
            case rel => exact ⟨k + 1, by omega, by go_num, fun j hj => by
              rcases Nat.lt_succ_iff_lt_or_eq.1 hj with h | h
              · exact HA.out j h
              · rw [h]; exact HX.out, _, rfl⟩
            case measure => simp [intOf]; omega
          · have hd : (el xs k != el ys k) = true := by simp [he]
            go_wp2_with fail
            go_quiet (fail)
            go_wp2
            go_ret
            exact ⟨ret_bool (by symm; rw [decide_eq_false_iff_not]; intro h; exact he (by rw [h])), _, World.drewN_drewN _ _ _⟩
        · go_wp2
          go_ret
          exact ⟨ret_bool (by symm; rw [decide_eq_true_iff]; exact eq_of_all (by rw [HL.out, HL'.out, HLL.out]) (fun j hj => HA.out j (by rw [HL.out] at hj; omega))), _, rfl⟩
  · have hne : ((len : Int) != (len' : Int)) = true := by simp; omega
    go_enter Try.func108, Try.ntmps108
    go_wp2
    go_ret
    exact ⟨ret_bool (by symm; rw [decide_eq_false_iff_not]; intro h; rw [h] at hlen; omega), 0, rfl⟩

end Go.Proofs.Ytacjpebifacclaa

/-
  What the program's Within and Around have laid ahead of their loops.
-/
namespace Go.Proofs.Ytacjpebifacclaa
set_option linter.unusedSimpArgs false
set_option linter.unusedVariables false
open Go.RowKit Go.Sort

theorem cut_b6 {es : List Ev} {n : Nat} {c : List Int} (h : IsCut es n c) : ∀ j, j < 8 → 0 ≤ el c j ∧ el c j ≤ 1000000 := fun j hj => by
  have := h.lo j hj
  have := h.hi j hj
  have := num_leK es (j : Int) n
  have := h.le40
  omega
theorem cl_b6' {es : List Ev} {n k : Nat} (hk : k < n) (h40 : n ≤ 40) : ∀ j, j < 8 → 0 ≤ el (cl es k) j ∧ el (cl es k) j ≤ 1000000 := fun j hj => by have := cl_bound es k j hj; omega
theorem under_ucl {es : List Ev} {n k : Nat} {c : List Int} (h : IsCut es n c) (hk : k < n) : underB (cl es k) c = true ↔ Ucl es c k := by
  unfold underB twoB
  rw [ok8 (cl_len es k) (cl_b6' hk h.le40), ok8 h.len (cut_b6 h), cl_len, h.len]
  simp only [decide_true, Bool.and_self, Bool.true_and]
  constructor
  · intro hl q hq
    unfold leB at hl
    rw [cl_len, List.all_eq_true] at hl
    simpa using hl q (List.mem_range.2 hq)
  · intro hu
    exact leB_true (fun j hj => hu j (by rwa [cl_len] at hj))
theorem OI.sets8 {w : World} {g off n cap : Nat} {zs : List Int} (h : OI w g off n cap zs) {ys : List Int} (hy : ys.length = n) : OI (w.setCells g off (ys.map (Value.int .i64))) g off n cap ys := by
  have hl : (ys.map (Value.int .i64)).length = n := by simp [hy]
  have hin := World.cell?_setCells_in g (ys.map (Value.int .i64)) off w (fun j hj => by rw [hl] at hj; exact h.some j (by have := h.le; omega))
  refine ⟨by simp [hy], h.le, h.max, by rw [size_setCells]; exact h.blk, fun i hi => ?_, fun i hi => ?_, fun i hi => by rw [World.frozen?_setCells]; exact h.free i hi⟩
  · simp only [Nat.mul_one] at hi
    rw [hin i (by rw [hl]; exact hi)]
    simp [show i < ys.length by omega]
  · by_cases hc : i < n
    · rw [hin i (by rw [hl]; exact hc)]; rfl
    · rw [World.cell?_setCells_out _ _ _ _ _ (fun _ _ => by rw [hl]; simp; omega)]; exact h.some i hi
/-- copy of eight numbers into a slice of one's own. -/
theorem wpA_copy8 {ops : Array Oper} {rest : List Oper} {o : Oper} {a : Act} {Q : Exit → Act → World → Prop} (w : World) (hgd : o.guard = none) (x y : Operand)
    (hop : o.op = .call { callee := .builtin .copy, args := #[x, y], argTypes := #[24, 24] }) (b g f cap cap' : Nat) (zs xs : List Int) (hx8 : xs.length = 8)
    (hx : a.eval x = .slice (some ⟨b, 0, none⟩) 8 cap) (hy : a.eval y = .slice (some ⟨g, f, none⟩) 8 cap') (hb : OI w b 0 8 cap zs) (hg : ∀ i, i < 8 → w.cell? ⟨g, f + i, none⟩ = some (.int .i64 (el xs i)))
    (h : wpList Try.prog ops Q rest (a.put o.dst (goInt 8)) (w.setCells b 0 (xs.map (Value.int .i64)))) : wpList Try.prog ops Q (o :: rest) a w := by
  have hi : (Try.prog.info? 2).map (·.size) = some 1 := by
    have := Try.info2
    cases hq : Try.prog.info? 2 with
    | none => rw [hq] at this; simp at this
    | some i => rw [hq] at this; simp at this; simp [this.2.1]
  have hl : (xs.map (Value.int .i64)).length = 8 := by simp [hx8]
  have hr := run_copy_cells (P := Try.prog) w 24 24 o.type 2 b 0 8 cap ⟨g, f, none⟩ 8 cap' (xs.map (Value.int .i64)) Try.underlying24 hi (by rw [hl]; rfl)
    (vec_news (fun i hi => by exact hg i (by omega))) (fun j hj => by rw [hl] at hj; exact hb.some j (by have := hb.le; omega)) (fun j hj => by rw [hl] at hj; exact hb.free j (by have := hb.le; omega)) (one_cells xs)
  rw [hl] at hr
  refine wpA_val w hgd _ _ ?_ h
  simp [execOp, hop, resolve, invoke, builtin, hx, hy, hr, Result.andThen]
/-- The parts: the array of lanes at block A, the lanes, the rows of clocks, the cut. -/
structure Pre (w cur : World) (es : List Ev) (n : Nat) (c : List Int) (A : Nat) (f : Nat → Value) (Bs gc fc cc : Nat) (rk : Nat → Nat × Nat × Nat) (gx fx : Nat) : Prop where
  below : Below w.heap.size w cur
  arr : Av cur A 0 8 f
  lanes : ∀ p, p < 8 → Lv cur (f p) (cutI es n c p)
  rows : VR cur Bs gc fc n cc n rk (cl es)
  cut : ∀ i, i < 8 → cur.cell? ⟨gx, fx + i, none⟩ = some (.int .i64 (el c i))
theorem Pre.step {w cur next : World} {es : List Ev} {n : Nat} {c : List Int} {A : Nat} {f : Nat → Value} {Bs gc fc cc : Nat} {rk : Nat → Nat × Nat × Nat} {gx fx : Nat} (h : Pre w cur es n c A f Bs gc fc cc rk gx fx) (hb : Below cur.heap.size cur next) : Pre w next es n c A f Bs gc fc cc rk gx fx :=
  ⟨h.below.trans (hb.mono h.below.size), h.arr.below hb h.arr.blk, fun p hp => (h.lanes p hp).below hb, h.rows.below hb, fun i hi => (hb.cell (World.block_lt_of_cell? _ _ (h.cut i hi))).trans (h.cut i hi)⟩
/-- out, laid and filled with the cut. -/
theorem pre_out (w3 : World) (xs : List Int) (h8 : xs.length = 8) : ∃ W, (w3.alloc (.cells (madeCells #[.int .i64 0] 8) 2)).setCells w3.heap.size 0 (xs.map (Value.int .i64)) = W ∧ OI W w3.heap.size 0 8 8 xs ∧ Below w3.heap.size w3 W ∧ OI (w3.alloc (.cells (madeCells #[.int .i64 0] 8) 2)) w3.heap.size 0 8 8 (List.replicate 8 0) := by
  have h := oi_made w3 8 (by unfold maxLen; omega)
  have b1 : Below w3.heap.size w3 (w3.alloc (.cells (madeCells #[.int .i64 0] 8) 2)) := (Below.refl _ _).alloc (Nat.le_refl _) _
  exact ⟨_, rfl, h.sets8 h8, below_grown b1 (grown_setCells _ _ _ _) (Nat.le_refl _) b1.size, h⟩
/-- The array of lanes, laid. -/
theorem pre_arr (w1 : World) (f : Nat → Value) : ∃ W, (w1.alloc (.cells (aV 8 nilS) 105)).setCells w1.heap.size 0 (aV 8 f).toList = W ∧ Av W w1.heap.size 0 8 f ∧ Below w1.heap.size w1 W ∧ Av (w1.alloc (.cells (aV 8 nilS) 105)) w1.heap.size 0 8 nilS := by
  have h := av_alloc w1 8 nilS 105
  have b1 : Below w1.heap.size w1 (w1.alloc (.cells (aV 8 nilS) 105)) := (Below.refl _ _).alloc (Nat.le_refl _) _
  exact ⟨_, rfl, h.sets f, below_grown b1 (grown_setCells _ _ _ _) (Nat.le_refl _) b1.size, h⟩
end Go.Proofs.Ytacjpebifacclaa

/-
  The contracts of the program's Within and CutOk.
-/
namespace Go.Proofs.Ytacjpebifacclaa
set_option linter.unusedSimpArgs false
set_option linter.unusedVariables false
open Go.RowKit Go.Sort
attribute [local irreducible] aV World.setCells

/-- The first q places of lane p are within. -/
def Wq (es : List Ev) (n : Nat) (c : List Int) (p q : Nat) : Prop := ∀ k, k < n → (evAt es k).n = (p : Int) → num es (p : Int) k < q → Ucl es c k
theorem Wq.start (es : List Ev) (n : Nat) (c : List Int) (p : Nat) : Wq es n c p 0 := fun k _ _ h => by omega
theorem Wq.next {es : List Ev} {n p q k : Nat} {c : List Int} (h : Wq es n c p q) (hn : (evAt es k).n = (p : Int)) (hq : num es (p : Int) k = q) (hu : Ucl es c k) : Wq es n c p (q + 1) := fun k' hk' hn' hl => by
  by_cases e : num es (p : Int) k' < q
  · exact h k' hk' hn' e
  · have a := place_le hn hn' (by omega)
    have b := place_le hn' hn (by omega)
    have : k' = k := by omega
    rw [this]; exact hu
theorem Wq.stop {es : List Ev} {n p q k : Nat} {c : List Int} (h : Wq es n c p q) (hk : k < n) (hn : (evAt es k).n = (p : Int)) (hq : num es (p : Int) k = q) (hi : (q : Int) ≤ el c p) (hu : ¬ Ucl es c k) : Wat es n c p (q : Int) :=
  ⟨by omega, hi, fun k' hk' hn' hl => h k' hk' hn' (by omega), .inr ⟨k, hk, hn, by omega, hu⟩⟩
theorem Wq.done {es : List Ev} {n p : Nat} {c : List Int} (h : Wq es n c p (el c p).toNat) (h0 : 0 ≤ el c p) : Wat es n c p (el c p) :=
  ⟨h0, Int.le_refl _, fun k' hk' hn' hl => h k' hk' hn' (by omega), .inl rfl⟩

set_option maxRecDepth 100000 in
set_option maxHeartbeats 3200000 in
theorem implWithin : ImplWithin := by
  intro b off len cap es a m c xs w hc hm hcap hv hmc hcm
  have hL := lanesIn_any b off len cap es a m c xs w hc hm hcap hv hmc hcm
  cases ho : cutB es len xs
  · rw [ho] at hL
    have HO : Hid (cutB es len xs = false) := ho
    go_enter Try.func51, Try.ntmps51
    go_wp2_with fail
    go_step3
    go_wp2_with fail
    refine hL.mono ?_
    rintro e w1 ⟨f, rfl, _, h1, hb1⟩
    obtain ⟨W2, hW2, hA2, hB2, hA0⟩ := pre_arr w1 f
    have H1 : Hid (∀ p, p < 8 → (f p).oneCell' = true) := h1
    have HA : Hid (Av (w1.alloc (.cells (aV 8 nilS) 105)) w1.heap.size 0 8 nilS) := hA0
    have HB : Hid (Below w.heap.size w W2) := hb1.trans (hB2.mono hb1.size)
    clear h1 hb1 hA0 hA2 hB2 hL ho
    go_wp2_with (first | (refine wpA_alloc _ rfl 105 8 192 nilS rfl Try.infoLn ?_) | (refine wpA_store _ rfl rfl 105 8 192 nilS _ _ rfl Try.infoLn w1.heap.size 0 nilS f H1.out rfl rfl HA.out ?_))
    rw [Exit.noGoto_ret]
    go_ret
    exact ⟨[], .inl ⟨HO.out, rfl⟩, W2.heap.size, 0, 0, rfl, HB.out.size, oi_empty _ _, HB.out.alloc HB.out.size _⟩
  · rw [ho] at hL
    obtain ⟨rfl, hI, gx, fx, rfl, hx⟩ := cut_cells hv ho
    have HO : Hid (cutB es len xs = true) := ho
    have HI : Hid (IsCut es len xs) := hI
    have h40 := hI.le40
    have hl8 := hI.len
    have HF : Hid (Fits xs) := hv.2.1
    have hN : ckN es len = len := by unfold ckN; rw [hI.ok]; rfl
    have hmk := run_make_row' (P := Try.prog) 24 2 (.int .i64 0) 8 Try.underlying24 Try.info2 rfl .i64 .i64 8 (by omega) (by omega)
    have h8e : ((8 : Nat) : Int) = 8 := rfl
    simp only [h8e] at hmk
    go_enter Try.func51, Try.ntmps51
    go_wp2_with fail
    go_step3
    go_wp2_with fail
    refine hL.mono ?_
    rintro e w1 ⟨f, rfl, hl1, h1, hb1⟩
    obtain ⟨W2, hW2, hA2, hB2, hA0⟩ := pre_arr w1 f
    have H1 : Hid (∀ p, p < 8 → (f p).oneCell' = true) := h1
    have HA : Hid (Av (w1.alloc (.cells (aV 8 nilS) 105)) w1.heap.size 0 8 nilS) := hA0
    have B2 : Below w.heap.size w W2 := hb1.trans (hB2.mono hb1.size)
    have hK := implClocks_any b off len cap es W2 (evs_below hc B2 (Nat.le_refl _)) hm hcap
    rw [hN] at hK
    have KA2 : Hid (Av W2 w1.heap.size 0 8 f) := hA2
    have KL2 : Hid (∀ p, p < 8 → Lv W2 (f p) (cutI es len xs p)) := fun p hp => (hl1 trivial p hp).below hB2
    have KB2 : Hid (Below w.heap.size w W2) := B2
    have KX2 : Hid (∀ i, i < 8 → W2.cell? ⟨gx, fx + i, none⟩ = some (.int .i64 (el xs i))) := fun i hi => (B2.cell (World.block_lt_of_cell? _ _ (hx i hi))).trans (hx i hi)
    clear h1 hb1 hA0 hA2 hB2 hL ho hl1 B2 hI hx
    go_wp2_with (first | (refine wpA_alloc _ rfl 105 8 192 nilS rfl Try.infoLn ?_) | (refine wpA_store _ rfl rfl 105 8 192 nilS _ _ rfl Try.infoLn w1.heap.size 0 nilS f H1.out rfl rfl HA.out ?_))
    clear hW2
    refine hK.mono ?_
    rintro e w3 ⟨gc, fc, cc, rk, rfl, _, V3, hb3⟩
    have P3 : Pre w w3 es len xs w1.heap.size f W2.heap.size gc fc cc rk gx fx := ⟨KB2.out.trans (hb3.mono KB2.out.size), KA2.out.below hb3 KA2.out.blk, fun p hp => (KL2.out p hp).below hb3, V3, fun i hi => (hb3.cell (World.block_lt_of_cell? _ _ (KX2.out i hi))).trans (KX2.out i hi)⟩
    have KP : Hid (Pre w w3 es len xs w1.heap.size f W2.heap.size gc fc cc rk gx fx) := P3
    obtain ⟨W4, hW4, O4, B4, O3⟩ := pre_out w3 xs hl8
    have KO3 : Hid (OI (w3.alloc (.cells (madeCells #[.int .i64 0] 8) 2)) w3.heap.size 0 8 8 (List.replicate 8 0)) := O3
    have KO4 : Hid (OI W4 w3.heap.size 0 8 8 xs) := O4
    have KB4 : Hid (Below w3.heap.size w3 W4) := B4
    have KX3 : Hid (∀ i, i < 8 → (w3.alloc (.cells (madeCells #[.int .i64 0] 8) 2)).cell? ⟨gx, fx + i, none⟩ = some (.int .i64 (el xs i))) := (P3.step ((Below.refl _ _).alloc (Nat.le_refl _) _)).cut
    have KA4 : Hid (Av W4 w1.heap.size 0 8 f) := (P3.step B4).arr
    clear hK KA2 KL2 KX2 HA V3 hb3 P3 O4 B4 O3 H1
    go_wp2_with (first | (refine wpA_copy8 _ rfl _ _ rfl w3.heap.size gx fx 8 c (List.replicate 8 0) xs hl8 rfl rfl KO3.out KX3.out ?_))
    rw [hW4]
    clear hW4 hmk
    go_step3
    go_wp2_with (first | (refine wpA_load _ rfl 105 8 192 8 nilS _ rfl 75 Try.underlying105 Try.infoLn w1.heap.size 0 f rfl KA4.out ?_))
    go_loopg [31] 8 (fun g s31 wr => ∃ j : Nat, j + g = 8 ∧ s31 = .int .i64 j ∧ ∃ Z, OI wr w3.heap.size 0 8 8 Z ∧ (∀ p, p < j → Wat es len xs p (el Z p)) ∧ (∀ p, j ≤ p → p < 8 → el Z p = el xs p) ∧ Below w3.heap.size w3 wr)
    case atStart => exact ⟨0, by omega, rfl, xs, KO4.out, fun p hp => by omega, fun _ _ _ => rfl, KB4.out⟩
    case round =>
      obtain ⟨j, hjg, rfl, Z, hO, hW, hR, hB⟩ := hrel
      have LO : Hid (OI wr w3.heap.size 0 8 8 Z) := hO
      have LW : Hid (∀ p, p < j → Wat es len xs p (el Z p)) := hW
      have LR : Hid (∀ p, j ≤ p → p < 8 → el Z p = el xs p) := hR
      have LB : Hid (Below w3.heap.size w3 wr) := hB
      clear hO hW hR hB KO3 KO4 KX3 KA4 KB4
      cases gk with
      | zero =>
        have hj8 : j = 8 := by omega
        subst hj8
        go_wp2
        go_ret
        have hZ := LO.out.length
        exact ⟨Z, .inr ⟨HO.out, within_of HI.out hZ LW.out⟩, ans_of hZ KP.out.below.size LO.out (KP.out.below.trans (LB.out.mono KP.out.below.size))⟩
      | succ g1 =>
        have hj8 : j < 8 := by omega
        have j1 : (j : Int) < 8 := by omega
        have j0 : (0 : Int) ≤ (j : Int) := by omega
        obtain ⟨aj, hfj, _⟩ := (KP.out.step LB.out).lanes j hj8
        have HLN : Hid ((cutI es len xs j).length = (el xs j).toNat) := cutI_len HI.out hj8
        rw [HLN.out] at hfj
        have HFJ : Hid (f j = .slice aj (el xs j).toNat (el xs j).toNat) := hfj
        have hlo := HI.out.lo j hj8
        have hhi := HI.out.hi j hj8
        have hnk := num_leK es (j : Int) len
        have hlm : (el xs j).toNat ≤ 40 := by omega
        generalize hln : (el xs j).toNat = ln at *
        clear hfj hhi hnk
        go_wp2_with (first | (refine wpA_index _ rfl _ _ rfl f j (.slice aj ln ln) rfl rfl hj8 HFJ.out ?_))
        go_loopg [37] ln (fun g2 s37 wx => ∃ q : Nat, q + g2 = ln ∧ s37 = .int .i64 q ∧ Wq es len xs j q ∧ OI wx w3.heap.size 0 8 8 Z ∧ Below w3.heap.size w3 wx)
        case atStart => exact ⟨0, by omega, rfl, Wq.start _ _ _ _, LO.out, LB.out⟩
        case round =>
          obtain ⟨q, hqg, rfl, hW, hO, hB⟩ := hrel
          have MO : Hid (OI wr w3.heap.size 0 8 8 Z) := hO
          have MW : Hid (Wq es len xs j q) := hW
          have MB : Hid (Below w3.heap.size w3 wr) := hB
          clear hO hW hB LO LB
          cases gk with
          | zero =>
            have hq0 : q = ln := by omega
            subst hq0
            go_wp2
            go_roundg g1
            case measure => omega
            case rel => exact ⟨j + 1, by omega, by go_num, Z, MO.out, fun p hp => by
              rcases Nat.lt_succ_iff_lt_or_eq.1 hp with h | h
              · exact LW.out p h
              · rw [h, LR.out j (Nat.le_refl _) hj8]
                exact Wq.done (by rw [hln]; exact MW.out) hlo, fun p hp h8 => LR.out p (by omega) h8, MB.out⟩
          | succ g2 =>
            have hq : q < ln := by omega
            have q1 : (q : Int) < (ln : Int) := by omega
            have q0 : (0 : Int) ≤ (q : Int) := by omega
            obtain ⟨k, hk1, hk2, hk3, hk4⟩ := cutI_el HI.out hj8 (j := q) (by rw [hln]; exact hq)
            have PR := KP.out.step MB.out
            obtain ⟨aj', hfj', hvj⟩ := PR.lanes j hj8
            have e : aj' = aj := by
              have := hfj'.symm.trans HFJ.out
              simp only [Value.slice.injEq] at this
              exact this.1
            subst e
            obtain ⟨bj, oj, rfl, hcell⟩ := hvj.cells (by rw [HLN.out]; omega)
            have x1 := hcell q (by rw [HLN.out]; exact hq)
            rw [hk1] at x1
            have x2 := PR.rows.cell8 hk2 hk2
            have k1 : (k : Int) < (len : Int) := by omega
            have k0 : (0 : Int) ≤ (k : Int) := by omega
            have hrow := PR.rows.row k hk2
            have hrm := hrow.max
            have hrl := hrow.le
            have hU := implUnder_any (some ⟨(rk k).1, (rk k).2.1, none⟩) (some ⟨gx, fx, none⟩) 8 (rk k).2.2 8 c (cl es k) xs wr (by have := hrow.vec (fits8 (cl_len es k) (cl_b6' hk2 h40)); rwa [cl_len] at this) ⟨hl8, HF.out, .inr ⟨gx, fx, rfl, PR.cut⟩⟩ (by rwa [cl_len] at hrl) hmc hrm hcm
            have HK3 : Hid ((evAt es k).n = (j : Int)) := hk3
            have HK4 : Hid (num es (j : Int) k = q) := hk4
            clear hk1 hk3 hk4 hcell hvj hfj' PR hrow hrm hrl
            cases hu : underB (cl es k) xs
            · rw [hu] at hU
              have HNU : Hid (¬ Ucl es xs k) := fun h => by rw [(under_ucl HI.out hk2).2 h] at hu; cases hu
              have o1 := MO.out.cellAt hj8
              have o2 := MO.out.free j (by omega)
              simp only [Nat.zero_add] at o1 o2
              clear hu
              go_wp2_with (first | (go_at_call 22; refine hU.mono ?_; rintro e w5 ⟨rfl, n5, rfl⟩))
              go_roundg g1
              case measure => omega
              case rel =>
                have hs := (MO.out.drewN n5).set hj8 (q : Int)
                rw [Nat.zero_add] at hs
                exact ⟨j + 1, by omega, by go_num, Z.set j (q : Int), hs, fun p hp => by
                  rw [el_set8 (by rw [MO.out.length]; exact hj8)]
                  by_cases e : j = p
                  · rw [if_pos e, ← e]; exact MW.out.stop hk2 HK3.out HK4.out (by omega) HNU.out
                  · rw [if_neg e]; exact LW.out p (by omega), fun p hp h8 => by
                  rw [el_set8 (by rw [MO.out.length]; exact hj8), if_neg (by omega)]; exact LR.out p (by omega) h8, (belowN MB.out).setCell (Nat.le_refl _) _⟩
            · rw [hu] at hU
              have HNU : Hid (Ucl es xs k) := (under_ucl HI.out hk2).1 hu
              clear hu
              go_wp2_with (first | (go_at_call 22; refine hU.mono ?_; rintro e w5 ⟨rfl, n5, rfl⟩))
              go_roundg g2
              case measure => omega
              case rel => exact ⟨q + 1, by omega, by go_num, MW.out.next HK3.out HK4.out HNU.out, MO.out.drewN n5, belowN MB.out⟩

set_option maxRecDepth 100000 in
set_option maxHeartbeats 1600000 in
theorem implCutOk : ImplCutOk := by
  intro b off len cap es a m c xs w hc hm hcap hv hmc hcm
  have hW := implWithin b off len cap es a m c xs w hc hm hcap hv hmc hcm
  have hl := hv.1
  rcases Nat.eq_zero_or_pos m with h0 | h0
  · subst h0
    have HO : Hid (okC es len xs = false) := by
      cases hb : okC es len xs with
      | false => exact rfl
      | true => have := (okC_iff.1 hb).1.len; omega
    clear hW hl
    go_enter Try.func48, Try.ntmps48
    go_wp2
    go_ret
    exact ⟨ret_bool HO.out.symm, Below.refl _ _⟩
  · have hp : (0 : Int) < (m : Int) := by omega
    have hmm : m ≤ maxLen := by omega
    go_enter Try.func48, Try.ntmps48
    go_wp2_with fail
    refine hW.mono ?_
    rintro e w1 ⟨Z, hZ, g, f, cp, rfl, hg, ho, hb⟩
    have HZ : Hid (WiT es len xs Z) := hZ
    have hsm := hZ.small
    have hE := slEqual_any (some ⟨g, f, none⟩) a Z.length cp m c Z xs w1 (ho.vec hsm.2) (hv.below hb (Nat.le_refl _)) (by unfold maxLen; omega)
    have HB : Hid (Below w.heap.size w w1) := hb
    have HL : Hid (0 < xs.length) := by rw [Hid, hl]; exact h0
    clear hZ hsm hb ho hW hl
    go_wp2_with fail
    refine hE.mono ?_
    rintro e w2 ⟨rfl, n2, rfl⟩
    go_wp2
    go_ret
    exact ⟨ret_bool (okC_within HZ.out HL.out).symm, belowN HB.out⟩
end Go.Proofs.Ytacjpebifacclaa

/-
  The contract of the program's Around.
-/
namespace Go.Proofs.Ytacjpebifacclaa
set_option linter.unusedSimpArgs false
set_option linter.unusedVariables false
open Go.RowKit Go.Sort
attribute [local irreducible] aV World.setCells

theorem implJoin8 (a a' : Option Addr) (cap cap' : Nat) (xs ys : List Int) (w : World) (hx : Vec w a 8 xs) (hy : Vec w a' 8 ys) (bx : ∀ j, j < 8 → 0 ≤ el xs j ∧ el xs j ≤ 1000000) (by_ : ∀ j, j < 8 → 0 ≤ el ys j ∧ el ys j ≤ 1000000) (hc : 8 ≤ cap) (hc' : 8 ≤ cap') (hm : cap ≤ maxLen) (hm' : cap' ≤ maxLen) :
    Calls Try.prog 15 #[.slice a 8 cap, .slice a' 8 cap'] w fun e w' => ∃ g c, e = .returned (.slice (some ⟨g, 0, none⟩) 8 c) ∧ w.heap.size ≤ g ∧ OI w' g 0 8 c (jn max xs ys 8) ∧ Below w.heap.size w w' := by
  have h1 := hx.1
  have h2 := hy.1
  have hp : pairB max xs ys = jn max xs ys 8 := by
    unfold pairB twoB
    rw [ok8 h1 bx, ok8 h2 by_, h1, h2]
    rfl
  refine (implJoin_any a a' 8 cap 8 cap' xs ys w hx hy hc hc' hm hm').mono ?_
  rintro e w' ⟨g, c, rfl, hg, ho, hb⟩
  rw [hp] at ho ⊢
  have := OI.own ho
  rw [jn_length] at this ⊢
  exact ⟨g, c, rfl, hg, this, hb⟩
theorem Aat.b6 {es : List Ev} {n j : Nat} {c r : List Int} (h : Aat es n c j r) (hI : IsCut es n c) : ∀ q, q < 8 → 0 ≤ el r q ∧ el r q ≤ 1000000 := fun q hq => by
  rcases h.att q hq with e | ⟨p, k, _, hk, _, _, e⟩
  · rw [e]; exact cut_b6 hI q hq
  · rw [e]; exact cl_b6' hk hI.le40 q hq

set_option maxRecDepth 100000 in
set_option maxHeartbeats 3200000 in
theorem implAround : ImplAround := by
  intro b off len cap es a m c xs w hc hm hcap hv hmc hcm
  have hL := lanesIn_any b off len cap es a m c xs w hc hm hcap hv hmc hcm
  cases ho : cutB es len xs
  · rw [ho] at hL
    have HO : Hid (cutB es len xs = false) := ho
    go_enter Try.func52, Try.ntmps52
    go_wp2_with fail
    refine hL.mono ?_
    rintro e w1 ⟨f, rfl, _, h1, hb1⟩
    obtain ⟨W2, hW2, hA2, hB2, hA0⟩ := pre_arr w1 f
    have H1 : Hid (∀ p, p < 8 → (f p).oneCell' = true) := h1
    have HA : Hid (Av (w1.alloc (.cells (aV 8 nilS) 105)) w1.heap.size 0 8 nilS) := hA0
    have HB : Hid (Below w.heap.size w W2) := hb1.trans (hB2.mono hb1.size)
    clear h1 hb1 hA0 hA2 hB2 hL ho
    go_wp2_with (first | (refine wpA_alloc _ rfl 105 8 192 nilS rfl Try.infoLn ?_) | (refine wpA_store _ rfl rfl 105 8 192 nilS _ _ rfl Try.infoLn w1.heap.size 0 nilS f H1.out rfl rfl HA.out ?_))
    go_ret
    exact ⟨[], .inl ⟨HO.out, rfl⟩, W2.heap.size, 0, 0, rfl, HB.out.size, oi_empty _ _, HB.out.alloc HB.out.size _⟩
  · rw [ho] at hL
    obtain ⟨rfl, hI, gx, fx, rfl, hx⟩ := cut_cells hv ho
    have HO : Hid (cutB es len xs = true) := ho
    have HI : Hid (IsCut es len xs) := hI
    have h40 := hI.le40
    have hl8 := hI.len
    have HF : Hid (Fits xs) := hv.2.1
    have hN : ckN es len = len := by unfold ckN; rw [hI.ok]; rfl
    have hmk := run_make_row' (P := Try.prog) 24 2 (.int .i64 0) 8 Try.underlying24 Try.info2 rfl .i64 .i64 8 (by omega) (by omega)
    have h8e : ((8 : Nat) : Int) = 8 := rfl
    simp only [h8e] at hmk
    go_enter Try.func52, Try.ntmps52
    go_wp2_with fail
    refine hL.mono ?_
    rintro e w1 ⟨f, rfl, hl1, h1, hb1⟩
    obtain ⟨W2, hW2, hA2, hB2, hA0⟩ := pre_arr w1 f
    have H1 : Hid (∀ p, p < 8 → (f p).oneCell' = true) := h1
    have HA : Hid (Av (w1.alloc (.cells (aV 8 nilS) 105)) w1.heap.size 0 8 nilS) := hA0
    have B2 : Below w.heap.size w W2 := hb1.trans (hB2.mono hb1.size)
    have hK := implClocks_any b off len cap es W2 (evs_below hc B2 (Nat.le_refl _)) hm hcap
    rw [hN] at hK
    have KA2 : Hid (Av W2 w1.heap.size 0 8 f) := hA2
    have KL2 : Hid (∀ p, p < 8 → Lv W2 (f p) (cutI es len xs p)) := fun p hp => (hl1 trivial p hp).below hB2
    have KB2 : Hid (Below w.heap.size w W2) := B2
    have KX2 : Hid (∀ i, i < 8 → W2.cell? ⟨gx, fx + i, none⟩ = some (.int .i64 (el xs i))) := fun i hi => (B2.cell (World.block_lt_of_cell? _ _ (hx i hi))).trans (hx i hi)
    clear h1 hb1 hA0 hA2 hB2 hL ho hl1 B2 hI hx
    go_wp2_with (first | (refine wpA_alloc _ rfl 105 8 192 nilS rfl Try.infoLn ?_) | (refine wpA_store _ rfl rfl 105 8 192 nilS _ _ rfl Try.infoLn w1.heap.size 0 nilS f H1.out rfl rfl HA.out ?_))
    clear hW2
    refine hK.mono ?_
    rintro e w3 ⟨gc, fc, cc, rk, rfl, _, V3, hb3⟩
    have P3 : Pre w w3 es len xs w1.heap.size f W2.heap.size gc fc cc rk gx fx := ⟨KB2.out.trans (hb3.mono KB2.out.size), KA2.out.below hb3 KA2.out.blk, fun p hp => (KL2.out p hp).below hb3, V3, fun i hi => (hb3.cell (World.block_lt_of_cell? _ _ (KX2.out i hi))).trans (KX2.out i hi)⟩
    have KP : Hid (Pre w w3 es len xs w1.heap.size f W2.heap.size gc fc cc rk gx fx) := P3
    obtain ⟨W4, hW4, O4, B4, O3⟩ := pre_out w3 xs hl8
    have KO3 : Hid (OI (w3.alloc (.cells (madeCells #[.int .i64 0] 8) 2)) w3.heap.size 0 8 8 (List.replicate 8 0)) := O3
    have KO4 : Hid (OI W4 w3.heap.size 0 8 8 xs) := O4
    have KB4 : Hid (Below w3.heap.size w3 W4) := B4
    have KX3 : Hid (∀ i, i < 8 → (w3.alloc (.cells (madeCells #[.int .i64 0] 8) 2)).cell? ⟨gx, fx + i, none⟩ = some (.int .i64 (el xs i))) := (P3.step ((Below.refl _ _).alloc (Nat.le_refl _) _)).cut
    have KA4 : Hid (Av W4 w1.heap.size 0 8 f) := (P3.step B4).arr
    clear hK KA2 KL2 KX2 HA V3 hb3 P3 O4 B4 O3 H1
    have KAT : Hid (Aat es len xs 0 xs) := Aat.start hl8
    go_wp2_with (first | (refine wpA_copy8 _ rfl _ _ rfl w3.heap.size gx fx 8 c (List.replicate 8 0) xs hl8 rfl rfl KO3.out KX3.out ?_) | (refine wpA_load _ rfl 105 8 192 8 nilS _ rfl 75 Try.underlying105 Try.infoLn w1.heap.size 0 f rfl (hW4 ▸ KA4.out) ?_))
    clear hmk
    go_loopw [8, 29] (fun s8 i wr => ∃ j : Nat, j ≤ 8 ∧ i = .int .i64 j ∧ ∃ g cp Z, s8 = .slice (some ⟨g, 0, none⟩) 8 cp ∧ w.heap.size ≤ g ∧ OI wr g 0 8 cp Z ∧ Aat es len xs j Z ∧ Below w3.heap.size w3 wr) (fun _ i _ => 8 - (intOf i).toNat)
    case atStart => exact ⟨0, Nat.zero_le _, rfl, w3.heap.size, 8, xs, rfl, KP.out.below.size, hW4 ▸ KO4.out, KAT.out, hW4 ▸ KB4.out⟩
    case round =>
      obtain ⟨j, hj, rfl, g, cp, Z, rfl, hg, hO, hA, hB⟩ := hrel
      have LO : Hid (OI wr g 0 8 cp Z) := hO
      have LA : Hid (Aat es len xs j Z) := hA
      have LB : Hid (Below w3.heap.size w3 wr) := hB
      have LG : Hid (w.heap.size ≤ g) := hg
      clear hO hA hB hg KO3 KO4 KX3 KA4 KB4 KAT hW4
      by_cases hj8 : j < 8
      · have j1 : (j : Int) < 8 := by omega
        have j0 : (0 : Int) ≤ (j : Int) := by omega
        obtain ⟨aj, hfj, hvj⟩ := (KP.out.step LB.out).lanes j hj8
        have HLN : Hid ((cutI es len xs j).length = (el xs j).toNat) := cutI_len HI.out hj8
        rw [HLN.out] at hfj hvj
        have HFJ : Hid (f j = .slice aj (el xs j).toNat (el xs j).toNat) := hfj
        have hlo := HI.out.lo j hj8
        have hhi := HI.out.hi j hj8
        have hnk := num_leK es (j : Int) len
        rcases Nat.eq_zero_or_pos (el xs j).toNat with h0 | hpos
        · rw [h0] at HFJ
          have HA' : Hid (Aat es len xs (j + 1) Z) := LA.out.skip (by omega)
          clear hfj hvj hlo hhi hnk h0
          go_wp2_with (first | (refine wpA_index _ rfl _ _ rfl f j (.slice aj 0 0) rfl rfl hj8 HFJ.out ?_))
          go_roundw
          case rel => exact ⟨j + 1, by omega, by go_num, g, cp, Z, rfl, LG.out, LO.out, HA'.out, LB.out⟩
          case measure => simp [intOf]; omega
        · obtain ⟨l, hl⟩ : ∃ l, (el xs j).toNat = l + 1 := ⟨(el xs j).toNat - 1, by omega⟩
          rw [hl] at HFJ hvj
          obtain ⟨k, hk1, hk2, hk3, hk4⟩ := cutI_el HI.out hj8 (j := l) (by omega)
          have PR := KP.out.step LB.out
          obtain ⟨bj, oj, rfl, hcell⟩ := hvj.cells (by omega)
          have x1 := hcell l (by omega)
          rw [hk1] at x1
          have x2 := PR.rows.cell8 hk2 hk2
          have k1 : (k : Int) < (len : Int) := by omega
          have k0 : (0 : Int) ≤ (k : Int) := by omega
          have hrow := PR.rows.row k hk2
          have hrm := hrow.max
          have hrl := hrow.le
          have HA' : Hid (Aat es len xs (j + 1) (jn max Z (cl es k) 8)) := LA.out.join hk2 hk3 (by omega)
          have hJ := implJoin8 (some ⟨g, 0, none⟩) (some ⟨(rk k).1, (rk k).2.1, none⟩) cp (rk k).2.2 Z (cl es k) wr (LO.out.vec (fits8 LO.out.length (LA.out.b6 HI.out))) (by have := hrow.vec (fits8 (cl_len es k) (cl_b6' hk2 h40)); rwa [cl_len] at this) (LA.out.b6 HI.out) (cl_b6' hk2 h40) LO.out.le (by rwa [cl_len] at hrl) LO.out.max hrm
          have l0 : (0 : Int) ≤ (l : Int) := by omega
          have l1 : (0 : Int) < (l : Int) + 1 := by omega
          have l2 : (l : Int) < (l : Int) + 1 := by omega
          have l40 : l ≤ 40 := by omega
          have kb : (l : Int) + 1 - 1 = (l : Int) := by omega
          have hw1 : IntKind.i64.wrap ((l : Int) + 1 - 1) = (l : Int) := by rw [IntKind.wrap_i64]; omega
          have hw2 : IntKind.i64.wrap (l : Int) = (l : Int) := by rw [IntKind.wrap_i64]; omega
          clear hk1 hk3 hk4 hcell hvj hfj PR hrow hrm hrl hlo hhi hnk hpos hl
          go_wp2_with (first | (refine wpA_index _ rfl _ _ rfl f j (.slice (some ⟨bj, oj, none⟩) (l + 1) (l + 1)) rfl rfl hj8 HFJ.out ?_) | (go_at_call 15; refine hJ.mono ?_; rintro e w5 ⟨g5, c5, rfl, hg5, hO5, hB5⟩))
          go_roundw
          case rel => exact ⟨j + 1, by omega, by go_num, g5, c5, _, rfl, by have := KP.out.below.size; have := LB.out.size; omega, hO5, HA'.out, LB.out.trans (hB5.mono LB.out.size)⟩
          case measure => simp [intOf]; omega
      · have hj8' : j = 8 := by omega
        subst hj8'
        go_wp2
        go_ret
        exact ⟨Z, .inr ⟨HO.out, around_of HI.out LA.out⟩, ans_of LO.out.length LG.out LO.out (KP.out.below.trans (LB.out.mono KP.out.below.size))⟩
end Go.Proofs.Ytacjpebifacclaa
