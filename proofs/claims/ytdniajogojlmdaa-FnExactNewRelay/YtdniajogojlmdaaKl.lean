/-
  Several texts in one: Itu Itv.
-/
import Derived.Test.YtdniajogojlmdaaKk
/-
  The program's RelayOk, NewRelay, Turn, Full, Chain: what the laws ask of them.
-/
namespace Go.Proofs.Ytdniajogojlmdaa
set_option linter.unusedVariables false
set_option linter.unusedSimpArgs false
open Go.RowKit Go.Sort

theorem implRelayOk : ImplRelayOk := fun N B a cap H w _ _ hv => (rokI_any N B a H.length cap H w hv).mono (fun e w' h => ⟨h.1, h.2.1⟩)

/-- What told answers, stored into the answer's room. -/
theorem told_ans {w wr w5 : World} {r : Nat} {Z : List (List Int)} {v x y z : Value} (h : NewO wr w5 (iicl Z) v) (hb : Below w.heap.size w wr) (hr : w.heap.size ≤ r) (hr2 : r < wr.heap.size) :
    NewO w (((w5.setCell ⟨r, 0, none⟩ x).setCell ⟨r, 1, none⟩ y).setCell ⟨r, 2, none⟩ z) (iicl Z) v := by
  obtain ⟨fp, ho, hf, h5⟩ := h
  have hs := hb.size
  exact ⟨fp, Cel.ow_wrt ho (wrt3 w5 r) (fun b hb e => by have := hf b hb; omega), fun b hb => by have := hf b hb; omega, below3 (hb.trans (h5.mono hs)) hr⟩
theorem zero_ans (w w' : World) (hb : Below w.heap.size w w') : AnsRl w w' (.returned (.tuple #[.agg #[.int .i64 0, .int .i64 0, .slice none 0 0], .bool false])) (zeroR, false) :=
  ⟨none, 0, rfl, fun _ => False, ⟨none, 0, [], none, fun _ => False, rfl, OSo.nil _ _ plainN, ⟨rfl, fun _ h => h⟩, fun _ _ h => h, fun b => by simp⟩, fun _ h => absurd h id, hb⟩

/-- What NewRelay holds. -/
structure NR (w wr : World) (N B k : Nat) (L : List (Int × Int)) : Prop where
  res : Bx wr w.heap.size 35 #[.int .i64 0, .int .i64 0, .slice none 0 0]
  own : Bx wr (w.heap.size + 1 + 1) 83 #[.int .i64 (N : Int), .int .i64 (B : Int), .map (some (w.heap.size + 1))]
  set : HS wr (w.heap.size + 1) L
  mem : ∀ x y, (x, y) ∈ L ↔ x = 0 ∧ 0 ≤ y ∧ y < (k : Int)
  len : L.length ≤ k
  below : Below w.heap.size w wr
theorem NR.start (w : World) (N B : Nat) : NR w (((w.alloc (.cells #[.int .i64 0, .int .i64 0, .slice none 0 0] 35)).alloc (.map #[] 0)).alloc (.cells #[.int .i64 (N : Int), .int .i64 (B : Int), .map (some (w.heap.size + 1))] 83)) N B 0 [] := by
  have h1 := Bx.new w 35 #[.int .i64 0, .int .i64 0, .slice none 0 0]
  have h3 := Bx.new ((w.alloc (.cells #[.int .i64 0, .int .i64 0, .slice none 0 0] 35)).alloc (.map #[] 0)) 83 #[.int .i64 (N : Int), .int .i64 (B : Int), .map (some (w.heap.size + 1))]
  have h2 : HS ((w.alloc (.cells #[.int .i64 0, .int .i64 0, .slice none 0 0] 35)).alloc (.map #[] 0)) (w.heap.size + 1) [] := by
    have := ks_made (kt := 89) (kv := k2V) (w.alloc (.cells #[.int .i64 0, .int .i64 0, .slice none 0 0] 35))
    rwa [World.size_alloc] at this
  simp only [World.size_alloc] at h3
  have hb : Below w.heap.size w (w.alloc (.cells #[.int .i64 0, .int .i64 0, .slice none 0 0] 35)) := one_alloc10 _ _
  refine ⟨(h1.alloc _).alloc _, h3, h2.below (one_alloc10 _ _), fun x y => ?_, Nat.le_refl _, (hb.alloc hb.size _).alloc (by simp; omega) _⟩
  constructor
  · intro h; cases h
  · rintro ⟨_, h1, h2⟩; omega
theorem NR.add {w wr w' : World} {N B k : Nat} {L : List (Int × Int)} (h : NR w wr N B k L) (hg : wr.grownBy w' (some (w.heap.size + 1))) (hs : HS w' (w.heap.size + 1) (addL L (0, (k : Int)))) : NR w w' N B (k + 1) (addL L (0, (k : Int))) := by
  refine ⟨h.res.grown hg (by simp), h.own.grown hg (by simp), hs, fun x y => ?_, by have := addL_len L (0, (k : Int)); have := h.len; omega, (Wrt.of_grown hg).below h.below h.below.size (fun b e => by cases e; omega)⟩
  rw [mem_addL, h.mem, Prod.mk.injEq]
  constructor
  · rintro (⟨h1, h2⟩ | ⟨h1, h2, h3⟩)
    · exact ⟨h1, by omega, by omega⟩
    · exact ⟨h1, h2, by omega⟩
  · rintro ⟨h1, h2, h3⟩
    by_cases e : y = (k : Int)
    · exact .inl ⟨h1, e⟩
    · exact .inr ⟨h1, h2, by omega⟩
theorem newH_mem {N B : Nat} (hN : 1 ≤ N) {L : List (Int × Int)} (h : ∀ x y, (x, y) ∈ L ↔ x = 0 ∧ 0 ≤ y ∧ y < (B : Int)) : MemA (newH N B) L := fun x y => by
  have hl : (newH N B).length = N := by simp [newH]; omega
  rw [h, hl]
  constructor
  · rintro ⟨rfl, h1, h2⟩
    refine ⟨by omega, by omega, ?_⟩
    have : row (newH N B) (0 : Int).toNat = ints B := rfl
    rw [this, mem_ints]
    exact ⟨h1, h2⟩
  · rintro ⟨h1, h2, h3⟩
    by_cases e : x = 0
    · subst e
      have : row (newH N B) (0 : Int).toNat = ints B := rfl
      rw [this, mem_ints] at h3
      exact ⟨rfl, h3⟩
    · obtain ⟨i, hi⟩ : ∃ i, x.toNat = i + 1 := ⟨x.toNat - 1, by omega⟩
      have : row (newH N B) (i + 1) = [] := by
        simp [newH, row, List.getD_eq_getElem?_getD, List.getElem?_replicate]
        split <;> rfl
      rw [hi, this] at h3
      cases h3

set_option maxRecDepth 100000 in
set_option maxHeartbeats 3200000 in
theorem implNewRelay : ImplNewRelay := by
  intro N B w _ _
  by_cases hok : (1 ≤ N ∧ N ≤ 12) ∧ 1 ≤ B ∧ B ≤ 12
  · obtain ⟨N, rfl⟩ : ∃ n : Nat, N = (n : Int) := ⟨N.toNat, by omega⟩
    obtain ⟨B, rfl⟩ : ∃ n : Nat, B = (n : Int) := ⟨B.toNat, by omega⟩
    have HZ : Hid (newL (N : Int) (B : Int) = (((N : Int), (B : Int), newH N B), true)) := by rw [Hid, newL, if_pos hok]; simp
    have e0 : (inB (N : Int) 1 12 && inB (B : Int) 1 12) = true := by rw [inB7.2 hok.1, inB7.2 hok.2]; rfl
    have hN : 1 ≤ N ∧ N ≤ 12 := by omega
    have hB : 1 ≤ B ∧ B ≤ 12 := by omega
    have hmm := @run_makeMap Try.prog
    have HS0 : Hid _ := NR.start w N B
    clear hok
    go_enter Try.func33, Try.ntmps33
    go_wp2_with (go_at_call 81; refine (arc_any _ _ _).mono ?_; rintro e w' ⟨rfl, hw'⟩; rw [hw']; clear hw')
    clear e0 hmm
    go_loopw [18] (fun i wr => ∃ (k : Nat) (L : List (Int × Int)), k ≤ B ∧ i = .int .i64 k ∧ NR w wr N B k L) (fun i _ => B - (intOf i).toNat)
    case atStart => exact ⟨0, [], Nat.zero_le _, rfl, HS0.out⟩
    case round =>
      obtain ⟨k, L, hk, rfl, hS⟩ := hrel
      obtain ⟨o0, o1, o2⟩ := hS.own.r3
      by_cases hlt : k < B
      · have hA := addH_any (w.heap.size + 1) L 0 (k : Int) wr hS.set (by omega) (by omega) (by have := hS.len; omega)
        have HS1 : Hid (NR w wr N B k L) := hS
        clear hS
        go_wp2_with (go_at_call 78; refine hA.mono ?_; rintro e w4 ⟨rfl, hs4, hg4⟩)
        go_roundw
        case rel => exact ⟨k + 1, _, by omega, by go_num, HS1.out.add hg4 hs4⟩
        case measure => simp [intOf]; omega
      · have hkl : k = B := by omega
        subst hkl
        have hT := tld_any N k (w.heap.size + 1) (newH N k) L wr hS.set (newH_mem hN.1 hS.mem) (new_ok hN hB)
        have hln : (newH N k).length = N := by simp [newH]; omega
        rw [hln] at hT
        unfold rlV at hT
        have HB : Hid (Below w.heap.size w wr) := hS.below
        have HR : Hid (Bx wr w.heap.size 35 #[.int .i64 0, .int .i64 0, .slice none 0 0]) := hS.res
        have HLN : Hid ((newH N k).length = N) := hln
        clear hS hln
        go_wp2_with (go_at_call 79; refine hT.mono ?_; rintro e w5 ⟨a5, c5, rfl, hn5⟩; obtain ⟨fp5, ho5, hf5, hb5⟩ := hn5; have h5 := HR.out.below hb5; obtain ⟨r0, r1, r2⟩ := h5.r3; have f0 := h5.f 0; have f1 := h5.f 1; have f2 := h5.f 2)
        refine bodyPost_ret (v := .tuple #[.agg #[.int .i64 (N : Int), .int .i64 (k : Int), .slice a5 N c5], .bool true]) (by simp [results, Try.results33, go_sem, *]) rfl ?_
        rw [HZ.out]
        refine ⟨a5, c5, ?_, ?_⟩
        · simp only [HLN.out]; rfl
        · simp only [HLN.out]; exact told_ans ⟨fp5, ho5, hf5, hb5⟩ HB.out (Nat.le_refl _) HR.out.lt
  · have HZ : Hid (newL N B = (zeroR, false)) := by rw [Hid, newL, if_neg hok]
    have e0 : (inB N 1 12 && inB B 1 12) = false := by
      rw [← Bool.not_eq_true]
      intro h
      rw [Bool.and_eq_true_iff] at h
      exact hok ⟨inB7.1 h.1, inB7.1 h.2⟩
    clear hok
    go_enter Try.func33, Try.ntmps33
    go_wp2_with (go_at_call 81; refine (arc_any _ _ _).mono ?_; rintro e w' ⟨rfl, hw'⟩; rw [hw']; clear hw')
    refine bodyPost_ret (v := .tuple #[.agg #[.int .i64 0, .int .i64 0, .slice none 0 0], .bool false]) (by simp [results, Try.results33, go_sem]) rfl ?_
    rw [HZ.out]
    exact zero_ans w _ (by first | exact one_alloc10 _ _ | exact below3 (one_alloc10 _ _) (Nat.le_refl _))

theorem nb_bound {N B : Int} (h1 : 1 ≤ N ∧ N ≤ 12) (h2 : 1 ≤ B ∧ B ≤ 12) : 0 ≤ N * B ∧ N * B ≤ 144 := by
  have := Int.mul_le_mul h1.2 h2.2 (by omega) (by omega)
  have := Int.mul_nonneg (show 0 ≤ N by omega) (show 0 ≤ B by omega)
  omega
theorem okRow_lenB {B : Nat} {h : List Int} (hk : okRow (B : Int) h) : h.length ≤ B := by
  have := pickL_len h B
  rwa [pickL_all hk] at this
theorem tot_full {B : Nat} (H : List (List Int)) : ∀ n, (∀ i, i < n → (row H i).length ≤ B) → (tot H n = n * B ↔ ∀ i, i < n → (row H i).length = B)
  | 0, h => ⟨fun _ i hi => by omega, fun _ => by simp [tot]⟩
  | n + 1, h => by
    have ih := tot_full H n (fun i hi => h i (by omega))
    have hn := h n (by omega)
    have hl := tot_le12 H n (m := B) (fun i hi => h i (by omega))
    rw [tot, Nat.add_mul, Nat.one_mul]
    constructor
    · intro e i hi
      rcases Nat.lt_succ_iff_lt_or_eq.1 hi with h1 | h1
      · exact ih.1 (by omega) i h1
      · rw [h1]; omega
    · intro e
      rw [ih.2 (fun i hi => e i (by omega)), e n (by omega)]
theorem full_iff {N B : Int} {H : List (List Int)} (hok : okRel N B H) : fullH B H ↔ (tot H H.length : Int) = N * B := by
  obtain ⟨b, rfl⟩ : ∃ b : Nat, B = (b : Int) := ⟨B.toNat, by have := hok.2.1; omega⟩
  rw [← hok.2.2.1]
  have := tot_full (B := b) H H.length (fun i hi => okRow_lenB (hok.2.2.2.2 i hi))
  rw [show ((tot H H.length : Nat) : Int) = (H.length : Int) * (b : Int) ↔ tot H H.length = H.length * b from ⟨fun h => by exact_mod_cast h, fun h => by exact_mod_cast h⟩, this]
  unfold fullH
  exact ⟨fun h i hi => by have := h i hi; omega, fun h i hi => by have := h i hi; omega⟩

set_option maxRecDepth 100000 in
set_option maxHeartbeats 1600000 in
theorem implFull : ImplFull := by
  intro N B a cap H w _ _ hv
  have hG0 : Grew w (w.alloc (.cells #[.int .i64 N, .int .i64 B, .slice a H.length cap] 35)) := (Grew.refl _).alloc _
  by_cases hok : okRel N B H
  · have hR := rof_yes N B a H.length cap H _ (hv.grew hG0) hok
    have HZ : Hid (fullB N B H = ((tot H H.length : Int) == N * B)) := by
      have := full_iff hok
      rw [Hid, fullB]
      by_cases e : (tot H H.length : Int) = N * B
      · rw [decide_eq_true ⟨hok, this.2 e⟩]; simp [e]
      · rw [decide_eq_false (fun h => e (this.1 h.2))]; simp [e]
    have hnb := nb_bound hok.1 hok.2.1
    have hwr : wrap64 (N * B) = N * B := by unfold wrap64; omega
    unfold rlV at hR ⊢
    clear hok hv
    go_enter Try.func39, Try.ntmps39
    go_wp2_with (go_at_call 76; refine hR.mono ?_; rintro e w2 ⟨m, rfl, ⟨L, hs, hM, hT, hm⟩, hb2⟩; have hlen := fun ty => (hs.below (one_alloc10 w2 (.cells #[.int .i64 N, .int .i64 B, .map (some m)] 83))).len Try.underlying81 ty)
    go_ret
    exact ⟨ret_bool (by rw [HZ.out]), hG0.1.trans ((hb2.trans ((one_alloc10 w2 _).mono hb2.size)).mono hG0.1.size)⟩
  · have hR := rof_no N B a H.length cap H _ (hv.grew hG0) hok
    have HZ : Hid (fullB N B H = false) := by rw [Hid, fullB, decide_eq_false (fun h => hok h.1)]
    unfold rlV at hR ⊢
    clear hok hv
    go_enter Try.func39, Try.ntmps39
    go_wp2_with (go_at_call 76; refine hR.mono ?_; rintro e w2 ⟨rfl, hg2⟩)
    go_ret
    exact ⟨ret_bool (by rw [HZ.out]), ((hG0.trans hg2).alloc _).1⟩

theorem ff_some {N B q k : Nat} {H : List (List Int)} {L : List (Int × Int)} (hok : okRel (N : Int) (B : Int) H) (hM : MemA H L) (hk : k + 1 < H.length) (h1 : ((k : Int), (q : Int)) ∈ L) (h2 : ((k : Int) + 1, (q : Int)) ∉ L) (hno : ∀ t : Nat, t < q → ¬ (((k : Int), (t : Int)) ∈ L ∧ ((k : Int) + 1, (t : Int)) ∉ L)) : chnAt H k = [((k : Int), (k : Int) + 1, (q : Int))] := by
  have hr := hok.2.2.2.2 k (by omega)
  have e1 : ∀ y, ((k : Int) + 1, y) ∈ L ↔ y ∈ row H (k + 1) := fun y => by
    have := hM.at hk y
    rwa [Int.natCast_succ] at this
  rw [hM.at (by omega)] at h1
  rw [e1] at h2
  obtain ⟨j, hj, hq⟩ := el_mem10.1 h1
  rw [← hq] at h2
  have := chnAt_some hj (fun t ht => ?_) h2
  · rw [this, hq]
  · have hlt : el (row H k) t < el (row H k) j := by
      have hp := (okRow_iff.1 hr).2
      rw [List.pairwise_iff_getElem] at hp
      have := hp t j (by omega) hj ht
      have a1 : el (row H k) t = (row H k)[t]'(by omega) := by simp [el, show t < (row H k).length by omega]
      have a2 : el (row H k) j = (row H k)[j] := by simp [el, hj]
      omega
    have h0 := (hr.1 t (by omega)).1
    obtain ⟨u, hu⟩ : ∃ u : Nat, el (row H k) t = (u : Int) := ⟨(el (row H k) t).toNat, by omega⟩
    have hn := hno u (by omega)
    rw [hM.at (by omega), e1, ← hu] at hn
    exact Classical.byContradiction (fun hc => hn ⟨el_mem10.2 ⟨t, by omega, rfl⟩, hc⟩)
theorem ff_none {N B k : Nat} {H : List (List Int)} {L : List (Int × Int)} (hok : okRel (N : Int) (B : Int) H) (hM : MemA H L) (hk : k + 1 < H.length) (hno : ∀ t : Nat, t < B → ¬ (((k : Int), (t : Int)) ∈ L ∧ ((k : Int) + 1, (t : Int)) ∉ L)) : chnAt H k = [] := by
  have hr := hok.2.2.2.2 k (by omega)
  have e1 : ∀ y, ((k : Int) + 1, y) ∈ L ↔ y ∈ row H (k + 1) := fun y => by
    have := hM.at hk y
    rwa [Int.natCast_succ] at this
  refine chnAt_none (fun t ht => ?_)
  have h0 := hr.1 t ht
  obtain ⟨u, hu⟩ : ∃ u : Nat, el (row H k) t = (u : Int) := ⟨(el (row H k) t).toNat, by omega⟩
  have hn := hno u (by omega)
  rw [hM.at (by omega), e1, ← hu] at hn
  exact Classical.byContradiction (fun hc => hn ⟨el_mem10.2 ⟨t, ht, rfl⟩, hc⟩)
/-- What Chain holds. -/
structure CH (w wr : World) (N B m o g og cg : Nat) (L : List (Int × Int)) (C : List Ps) : Prop where
  own : Bx wr o 83 #[.int .i64 (N : Int), .int .i64 (B : Int), .map (some m)]
  set : HS wr m L
  op : OP wr g og C.length cg C
  hm : w.heap.size + 1 < m ∧ m < o
  hg : g = w.heap.size + 1 ∨ o < g
  below : Below w.heap.size w wr
theorem CH.step {w wr w' : World} {N B m o g og cg : Nat} {L : List (Int × Int)} {C : List Ps} (h : CH w wr N B m o g og cg L C) (hb : Below wr.heap.size wr w') : CH w w' N B m o g og cg L C :=
  ⟨h.own.below hb, h.set.below hb, OSl.below h.op hb h.op.blk, h.hm, h.hg, h.below.trans (hb.mono h.below.size)⟩
theorem CH.app {w wr w' : World} {N B m o g og cg g' og' cg' : Nat} {L : List (Int × Int)} {C C' : List Ps} (h : CH w wr N B m o g og cg L C) (hg : wr.grownBy w' (some g)) (ho : OP w' g' og' C'.length cg' C') (hat : g' = g ∨ g' = wr.heap.size) : CH w w' N B m o g' og' cg' L C' := by
  have h1 := h.hm
  have h2 := h.hg
  have h3 := h.own.lt
  exact ⟨h.own.grown hg (by simp; omega), h.set.kept hg (by simp; omega), ho, h1, by omega, (Wrt.of_grown hg).below h.below h.below.size (fun b e => by cases e; omega)⟩

set_option maxRecDepth 100000 in
set_option maxHeartbeats 3200000 in
theorem implChain : ImplChain := by
  intro N B a cap H w _ _ hv
  have hG0 : Grew w ((w.alloc (.cells #[.int .i64 N, .int .i64 B, .slice a H.length cap] 35)).alloc (.cells #[] 79)) := ((Grew.refl _).alloc _).alloc _
  have hE := pass_empty (w.alloc (.cells #[.int .i64 N, .int .i64 B, .slice a H.length cap] 35)) 79
  rw [World.size_alloc] at hE
  by_cases hok : okRel N B H
  · have hR := rof_yes N B a H.length cap H _ (hv.grew hG0) hok
    obtain ⟨N, rfl⟩ : ∃ n : Nat, N = (n : Int) := ⟨N.toNat, by have := hok.1; omega⟩
    obtain ⟨B, rfl⟩ : ∃ n : Nat, B = (n : Int) := ⟨B.toNat, by have := hok.2.1; omega⟩
    have hN : 1 ≤ N ∧ N ≤ 12 := by have := hok.1; omega
    have hB : 1 ≤ B ∧ B ≤ 12 := by have := hok.2.1; omega
    have HL : Hid (H.length = N) := by have := hok.2.2.1; rw [Hid]; omega
    have HZ : Hid (chainL (N : Int) (B : Int) H = chn H (N - 1)) := by rw [Hid, chainL, if_pos hok]; rfl
    have HOK : Hid (okRel (N : Int) (B : Int) H) := hok
    have hN2 : wrap64 ((N : Int) - 1) = (N : Int) - 1 := by unfold wrap64; omega
    obtain ⟨i0, hi0, hz0, hz1, hz2⟩ := info_parts2n infoPass
    have HE : Hid (OP ((w.alloc (.cells #[.int .i64 (N : Int), .int .i64 (B : Int), .slice a H.length cap] 35)).alloc (.cells #[] 79)) (w.heap.size + 1) 0 0 0 []) := hE
    have HG : Hid _ := hG0
    unfold rlV at hR ⊢
    clear hok hv hE hG0
    go_enter Try.func37, Try.ntmps37
    go_wp2_with (go_at_call 76; refine hR.mono ?_; rintro e w2 ⟨m, rfl, ⟨L, hs, hM, hT, hm⟩, hb2⟩)
    have HC : Hid (CH w (w2.alloc (.cells #[.int .i64 (N : Int), .int .i64 (B : Int), .map (some m)] 83)) N B m w2.heap.size (w.heap.size + 1) 0 0 L []) := by
      simp only [World.size_alloc] at hm
      have h1 := HG.out.1
      have h2 := h1.trans (hb2.mono h1.size)
      exact ⟨Bx.new _ _ _, hs.below (one_alloc10 _ _), OSl.below (OSl.below HE.out hb2 HE.out.blk) (one_alloc10 _ _) (Nat.lt_of_lt_of_le HE.out.blk hb2.size), ⟨by omega, hs.lt⟩, .inl rfl, h2.trans ((one_alloc10 _ _).mono h2.size)⟩
    have HM : Hid (MemA H L) := hM.all
    clear hR hs hM hT hm hb2
    generalize w2.heap.size = o at *
    go_loopw [3, 21] (fun v i wr => ∃ k g og cg : Nat, k ≤ N - 1 ∧ i = .int .i64 k ∧ v = .slice (some ⟨g, og, none⟩) (chn H k).length cg ∧ CH w wr N B m o g og cg L (chn H k)) (fun _ i _ => N - (intOf i).toNat)
    case atStart => exact ⟨0, _, 0, 0, Nat.zero_le _, rfl, rfl, HC.out⟩
    case round =>
      obtain ⟨k, g, og, cg, hk, rfl, rfl, hS⟩ := hrel
      have hcl := chn_len H k
      obtain ⟨o0, o1, o2⟩ := hS.own.r3
      have HS1 : Hid (CH w wr N B m o g og cg L (chn H k)) := hS
      by_cases hlt : k < N - 1
      · have k1 : (k : Int) < (N : Int) - 1 := by omega
        have hwk : wrap64 ((k : Int) + 1) = (k : Int) + 1 := by unfold wrap64; omega
        have hF := ff_any N B m L (k : Int) ((k : Int) + 1) wr hS.set (by unfold I64r; omega) (by unfold I64r; omega) hB.2
        have HSm : Hid (∀ q : Nat, ((k : Int), (q : Int)) ∈ L → ((k : Int) + 1, (q : Int)) ∉ L → (∀ t : Nat, t < q → ¬ (((k : Int), (t : Int)) ∈ L ∧ ((k : Int) + 1, (t : Int)) ∉ L)) → chn H (k + 1) = chn H k ++ [((k : Int), (k : Int) + 1, (q : Int))]) := fun q h1 h2 h3 => by rw [chn_succ, ff_some HOK.out HM.out (by rw [HL.out]; omega) h1 h2 h3]
        have HNn : Hid ((∀ t : Nat, t < B → ¬ (((k : Int), (t : Int)) ∈ L ∧ ((k : Int) + 1, (t : Int)) ∉ L)) → chn H (k + 1) = chn H k) := fun h => by rw [chn_succ, ff_none HOK.out HM.out (by rw [HL.out]; omega) h, List.append_nil]
        clear hS
        generalize hL1 : chn H (k + 1) = L1 at *
        generalize hL0 : chn H k = L0 at *
        by_cases hex : ∃ q : Nat, q < B ∧ (((k : Int), (q : Int)) ∈ L ∧ ((k : Int) + 1, (q : Int)) ∉ L) ∧ ∀ t : Nat, t < q → ¬ (((k : Int), (t : Int)) ∈ L ∧ ((k : Int) + 1, (t : Int)) ∉ L)
        · obtain ⟨q, hq, ⟨h1, h2⟩, h3⟩ := hex
          have hF2 : Calls Try.prog 85 #[.agg #[.int .i64 (N : Int), .int .i64 (B : Int), .map (some m)], .int .i64 (k : Int), .int .i64 ((k : Int) + 1)] wr fun e w' => e = .returned (.tuple #[.int .i64 (q : Int), .bool true]) ∧ Grew wr w' := hF.mono (fun e w' h => by
            refine ⟨?_, h.1⟩
            rcases h.2 with ⟨q', hq', h1', h3', rfl⟩ | ⟨h3', _⟩
            · have : q' = q := by
                rcases Nat.lt_trichotomy q' q with e | e | e
                · exact absurd h1' (h3 q' e)
                · exact e
                · exact absurd ⟨h1, h2⟩ (h3' q e)
              rw [this]
            · exact absurd ⟨h1, h2⟩ (h3' q hq))
          have HE1 : Hid (L1 = L0 ++ [((k : Int), (k : Int) + 1, (q : Int))]) := HSm.out q h1 h2 h3
          clear h1 h2 h3 HSm HNn hF
          go_wp2_with (first
            | (go_at_call 85; refine hF2.mono ?_; rintro e w4 ⟨rfl, hg4⟩; have HS4 : Hid (CH w (w4.alloc (.cells #[.int .i64 (k : Int), .int .i64 ((k : Int) + 1), .int .i64 (q : Int)] 79)) N B m o g og cg L L0) := (HS1.out.step hg4.1).step (one_alloc10 _ _); have LO2 := HS4.out.op; unfold OP at LO2)
            | (at_builtin; refine wpList_append_os _ rfl _ _ _ rfl 79 i0 _ 3 24 Try.underlying36 hi0 hz0 hz1 hz2 rfl (by omega) g og L0.length cg _ rfl LO2 ⟨w4.heap.size, 0, none⟩ 1 1 [.int .i64 (k : Int), .int .i64 ((k : Int) + 1), .int .i64 (q : Int)] rfl rfl (World.news_of_block (cs := #[.int .i64 (k : Int), .int .i64 ((k : Int) + 1), .int .i64 (q : Int)]) (t := 79) (fr := (0, 0)) (heap_alloc_new w4 _)) (by simp [Value.oneCell']) (by unfold maxLen; omega) (by omega) ?_; intro g6 o6 c6 w6 hO6 hg6 hat6))
          have NL : Hid (L1.length = L0.length + 1) := by rw [Hid, HE1.out]; simp
          have NO : Hid (OP w6 g6 o6 L1.length c6 L1) := by
            rw [Hid, NL.out, HE1.out, OP, pvs_snoc]; exact hO6
          have NC : Hid (CH w w6 N B m o g6 o6 c6 L L1) := HS4.out.app hg6 NO.out hat6
          clear hO6 hg6 hat6 LO2
          go_roundw
          case rel => exact ⟨k + 1, g6, o6, c6, by omega, by go_num, by rw [hL1, NL.out], by rw [hL1]; exact NC.out⟩
          case measure => simp [intOf]; omega
        · have hno : ∀ t : Nat, t < B → ¬ (((k : Int), (t : Int)) ∈ L ∧ ((k : Int) + 1, (t : Int)) ∉ L) := fun t => by
            induction t using Nat.strongRecOn with
            | _ t ih => exact fun ht hp => hex ⟨t, ht, hp, fun u hu => ih u hu (by omega)⟩
          have hF2 : Calls Try.prog 85 #[.agg #[.int .i64 (N : Int), .int .i64 (B : Int), .map (some m)], .int .i64 (k : Int), .int .i64 ((k : Int) + 1)] wr fun e w' => e = .returned (.tuple #[.int .i64 0, .bool false]) ∧ Grew wr w' := hF.mono (fun e w' h => by
            refine ⟨?_, h.1⟩
            rcases h.2 with ⟨q', hq', h1', h3', _⟩ | ⟨h3', h4⟩
            · exact absurd h1' (hno q' hq')
            · exact h4)
          have HE1 : Hid (L1 = L0) := HNn.out hno
          clear hno hex HSm HNn hF
          go_wp2_with (go_at_call 85; refine hF2.mono ?_; rintro e w4 ⟨rfl, hg4⟩)
          go_roundw
          case rel => exact ⟨k + 1, g, og, cg, by omega, by go_num, by rw [hL1, HE1.out], by rw [hL1, HE1.out]; exact HS1.out.step hg4.1⟩
          case measure => simp [intOf]; omega
      · have hkl : k = N - 1 := by omega
        have k1 : ¬ (k : Int) < (N : Int) - 1 := by omega
        have HF : Hid (AnsPs w wr (.returned (.slice (some ⟨g, og, none⟩) (chn H k).length cg)) (chainL (N : Int) (B : Int) H)) := by
          rw [Hid, HZ.out, ← hkl]
          have h1 := hS.hm
          have h2 := hS.hg
          exact AnsP.ps ⟨g, og, cg, rfl, by omega, hS.op, hS.below⟩
        clear hS hkl
        go_wp2
        go_ret
        exact HF.out
  · have hR := rof_no N B a H.length cap H _ (hv.grew hG0) hok
    have HZ : Hid (chainL N B H = []) := by rw [Hid, chainL, if_neg hok]
    unfold rlV at hR ⊢
    clear hok hv
    go_enter Try.func37, Try.ntmps37
    go_wp2_with (go_at_call 76; refine hR.mono ?_; rintro e w2 ⟨rfl, hg2⟩)
    go_ret
    rw [HZ.out]
    exact AnsP.ps ⟨_, 0, 0, rfl, by omega, OSl.below (OSl.below hE hg2.1 hE.blk) (one_alloc10 _ _) (Nat.lt_of_lt_of_le hE.blk hg2.1.size), ((hG0.trans hg2).alloc _).1⟩
end Go.Proofs.Ytdniajogojlmdaa

/-
  The program's Turn: what the laws ask of it.
-/
namespace Go.Proofs.Ytdniajogojlmdaa
set_option linter.unusedVariables false
set_option linter.unusedSimpArgs false
open Go.RowKit Go.Sort

/-- What Turn holds. -/
structure TU (w wr : World) (N B m o : Nat) (L : List (Int × Int)) : Prop where
  res : Bx wr (w.heap.size + 1) 35 #[.int .i64 0, .int .i64 0, .slice none 0 0]
  own : Bx wr o 83 #[.int .i64 (N : Int), .int .i64 (B : Int), .map (some m)]
  set : HS wr m L
  hm : w.heap.size + 1 < m ∧ m < o
  below : Below w.heap.size w wr
theorem TU.step {w wr w' : World} {N B m o : Nat} {L : List (Int × Int)} (h : TU w wr N B m o L) (hb : Below wr.heap.size wr w') : TU w w' N B m o L :=
  ⟨h.res.below hb, h.own.below hb, h.set.below hb, h.hm, h.below.trans (hb.mono h.below.size)⟩
theorem TU.add {w wr w' : World} {N B m o : Nat} {L L' : List (Int × Int)} (h : TU w wr N B m o L) (hg : wr.grownBy w' (some m)) (hs : HS w' m L') : TU w w' N B m o L' := by
  have h1 := h.hm
  exact ⟨h.res.grown hg (by simp; omega), h.own.grown hg (by simp; omega), hs, h1, (Wrt.of_grown hg).below h.below h.below.size (fun b e => by cases e; omega)⟩
theorem MemA.turn {N B : Int} {H : List (List Int)} {cs : List Ps} {i : Nat} {L : List (Int × Int)} {x y z : Int} (hp : pat cs i = (x, y, z)) (hy : 0 ≤ y ∧ y < (H.length : Int)) (h : MemA (outs H cs i) L) : MemA (outs H cs (i + 1)) (addL L (y, z)) := fun a b => by
  have hl := outs_len H cs i
  have ht : y.toNat < (outs H cs i).length := by omega
  rw [mem_addL, h a b, Prod.mk.injEq, outs_len H cs (i + 1), hl, outs, hp]
  simp only
  rw [row_set ht]
  by_cases e : a.toNat = y.toNat
  · rw [if_pos e, mem_putL, e]
    constructor
    · rintro (⟨rfl, rfl⟩ | ⟨h1, h2, h3⟩)
      · exact ⟨hy.1, hy.2, .inl rfl⟩
      · exact ⟨h1, h2, .inr h3⟩
    · rintro ⟨h1, h2, h3 | h3⟩
      · exact .inl ⟨by omega, h3⟩
      · exact .inr ⟨h1, h2, h3⟩
  · rw [if_neg e]
    constructor
    · rintro (⟨rfl, rfl⟩ | h)
      · exact absurd rfl e
      · exact h
    · exact .inr
theorem outs_zero (H : List (List Int)) (cs : List Ps) : outs H cs 0 = H := rfl

set_option maxRecDepth 100000 in
set_option maxHeartbeats 3200000 in
theorem implTurn : ImplTurn := by
  intro N B a cap H ca cc cs w _ _ hv hP hF hcc hcm hcl
  have hG0 : Grew w ((w.alloc (.cells #[.int .i64 N, .int .i64 B, .slice a H.length cap] 35)).alloc (.cells #[.int .i64 0, .int .i64 0, .slice none 0 0] 35)) := ((Grew.refl _).alloc _).alloc _
  have hE := Bx.new (w.alloc (.cells #[.int .i64 N, .int .i64 B, .slice a H.length cap] 35)) 35 #[.int .i64 0, .int .i64 0, .slice none 0 0]
  rw [World.size_alloc] at hE
  by_cases hok : okRel N B H
  · have hR := rof_yes N B a H.length cap H _ (hv.grew hG0) hok
    obtain ⟨N, rfl⟩ : ∃ n : Nat, N = (n : Int) := ⟨N.toNat, by have := hok.1; omega⟩
    obtain ⟨B, rfl⟩ : ∃ n : Nat, B = (n : Int) := ⟨B.toNat, by have := hok.2.1; omega⟩
    have hN : 1 ≤ N ∧ N ≤ 12 := by have := hok.1; omega
    have hB : 1 ≤ B ∧ B ≤ 12 := by have := hok.2.1; omega
    have HL : Hid (H.length = N) := by have := hok.2.2.1; rw [Hid]; omega
    have HT0 : Hid (∀ w2 m L, HS w2 m L → ((w.alloc (.cells #[.int .i64 (N : Int), .int .i64 (B : Int), .slice a H.length cap] 35)).alloc (.cells #[.int .i64 0, .int .i64 0, .slice none 0 0] 35)).heap.size ≤ m → Below ((w.alloc (.cells #[.int .i64 (N : Int), .int .i64 (B : Int), .slice a H.length cap] 35)).alloc (.cells #[.int .i64 0, .int .i64 0, .slice none 0 0] 35)).heap.size ((w.alloc (.cells #[.int .i64 (N : Int), .int .i64 (B : Int), .slice a H.length cap] 35)).alloc (.cells #[.int .i64 0, .int .i64 0, .slice none 0 0] 35)) w2 → TU w (w2.alloc (.cells #[.int .i64 (N : Int), .int .i64 (B : Int), .map (some m)] 83)) N B m w2.heap.size L) := by
      intro w2 m L hs hm hb2
      simp only [World.size_alloc] at hm
      have h1 := hG0.1
      have h2 := h1.trans (hb2.mono h1.size)
      exact ⟨(hE.below hb2).alloc _, Bx.new _ _ _, hs.below (one_alloc10 _ _), ⟨by omega, hs.lt⟩, h2.trans ((one_alloc10 _ _).mono h2.size)⟩
    by_cases htk : turnOk (N : Int) H cs
    · have HMt : Hid (∀ W m o L, TU w W N B m o L → MemA H L → Calls Try.prog 77 #[.agg #[.int .i64 (N : Int), .int .i64 (B : Int), .map (some m)], .slice ca cs.length cc] W fun e w' => e = .returned (.bool true) ∧ Below W.heap.size W w') := fun W m o L hW hM => by
        have := mt_any N B m H L ca cc cs W hW.set hM HL.out hN.2 hN.1 (hP.below hW.below) hF hcl
        rwa [decide_eq_true htk] at this
      have HZ : Hid (turnL (N : Int) (B : Int) H cs = (((N : Int), (B : Int), outs H cs cs.length), true)) := by rw [Hid, turnL, if_pos ⟨hok, htk⟩]
      have HOK : Hid (∀ i, i ≤ cs.length → okRel (N : Int) (B : Int) (outs H cs i)) := outs_ok hok htk
      have HTK : Hid (turnOk (N : Int) H cs) := htk
      have HP : Hid (PsS w ca cs.length cs) := hP
      have HFt : Hid (FitsP cs) := hF
      have HL12 : Hid (tot H H.length ≤ 144) := (okRel_small hok).2.2
      unfold rlV at hR ⊢
      clear hok htk hv hE hG0 hP hF hcc hcm
      go_enter Try.func29, Try.ntmps29
      go_wp2_with (first
        | (go_at_call 76; refine hR.mono ?_; rintro e w2 ⟨m, rfl, ⟨L, hs, hM, hT, hm⟩, hb2⟩; have T2 := HT0.out w2 m L hs hm hb2; have hMt := HMt.out _ m _ L T2 hM.all)
        | (go_at_call 77; refine hMt.mono ?_; rintro e w3 ⟨rfl, hb3⟩))
      have HT3 : Hid (TU w w3 N B m w2.heap.size L) := T2.step hb3
      have HM0 : Hid (MemA (outs H cs 0) L) := hM.all
      have HLL : Hid (L.length ≤ 144) := by rw [Hid, hT]; exact HL12.out
      clear hR hs hM hT hm hb2 T2 hMt hb3
      generalize w2.heap.size = o at *
      go_loopw [26] (fun i wr => ∃ (k : Nat) (L : List (Int × Int)), k ≤ cs.length ∧ i = .int .i64 k ∧ TU w wr N B m o L ∧ MemA (outs H cs k) L ∧ L.length ≤ 144 + k) (fun i _ => cs.length - (intOf i).toNat)
      case atStart => exact ⟨0, L, Nat.zero_le _, rfl, HT3.out, HM0.out, HLL.out⟩
      case round =>
        obtain ⟨k, L1, hk, rfl, hS, hM, hl⟩ := hrel
        obtain ⟨o0, o1, o2⟩ := hS.own.r3
        by_cases hlt : k < cs.length
        · obtain ⟨b, off, rfl, p0, p1, p2⟩ := pass_cells HP.out hlt
          have d0 := below_cell hS.below p0
          have d1 := below_cell hS.below p1
          have d2 := below_cell hS.below p2
          have hf := HFt.out k hlt
          have hps := HTK.out k hlt
          have k1 : (k : Int) < (cs.length : Int) := by omega
          have k0 : (0 : Int) ≤ (k : Int) := by omega
          obtain ⟨x, y, z, hxyz⟩ : ∃ x y z, pat cs k = (x, y, z) := ⟨_, _, _, rfl⟩
          unfold psOk at hps
          rw [hxyz] at d0 d1 d2 hf hps
          simp only at d0 d1 d2 hf hps
          have HM1 : Hid (MemA (outs H cs (k + 1)) (addL L1 (y, z))) := hM.turn (N := 0) (B := 0) hxyz (by rw [HL.out]; omega)
          have HS1 : Hid (TU w (wr.alloc (.cells #[.int .i64 x, .int .i64 y, .int .i64 z] 79)) N B m o L1) := hS.step (one_alloc10 _ _)
          obtain ⟨c0, c1, c2⟩ := HS1.out.own.r3
          have hA := addH_any m L1 y z _ HS1.out.set hf.2.1 hf.2.2 (by omega)
          have HA : Hid ((addL L1 (y, z)).length ≤ 144 + (k + 1)) := by have := addL_len L1 (y, z); rw [Hid]; omega
          clear hS hM hps p0 p1 p2 hxyz o0 o1 o2
          go_wp2_with (go_at_call 78; refine hA.mono ?_; rintro e w4 ⟨rfl, hs4, hg4⟩)
          go_roundw
          case rel => exact ⟨k + 1, _, by omega, by go_num, HS1.out.add hg4 hs4, HM1.out, HA.out⟩
          case measure => simp [intOf]; omega
        · have hkl : k = cs.length := by omega
          subst hkl
          have hT := tld_any N B m (outs H cs cs.length) L1 wr hS.set hM (HOK.out _ (Nat.le_refl _))
          have hln : (outs H cs cs.length).length = N := by rw [outs_len]; exact HL.out
          rw [hln] at hT
          unfold rlV at hT
          have HB : Hid (Below w.heap.size w wr) := hS.below
          have HR : Hid (Bx wr (w.heap.size + 1) 35 #[.int .i64 0, .int .i64 0, .slice none 0 0]) := hS.res
          have HLN : Hid ((outs H cs cs.length).length = N) := hln
          clear hS hln hM
          go_wp2_with (go_at_call 79; refine hT.mono ?_; rintro e w5 ⟨a5, c5, rfl, hn5⟩; obtain ⟨fp5, ho5, hf5, hb5⟩ := hn5; have h5 := HR.out.below hb5; obtain ⟨r0, r1, r2⟩ := h5.r3; have f0 := h5.f 0; have f1 := h5.f 1; have f2 := h5.f 2)
          refine bodyPost_ret (v := .tuple #[.agg #[.int .i64 (N : Int), .int .i64 (B : Int), .slice a5 N c5], .bool true]) (by simp [results, Try.results29, go_sem, *]) rfl ?_
          rw [HZ.out]
          refine ⟨a5, c5, ?_, ?_⟩
          · simp only [HLN.out]; rfl
          · simp only [HLN.out]; exact told_ans ⟨fp5, ho5, hf5, hb5⟩ HB.out (Nat.le_succ _) HR.out.lt
    · have HMt : Hid (∀ W m o L, TU w W N B m o L → MemA H L → Calls Try.prog 77 #[.agg #[.int .i64 (N : Int), .int .i64 (B : Int), .map (some m)], .slice ca cs.length cc] W fun e w' => e = .returned (.bool false) ∧ Below W.heap.size W w') := fun W m o L hW hM => by
        have := mt_any N B m H L ca cc cs W hW.set hM HL.out hN.2 hN.1 (hP.below hW.below) hF hcl
        rwa [decide_eq_false htk] at this
      have HZ : Hid (turnL (N : Int) (B : Int) H cs = (zeroR, false)) := by rw [Hid, turnL, if_neg (fun h => htk h.2)]
      unfold rlV at hR ⊢
      clear hok htk hv hE hG0 hP hF hcc hcm
      go_enter Try.func29, Try.ntmps29
      go_wp2_with (first
        | (go_at_call 76; refine hR.mono ?_; rintro e w2 ⟨m, rfl, ⟨L, hs, hM, hT, hm⟩, hb2⟩; have T2 := HT0.out w2 m L hs hm hb2; have hMt := HMt.out _ m _ L T2 hM.all)
        | (go_at_call 77; refine hMt.mono ?_; rintro e w3 ⟨rfl, hb3⟩; have T3 := T2.step hb3; obtain ⟨r0, r1, r2⟩ := T3.res.r3; have f0 := T3.res.f 0; have f1 := T3.res.f 1; have f2 := T3.res.f 2))
      refine bodyPost_ret (v := .tuple #[.agg #[.int .i64 0, .int .i64 0, .slice none 0 0], .bool false]) (by simp [results, Try.results29, go_sem, *]) rfl ?_
      rw [HZ.out]
      exact zero_ans w _ (by first | exact T3.below | exact below3 T3.below (Nat.le_succ _))
  · have hR := rof_no N B a H.length cap H _ (hv.grew hG0) hok
    have HZ : Hid (turnL N B H cs = (zeroR, false)) := by rw [Hid, turnL, if_neg (fun h => hok h.1)]
    unfold rlV at hR ⊢
    clear hok hv hP hF
    go_enter Try.func29, Try.ntmps29
    go_wp2_with (go_at_call 76; refine hR.mono ?_; rintro e w2 ⟨rfl, hg2⟩; have h5 := (hE.below hg2.1).alloc (.cells #[.int .i64 0, .int .i64 0, .map none] 83); obtain ⟨r0, r1, r2⟩ := h5.r3; have f0 := h5.f 0; have f1 := h5.f 1; have f2 := h5.f 2)
    refine bodyPost_ret (v := .tuple #[.agg #[.int .i64 0, .int .i64 0, .slice none 0 0], .bool false]) (by simp [results, Try.results29, go_sem, *]) rfl ?_
    rw [HZ.out]
    have hb := ((hG0.trans hg2).alloc (.cells #[.int .i64 0, .int .i64 0, .map none] 83)).1
    exact zero_ans w _ (by first | exact hb | exact below3 hb (Nat.le_succ _))
end Go.Proofs.Ytdniajogojlmdaa
