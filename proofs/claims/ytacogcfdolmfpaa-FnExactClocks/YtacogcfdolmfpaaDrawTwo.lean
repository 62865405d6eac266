/-
  The contracts of the draws and helpers that the law FnLattice goes by: DrawUnder, pick, vector, likeInts, big.
-/
import Derived.Test.YtacogcfdolmfpaaDrawVec
namespace Go.Proofs.Ytacogcfdolmfpaa
open Go.RowKit

def sameB (xs ys : List Int) : Bool := decide (xs = ys)
theorem sameB_self (xs : List Int) : sameB xs xs = true := by simp [sameB]

theorem grown_below {B p : Nat} {w w' : World} (h : w.grownBy w' (some p)) (hp : B ≤ p) (hB : B ≤ w.heap.size) : Below B w w' :=
  Below.grown (Below.refl _ _) h hB (fun r hr => by cases hr; exact hp)

set_option maxRecDepth 100000 in
set_option maxHeartbeats 1600000 in
theorem drawUnder_any (a : Option Addr) (len cap : Nat) (bs : Nat → Int) (w : World) (hv : BVec w a len bs) (hl : len ≤ 4096) :
    Calls Try.prog 15 #[.slice a len cap] w fun e w' => ∃ a1 m1 c1 z1 a2 m2 c2 z2, e = .returned (.tuple #[.slice a1 m1 c1, .slice a2 m2 c2]) ∧ Vec w' a1 m1 z1 ∧ m1 ≤ c1 ∧ c1 ≤ maxLen ∧ m1 ≤ 16 ∧ Vec w' a2 m2 z2 ∧ m2 ≤ c2 ∧ c2 ≤ maxLen ∧ m2 ≤ 16 ∧ Below w.heap.size w w' := by
  go_enter Try.func15, Try.ntmps15
  go_wp2_with fail
  refine (new_any a len cap bs w hv hl).mono ?_
  rintro e w1 ⟨p, rfl, hp, hc1, hb1⟩
  have hv1 := hv.below hb1 (Nat.le_refl _)
  have hoff : OffB a len p := fun hl b off e => by have := hv.inB hl b off e; omega
  go_wp2_with fail
  refine (drawJoin_any a len cap bs w1 hv1 hl).mono ?_
  rintro e w2 ⟨a1, m1, c1, z1, a2, m2, c2, z2, rfl, k1, k2, k3, k4, l1, l2, l3, l4, hb2, f1, f2⟩
  have hc2 := hc1.below hb2 hc1.lt
  have hv2 := hv1.below hb2 (Nat.le_refl _)
  have B2 : Below w.heap.size w w2 := hb1.trans (hb2.mono hb1.size)
  have hlt1 := hc1.lt
  clear hv1 hc1 hb2
  have hp1 : p < w1.heap.size := hlt1
  have o1 : Off a1 p := fun b off e => by have := f1 b off e; omega
  have o2 : Off a2 p := fun b off e => by have := f2 b off e; omega
  go_wp2_with fail
  refine (once_any p a len cap bs 2 _ hc2 hv2 hoff hl (by omega)).mono ?_
  rintro e w3 ⟨x, rfl, hc3, hg3⟩
  have k1' := k1.grown hg3 o1
  have l1' := l1.grown hg3 o2
  have B3 : Below w.heap.size w w3 := B2.trans (grown_below hg3 hp B2.size)
  have q1 : m1 ≤ maxLen := Nat.le_trans k2 k3
  have q2 : m2 ≤ maxLen := Nat.le_trans l2 l3
  clear k1 l1 hc2 hc3 hv2 hg3 B2 o1 o2 f1 f2 hoff hb1 hv
  cases x
  · go_wp2
    go_ret2
    exact ⟨a1, m1, c1, z1, a2, m2, c2, z2, rfl, k1', k2, k3, k4, l1', l2, l3, l4, B3⟩
  · go_wp2_with fail
    refine (specJoin_any _ _ _ _ _ _ z1 z2 _ k1' l1' q1 q2).mono ?_
    rintro e w4 ⟨g, c, rfl, hg, ho, hb4⟩
    have k4' := k1'.below hb4 (Nat.le_refl _)
    have l4' := l1'.below hb4 (Nat.le_refl _)
    have B4 : Below w.heap.size w w4 := B3.trans (hb4.mono B3.size)
    clear k1' l1' hb4 ho
    by_cases hz : (0 : Int) < ((pairB max z1 z2).length : Int)
    · go_wp2_with fail
      refine (specJoin_any _ _ _ _ _ _ z1 z2 _ k4' l4' q1 q2).mono ?_
      rintro e w5 ⟨g5, c5, rfl, hg5, ho5, hb5⟩
      have k5' := k4'.below hb5 (Nat.le_refl _)
      have B5 : Below w.heap.size w w5 := B4.trans (hb5.mono B4.size)
      have hZ := pairB_len max z1 z2
      have hfz := pairB_fits max max_or z1 z2
      go_wp2
      go_ret2
      exact ⟨a1, m1, c1, z1, _, _, c5, _, rfl, k5', k2, k3, k4, ho5.vec hfz, ho5.1, ho5.2.1, by omega, B5⟩
    · have hz' : decide ((0 : Int) < ((pairB max z1 z2).length : Int)) = false := by simpa using hz
      go_wp2
      go_ret2
      exact ⟨a1, m1, c1, z1, a2, m2, c2, z2, rfl, k4', k2, k3, k4, l4', l2, l3, l4, B4⟩

set_option maxHeartbeats 800000 in
theorem big_any (a : Option Addr) (len cap : Nat) (w : World) :
    Calls Try.prog 11 #[.slice a len cap] w fun e w' => e = .returned (.bool (decide ((4096 : Int) < (len : Int)))) ∧ w' = w := by
  go_enter Try.func11, Try.ntmps11
  go_wp2
  go_ret
  exact ⟨rfl, rfl⟩

set_option maxRecDepth 100000 in
set_option maxHeartbeats 1600000 in
theorem pick_any (a : Option Addr) (len cap : Nat) (bs : Nat → Int) (seed n : Int) (w : World) (hv : BVec w a len bs) (hl : len ≤ 4096) (hs0 : 0 ≤ seed) (hs1 : seed ≤ 1000000) (hn0 : 0 < n) (hn1 : n ≤ 1000000) :
    Calls Try.prog 83 #[.slice a len cap, .int .i64 seed, .int .i64 n] w fun e w' => ∃ x : Int, e = .returned (.int .i64 x) ∧ 0 ≤ x ∧ x < n ∧ w' = w := by
  obtain ⟨hr, hcs⟩ := hv
  have hne : (n == 0) = false := by simp; omega
  rcases hcs with h0 | ⟨b, off, rfl, hc⟩
  all_goals
    go_enter Try.func83, Try.ntmps83
    go_wp2
    go_loop [7, 8] (fun h i => ∃ (k : Nat) (x : Int), k ≤ len ∧ i = .int .i64 k ∧ h = .int .i64 x ∧ 0 ≤ x ∧ x ≤ 10000000000) (fun _ i => len - (intOf i).toNat)
    case atStart => exact ⟨0, _, Nat.zero_le _, rfl, rfl, by omega, by omega⟩
    case round =>
      obtain ⟨k, x, hk, rfl, rfl, hx0, hx1⟩ := hrel
      by_cases hlt : k < len
      · first
          | omega
          | (have hck := hc k hlt
             have hrk := hr k hlt
             have hlo : 0 ≤ (x * 157 + bs k + seed) % 1000003 := Int.emod_nonneg _ (by omega)
             have hhi : (x * 157 + bs k + seed) % 1000003 < 1000003 := Int.emod_lt_of_pos _ (by omega)
             go_wp2
             go_round
             case rel => exact ⟨k + 1, _, by omega, by go_num, rfl, by omega, by omega⟩
             case measure => simp [intOf]; omega)
      · have hlo : 0 ≤ x % n := Int.emod_nonneg _ (by omega)
        have hhi : x % n < n := Int.emod_lt_of_pos _ hn0
        go_wp2
        go_ret
        exact ⟨_, rfl, hlo, hhi, rfl⟩

set_option maxRecDepth 100000 in
set_option maxHeartbeats 1600000 in
theorem vector_any (a : Option Addr) (len cap : Nat) (bs : Nat → Int) (seed n : Int) (N : Nat) (hN : n = (N : Int)) (w : World) (hv : BVec w a len bs) (hl : len ≤ 4096) (hs0 : 0 ≤ seed) (hs1 : seed ≤ 1000) (hn : N ≤ 1000) :
    Calls Try.prog 28 #[.slice a len cap, .int .i64 seed, .int .i64 n] w fun e w' => ∃ a' c zs, e = .returned (.slice a' N c) ∧ zs.length = N ∧ Small zs ∧ Vec w' a' N zs ∧ N ≤ c ∧ c ≤ maxLen ∧ Below w.heap.size w w' := by
  subst hN
  obtain ⟨i0, hi0, hz0, hz1, hz2⟩ := info_parts Try.info2
  go_enter Try.func28, Try.ntmps28
  go_wp2
  go_loopw [7, 8] (fun v q wr => ∃ (k : Nat) (zs : List Int), k ≤ N ∧ zs.length = k ∧ q = .int .i64 (k : Int) ∧ Small zs ∧ wr.ownsRow w.heap.size 2 1 v k (zs.map (Value.int .i64)) ∧ Below w.heap.size w wr) (fun _ q _ => N - (intOf q).toNat)
  case atStart => exact ⟨0, [], Nat.zero_le _, rfl, rfl, fun z hz => by simp at hz, owns_empty w, (Below.refl _ _).alloc (Nat.le_refl _) _⟩
  case round =>
    obtain ⟨k, zs, hk, hzl, rfl, hsm, hown, hbel⟩ := hrel
    have HZ : Hid (zs.length = k) := hzl
    have HS : Hid (Small zs) := hsm
    have HO : Hid (wr.ownsRow w.heap.size 2 1 u7 k (zs.map (Value.int .i64))) := hown
    have HB : Hid (Below w.heap.size w wr) := hbel
    have hsz := hbel.size
    have hvr := hv.below hbel (Nat.le_refl _)
    clear hzl hsm hown hbel
    by_cases hlt : k < N
    · go_wp2_with fail
      refine (pick_any a len cap bs _ 7 _ hvr hl (by omega) (by omega) (by omega) (by omega)).mono ?_
      rintro e w2 ⟨x, rfl, hx0, hx1, hw2⟩
      have own2 : w2.ownsRow w.heap.size 2 1 u7 k (zs.map (Value.int .i64)) := by rw [hw2]; exact HO.out
      have bel2 : Below w.heap.size w w2 := by rw [hw2]; exact HB.out
      have hs2 := bel2.size
      clear hw2
      go_wp2_with (at_builtin; refine wpList_append_lies _ rfl _ _ _ rfl w.heap.size 2 i0 _ 1 8 Try.underlying24 hi0 hz0 hz1 hz2 rfl (by omega) u7 k _ rfl (own2.alloc _) ⟨w2.heap.size, 0, none⟩ 1 1 [.int .i64 x] rfl rfl (World.news_of_block (cs := #[.int .i64 x]) (t := 2) (fr := (0, 0)) (heap_alloc_new w2 _)) (by simp [Value.oneCell']) (by omega) (by unfold maxLen; omega) (by omega) (by simp; omega) (w2.heap.size + 1) (by simp) ?_; intro g cap3 w3 hown3 hgrow hat hlt3)
      have R : Hid (w3.ownsRow w.heap.size 2 1 (.slice (some ⟨g, 0, none⟩) (k + 1) cap3) (k + 1) ((zs ++ [x]).map (Value.int .i64))) := by
        rw [Hid, List.map_append]; exact hown3
      have RB : Hid (Below w.heap.size w w3) := Below.grown (bel2.alloc hs2 _) hgrow (by simp; omega) (fun r hr => (own2.lt r hr).1)
      have RS : Hid (Small (zs ++ [x])) := HS.out.snoc hx0 (by omega)
      clear hown3 hgrow hat hlt3 own2 bel2 hs2 hvr
      go_wp2
      go_roundw
      case rel => exact ⟨k + 1, zs ++ [x], by omega, by simp [HZ.out], by go_num, RS.out, R.out, RB.out⟩
      case measure => simp [intOf]; omega
    · have hkN : k = N := by omega
      subst hkN
      go_wp2
      go_ret
      obtain ⟨a5, c5, hu5, q1, q2, q3, q4⟩ := own_slice HO.out HZ.out.symm HS.out.fits
      exact ⟨a5, c5, zs, by rw [← hu5]; rfl, HZ.out, HS.out, q1, q2, q3, HB.out⟩

set_option maxHeartbeats 400000 in
theorem like_any (a a' : Option Addr) (len cap len' cap' : Nat) (xs ys : List Int) (w : World) (hv : Vec w a len xs) (hv' : Vec w a' len' ys) (hm : len ≤ maxLen) :
    Calls Try.prog 17 #[.slice a len cap, .slice a' len' cap'] w fun e w' => e = .returned (.bool (sameB xs ys)) ∧ ∃ n, w' = w.drewN n := by
  unfold maxLen at hm
  unfold sameB
  obtain ⟨hlen, _, hcs⟩ := hv
  obtain ⟨hlen', _, hcs'⟩ := hv'
  by_cases hl : len = len'
  · have hne : ((len : Int) != (len' : Int)) = false := by simp [hl]
    have HL : Hid (xs.length = len) := hlen
    have HL' : Hid (ys.length = len') := hlen'
    have HLL : Hid (len = len') := hl
    have hle : (len : Int) ≤ (len' : Int) := by omega
    clear hlen hlen' hl
    by_cases h0 : len = 0
    · have hx : xs = [] := List.length_eq_zero_iff.1 (by rw [HL.out]; exact h0)
      have hy : ys = [] := List.length_eq_zero_iff.1 (by rw [HL'.out, ← HLL.out]; exact h0)
      subst h0 hx hy
      clear hcs hcs'
      go_enter Try.func17, Try.ntmps17
      go_wp2
      go_loop [5] (fun i => i = .int .i64 0) (fun _ => 0)
      case atStart => rfl
      case round =>
        subst hrel
        go_wp2
        go_ret
        exact ⟨rfl, 0, rfl⟩
    · rcases hcs with h | ⟨b, off, rfl, hc⟩
      · omega
      rcases hcs' with h | ⟨b', off', rfl, hc'⟩
      · have := HLL.out; omega
      go_enter Try.func17, Try.ntmps17
      go_wp2
      go_loopw [5] (fun i wr => ∃ k : Nat, k ≤ len ∧ i = .int .i64 k ∧ (∀ j, j < k → el xs j = el ys j) ∧ ∃ n, wr = w.drewN n) (fun i _ => len - (intOf i).toNat)
      case atStart => exact ⟨0, Nat.zero_le _, rfl, fun j hj => by omega, 0, rfl⟩
      case round =>
        obtain ⟨k, hk, rfl, hall, n, rfl⟩ := hrel
        have HA : Hid (∀ j, j < k → el xs j = el ys j) := hall
        clear hall
        by_cases hlt : k < len
        · have hck := hc k hlt
          have hck' := hc' k (by have := HLL.out; omega)
          have hi1 : (k : Int) < (len : Int) := by omega
          have hi2 : (k : Int) < (len' : Int) := by omega
          by_cases he : el xs k = el ys k
          · have hd : (el xs k != el ys k) = false := by simp [he]
            have HX : Hid (el xs k = el ys k) := he
            clear he
            go_wp2_with fail
            go_quiet (fail)
            go_wp2
            go_roundw
            case rel => exact ⟨k + 1, by omega, by go_num, fun j hj => by
              rcases Nat.lt_succ_iff_lt_or_eq.1 hj with h | h
              · exact HA.out j h
              · rw [h]; exact HX.out, _, rfl⟩
            case measure => simp [intOf]; omega
          · have hd : (el xs k != el ys k) = true := by simp [he]
            go_wp2_with fail
            go_quiet (fail)
            go_wp2
            go_ret
            exact ⟨ret_bool (by symm; rw [decide_eq_false_iff_not]; intro h; exact he (by rw [h])), _, World.drewN_drewN _ _ _⟩
        · go_wp2
          go_ret
          exact ⟨ret_bool (by symm; rw [decide_eq_true_iff]; exact eq_of_all (by rw [HL.out, HL'.out, HLL.out]) (fun j hj => HA.out j (by rw [HL.out] at hj; omega))), _, rfl⟩
  · have hne : ((len : Int) != (len' : Int)) = true := by simp; omega
    go_enter Try.func17, Try.ntmps17
    go_wp2
    go_ret
    exact ⟨ret_bool (by symm; rw [decide_eq_false_iff_not]; intro h; rw [h] at hlen; omega), 0, rfl⟩
end Go.Proofs.Ytacogcfdolmfpaa
