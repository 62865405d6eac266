/-
  The contracts of the specification's cursor: what it draws is some number in its range; it writes into its own block alone.
-/
import Derived.Test.YtacogcfdolmfpaaLawJoin
namespace Go.Proofs.Ytacogcfdolmfpaa
open Go.RowKit

/-- The slice value with the address a and the length len holds the bytes bs in w. -/
def BVec (w : World) (a : Option Addr) (len : Nat) (bs : Nat → Int) : Prop :=
  (∀ i, i < len → 0 ≤ bs i ∧ bs i ≤ 255) ∧ (len = 0 ∨ ∃ b off, a = some ⟨b, off, none⟩ ∧ ∀ i, i < len → w.cell? ⟨b, off + i, none⟩ = some (.int .u8 (bs i)))

/-- The address is of another block than p. -/
def Off (a : Option Addr) (p : Nat) : Prop := ∀ b off, a = some ⟨b, off, none⟩ → b ≠ p
/-- The same of what holds something. -/
def OffB (a : Option Addr) (len p : Nat) : Prop := 0 < len → ∀ b off, a = some ⟨b, off, none⟩ → b ≠ p
/-- What holds something lies below B. -/
def InB (a : Option Addr) (len B : Nat) : Prop := 0 < len → ∀ b off, a = some ⟨b, off, none⟩ → b < B
theorem BVec.inB {w : World} {a : Option Addr} {len : Nat} {bs : Nat → Int} (h : BVec w a len bs) : InB a len w.heap.size := by
  intro hl b off e
  obtain ⟨_, h0 | ⟨b', off', rfl, hc⟩⟩ := h
  · omega
  · cases e; exact World.block_lt_of_cell? _ _ (hc 0 hl)

/-- The cursor's own block. -/
def CurAt (w : World) (p : Nat) (a : Option Addr) (len cap : Nat) : Prop :=
  ∃ (i : Nat) (h : Int), i ≤ len ∧ w.heap[p]? = some (.cells #[.slice a len cap, .int .i64 (i : Int), .int .i64 h] 105 (0, 0))

theorem BVec.grown {w w' : World} {a : Option Addr} {len p : Nat} {bs : Nat → Int} (h : BVec w a len bs) (hg : w.grownBy w' (some p)) (hp : OffB a len p) : BVec w' a len bs := by
  obtain ⟨h1, h2⟩ := h
  refine ⟨h1, ?_⟩
  rcases h2 with h0 | ⟨b, off, rfl, hc⟩
  · exact .inl h0
  · refine .inr ⟨b, off, rfl, fun i hi => ?_⟩
    have hlt := World.block_lt_of_cell? _ _ (hc i hi)
    have hne : some b ≠ some p := by have := hp (by omega) b off rfl; simpa using this
    rw [World.cell?_of_block (w := w) (hg.block b hlt hne)]
    exact hc i hi
theorem BVec.below {w w' : World} {a : Option Addr} {len B : Nat} {bs : Nat → Int} (h : BVec w a len bs) (hb : Below B w w') (hB : w.heap.size ≤ B) : BVec w' a len bs := by
  obtain ⟨h1, h2⟩ := h
  refine ⟨h1, ?_⟩
  rcases h2 with h0 | ⟨b, off, rfl, hc⟩
  · exact .inl h0
  · refine .inr ⟨b, off, rfl, fun i hi => ?_⟩
    have hlt := World.block_lt_of_cell? _ _ (hc i hi)
    rw [hb.cell (p := ⟨b, off + i, none⟩) (Nat.lt_of_lt_of_le hlt hB)]
    exact hc i hi
theorem Vec.grown {w w' : World} {a : Option Addr} {len p : Nat} {xs : List Int} (h : Vec w a len xs) (hg : w.grownBy w' (some p)) (hp : Off a p) : Vec w' a len xs := by
  obtain ⟨h0, h1, h2⟩ := h
  refine ⟨h0, h1, ?_⟩
  rcases h2 with h0 | ⟨b, off, rfl, hc⟩
  · exact .inl h0
  · refine .inr ⟨b, off, rfl, fun i hi => ?_⟩
    have hlt := World.block_lt_of_cell? _ _ (hc i hi)
    have hne : some b ≠ some p := by have := hp b off rfl; simpa using this
    rw [World.cell?_of_block (w := w) (hg.block b hlt hne)]
    exact hc i hi
theorem grown_refl (w : World) (r : Option Nat) : w.grownBy w r := ⟨rfl, rfl, rfl, Nat.le_refl _, fun _ _ _ => rfl⟩
theorem grown_trans {w w1 w2 : World} {r : Option Nat} (h : w.grownBy w1 r) (k : w1.grownBy w2 r) : w.grownBy w2 r :=
  ⟨k.os.trans h.os, k.tape.trans h.tape, k.output.trans h.output, Nat.le_trans h.size k.size, fun i hi hr => (k.block i (Nat.lt_of_lt_of_le hi h.size) hr).trans (h.block i hi hr)⟩
theorem grown_drewN {w w1 : World} {r : Option Nat} (h : w.grownBy w1 r) (n : Nat) : w.grownBy (w1.drewN n) r := ⟨h.os, h.tape, h.output, h.size, h.block⟩
theorem grown_set {w w1 : World} {p : Nat} (h : w.grownBy w1 (some p)) (i : Nat) (u : Value) : w.grownBy (w1.setCell ⟨p, i, none⟩ u) (some p) :=
  ⟨h.os, h.tape, h.output, by simp [World.setCell]; exact h.size, fun k hk hr => (Below.heap_setCell _ _ _ _ (by intro e; exact hr (by rw [e]))).trans (h.block k hk hr)⟩
theorem CurAt.lt {w : World} {p : Nat} {a : Option Addr} {len cap : Nat} (h : CurAt w p a len cap) : p < w.heap.size := by
  obtain ⟨i, x, _, hb⟩ := h
  obtain ⟨hlt, _⟩ := Array.getElem?_eq_some_iff.1 hb
  exact hlt
theorem CurAt.below {w w' : World} {p B : Nat} {a : Option Addr} {len cap : Nat} (h : CurAt w p a len cap) (hb : Below B w w') (hp : p < B) : CurAt w' p a len cap := by
  obtain ⟨i, x, hi, hh⟩ := h
  exact ⟨i, x, hi, (hb.block p hp).trans hh⟩
theorem heap_set {w : World} {p i : Nat} {c : Array Value} {t : TypeId} {u : Value} (h : w.heap[p]? = some (.cells c t (0, 0))) : (w.setCell ⟨p, i, none⟩ u).heap[p]? = some (.cells (c.setIfInBounds i u) t (0, 0)) := by
  simp [World.setCell, Array.getElem?_modify, h]

theorem cur_two {w : World} {p i n : Nat} {s v u : Value} (hb : w.heap[p]? = some (.cells #[s, .int .i64 (i : Int), v] 105 (0, 0))) :
    (((w.setCell ⟨p, 2, none⟩ u).drewN n).setCell ⟨p, 1, none⟩ (.int .i64 ((i : Int) + 1))).heap[p]? = some (.cells #[s, .int .i64 ((i + 1 : Nat) : Int), u] 105 (0, 0)) := by
  have h1 : ((w.setCell ⟨p, 2, none⟩ u).drewN n).heap[p]? = some (.cells #[s, .int .i64 (i : Int), u] 105 (0, 0)) := heap_set (i := 2) (u := u) hb
  have h2 := heap_set (i := 1) (u := .int .i64 ((i : Int) + 1)) h1
  rw [h2]; simp

theorem i64_and255 (n : Int) : bits .and .i64 n 255 = n % 256 := by
  have h255 : (BitVec.ofInt 64 255).toNat = 2 ^ 8 - 1 := by decide
  have key : (BitVec.ofInt 64 n &&& BitVec.ofInt 64 255).toNat = (n % ((2 ^ 64 : Nat) : Int)).toNat % 2 ^ 8 := by
    rw [BitVec.toNat_and, BitVec.toNat_ofInt, h255, Nat.and_two_pow_sub_one_eq_mod]
  show IntKind.i64.wrap ((BitVec.ofInt 64 n &&& BitVec.ofInt 64 255).toNat : Nat) = n % 256
  rw [key, IntKind.wrap_i64]
  omega
theorem and255 (n : Int) : 0 ≤ bits .and .i64 n 255 ∧ bits .and .i64 n 255 ≤ 255 := by rw [i64_and255]; omega

set_option maxRecDepth 100000 in
set_option maxHeartbeats 1600000 in
theorem byte_any (p : Nat) (a : Option Addr) (len cap : Nat) (bs : Nat → Int) (w : World) (hcur : CurAt w p a len cap) (hv : BVec w a len bs) (hp : OffB a len p) (hl : len ≤ 4096) :
    Calls Try.prog 108 #[.pointer (some ⟨p, 0, none⟩)] w fun e w' => ∃ x : Int, e = .returned (.int .i64 x) ∧ 0 ≤ x ∧ x ≤ 255 ∧ CurAt w' p a len cap ∧ w.grownBy w' (some p) := by
  obtain ⟨i, h, hi, hb⟩ := hcur
  have h0 : w.cell? ⟨p, 0, none⟩ = some (.slice a len cap) := by simp [World.cell?, hb]
  have h1 : w.cell? ⟨p, 1, none⟩ = some (.int .i64 (i : Int)) := by simp [World.cell?, hb]
  have h2 : w.cell? ⟨p, 2, none⟩ = some (.int .i64 h) := by simp [World.cell?, hb]
  have hf : w.frozen? ⟨p, 2, none⟩ = false := by simp [World.frozen?, hb]
  have hf1 : w.frozen? ⟨p, 1, none⟩ = false := by simp [World.frozen?, hb]
  have HB : Hid (w.heap[p]? = some (.cells #[.slice a len cap, .int .i64 (i : Int), .int .i64 h] 105 (0, 0))) := hb
  clear hb
  by_cases hlt : i < len
  · obtain ⟨hr, hv0 | ⟨b, off, rfl, hc⟩⟩ := hv
    · omega
    · have hne := hp (by omega) b off rfl
      have hci := hc i hlt
      have hri := hr i hlt
      have hne' : p ≠ b := fun e => hne e.symm
      have hi1 : (i : Int) < (len : Int) := by omega
      have hi0 : (0 : Int) ≤ (i : Int) := by omega
      clear hc hr hp
      go_enter Try.func108, Try.ntmps108
      go_wp2_with fail
      go_quiet (fail)
      go_wp2_with fail
      go_quiet (fail)
      go_wp2_with fail
      go_quiet (fail)
      go_wp2
      go_ret
      refine ⟨_, rfl, (and255 _).1, (and255 _).2, ?_, ?_⟩
      · exact ⟨i + 1, _, hlt, cur_two HB.out⟩
      · exact grown_set (grown_drewN (grown_set (grown_refl _ _) _ _) _) _ _
  · have hil : i = len := by omega
    subst hil
    go_enter Try.func108, Try.ntmps108
    go_wp2_with fail
    go_quiet (fail)
    go_wp2_with fail
    go_quiet (fail)
    go_wp2
    go_ret
    refine ⟨_, rfl, (and255 _).1, (and255 _).2, ?_, ?_⟩
    · exact ⟨_, _, Nat.le_refl _, heap_set HB.out⟩
    · exact grown_drewN (grown_drewN (grown_set (grown_refl _ _) _ _) _) _

set_option maxRecDepth 100000 in
set_option maxHeartbeats 1600000 in
theorem below_any (p : Nat) (a : Option Addr) (len cap : Nat) (bs : Nat → Int) (n : Int) (w : World) (hcur : CurAt w p a len cap) (hv : BVec w a len bs) (hp : OffB a len p) (hl : len ≤ 4096) (hn : n ≤ 9223372036854775807) :
    Calls Try.prog 66 #[.pointer (some ⟨p, 0, none⟩), .int .i64 n] w fun e w' => ∃ x : Int, e = .returned (.int .i64 x) ∧ 0 ≤ x ∧ (0 < n → x < n) ∧ (n ≤ 0 → x = 0) ∧ CurAt w' p a len cap ∧ w.grownBy w' (some p) := by
  by_cases h0 : n ≤ 0
  · go_enter Try.func66, Try.ntmps66
    go_wp2
    go_ret
    exact ⟨0, rfl, by omega, by omega, fun _ => rfl, hcur, grown_refl _ _⟩
  · by_cases h1 : n ≤ 256
    · have hne : (n == 0) = false := by simp; omega
      go_enter Try.func66, Try.ntmps66
      go_wp2_with fail
      refine (byte_any p a len cap bs _ hcur hv hp hl).mono ?_
      rintro e w1 ⟨x, rfl, hx0, hx1, hc1, hg1⟩
      have hlo : 0 ≤ x % n := Int.emod_nonneg _ (by omega)
      have hhi : x % n < n := Int.emod_lt_of_pos _ (by omega)
      go_wp2
      go_ret
      exact ⟨x % n, rfl, hlo, fun _ => hhi, fun h => by omega, hc1, hg1⟩
    · have hne : (n == 0) = false := by simp; omega
      go_enter Try.func66, Try.ntmps66
      go_wp2_with fail
      refine (byte_any p a len cap bs _ hcur hv hp hl).mono ?_
      rintro e w1 ⟨x, rfl, hx0, hx1, hc1, hg1⟩
      have hv1 := hv.grown hg1 hp
      go_wp2_with fail
      refine (byte_any p a len cap bs _ hc1 hv1 hp hl).mono ?_
      rintro e w2 ⟨y, rfl, hy0, hy1, hc2, hg2⟩
      have hv2 := hv1.grown hg2 hp
      go_wp2_with fail
      refine (byte_any p a len cap bs _ hc2 hv2 hp hl).mono ?_
      rintro e w3 ⟨z, rfl, hz0, hz1, hc3, hg3⟩
      have hv3 := hv2.grown hg3 hp
      go_wp2_with fail
      refine (byte_any p a len cap bs _ hc3 hv3 hp hl).mono ?_
      rintro e w4 ⟨u, rfl, hu0, hu1, hc4, hg4⟩
      have G := grown_trans (grown_trans hg1 hg2) (grown_trans hg3 hg4)
      have hlo : 0 ≤ (x * 16777216 + y * 65536 + z * 256 + u) % n := Int.emod_nonneg _ (by omega)
      have hhi : (x * 16777216 + y * 65536 + z * 256 + u) % n < n := Int.emod_lt_of_pos _ (by omega)
      clear hc1 hc2 hc3 hg1 hg2 hg3 hg4 hv hv1 hv2 hv3
      go_wp2
      go_ret
      exact ⟨(x * 16777216 + y * 65536 + z * 256 + u) % n, rfl, hlo, fun _ => hhi, fun h => by omega, hc4, G⟩

set_option maxHeartbeats 400000 in
theorem once_any (p : Nat) (a : Option Addr) (len cap : Nat) (bs : Nat → Int) (n : Int) (w : World) (hcur : CurAt w p a len cap) (hv : BVec w a len bs) (hp : OffB a len p) (hl : len ≤ 4096) (hn : n ≤ 9223372036854775807) :
    Calls Try.prog 71 #[.pointer (some ⟨p, 0, none⟩), .int .i64 n] w fun e w' => ∃ x : Bool, e = .returned (.bool x) ∧ CurAt w' p a len cap ∧ w.grownBy w' (some p) := by
  go_enter Try.func71, Try.ntmps71
  go_wp2_with fail
  refine (below_any p a len cap bs n _ hcur hv hp hl hn).mono ?_
  rintro e w1 ⟨x, rfl, hx0, hx1, hx2, hc1, hg1⟩
  go_wp2
  go_ret
  exact ⟨_, rfl, hc1, hg1⟩

set_option maxRecDepth 100000 in
set_option maxHeartbeats 1600000 in
theorem new_any (a : Option Addr) (len cap : Nat) (bs : Nat → Int) (w : World) (hv : BVec w a len bs) (hl : len ≤ 4096) :
    Calls Try.prog 65 #[.slice a len cap] w fun e w' => ∃ p, e = .returned (.pointer (some ⟨p, 0, none⟩)) ∧ w.heap.size ≤ p ∧ CurAt w' p a len cap ∧ Below w.heap.size w w' := by
  obtain ⟨hr, hcs⟩ := hv
  rcases hcs with h0 | ⟨b, off, rfl, hc⟩
  all_goals
    go_enter Try.func65, Try.ntmps65
    go_wp2
    go_loop [3, 4] (fun h i => ∃ (k : Nat) (x : Int), k ≤ len ∧ i = .int .i64 k ∧ h = .int .i64 x) (fun _ i => len - (intOf i).toNat)
    case atStart => exact ⟨0, _, Nat.zero_le _, rfl, rfl⟩
    case round =>
      obtain ⟨k, x, hk, rfl, rfl⟩ := hrel
      by_cases hlt : k < len
      · first
          | omega
          | (have hck := hc k hlt
             go_wp2
             go_round
             case rel => exact ⟨k + 1, _, by omega, by go_num, rfl⟩
             case measure => simp [intOf]; omega)
      · go_wp2
        go_ret
        exact ⟨w.heap.size, rfl, Nat.le_refl _, ⟨0, x, Nat.zero_le _, heap_alloc_new _ _⟩, (Below.refl _ _).alloc (Nat.le_refl _) _⟩
end Go.Proofs.Ytacogcfdolmfpaa
