/-
  Several texts in one: Draw DrawVec DrawTwo Own.
-/
import Derived.Test.YtgaibngaincahaaGa
import Derived.ArgAppend
import Derived.Laws.IdiomCopy
import Derived.Shelf.SlSortCmp.QuietGrown
/-
  The contracts of the specification's cursor: what it draws is some number in its range; it writes into its own block alone.
-/
namespace Go.Proofs.Ytgaibngaincahaa
open Go.RowKit

/-- The slice value with the address a and the length len holds the bytes bs in w. -/
def BVec (w : World) (a : Option Addr) (len : Nat) (bs : Nat → Int) : Prop :=
  (∀ i, i < len → 0 ≤ bs i ∧ bs i ≤ 255) ∧ (len = 0 ∨ ∃ b off, a = some ⟨b, off, none⟩ ∧ ∀ i, i < len → w.cell? ⟨b, off + i, none⟩ = some (.int .u8 (bs i)))

/-- The address is of another block than p. -/
def Off (a : Option Addr) (p : Nat) : Prop := ∀ b off, a = some ⟨b, off, none⟩ → b ≠ p
/-- The same of what holds something. -/
def OffB (a : Option Addr) (len p : Nat) : Prop := 0 < len → ∀ b off, a = some ⟨b, off, none⟩ → b ≠ p
/-- What holds something lies below B. -/
def InB (a : Option Addr) (len B : Nat) : Prop := 0 < len → ∀ b off, a = some ⟨b, off, none⟩ → b < B
theorem BVec.inB {w : World} {a : Option Addr} {len : Nat} {bs : Nat → Int} (h : BVec w a len bs) : InB a len w.heap.size := by
  intro hl b off e
  obtain ⟨_, h0 | ⟨b', off', rfl, hc⟩⟩ := h
  · omega
  · cases e; exact World.block_lt_of_cell? _ _ (hc 0 hl)

/-- The cursor's own block. -/
def CurAt (w : World) (p : Nat) (a : Option Addr) (len cap : Nat) : Prop :=
  ∃ (i : Nat) (h : Int), i ≤ len ∧ w.heap[p]? = some (.cells #[.slice a len cap, .int .i64 (i : Int), .int .i64 h] 86 (0, 0))

theorem BVec.grown {w w' : World} {a : Option Addr} {len p : Nat} {bs : Nat → Int} (h : BVec w a len bs) (hg : w.grownBy w' (some p)) (hp : OffB a len p) : BVec w' a len bs := by
  obtain ⟨h1, h2⟩ := h
  refine ⟨h1, ?_⟩
  rcases h2 with h0 | ⟨b, off, rfl, hc⟩
  · exact .inl h0
  · refine .inr ⟨b, off, rfl, fun i hi => ?_⟩
    have hlt := World.block_lt_of_cell? _ _ (hc i hi)
    have hne : some b ≠ some p := by have := hp (by omega) b off rfl; simpa using this
    rw [World.cell?_of_block (w := w) (hg.block b hlt hne)]
    exact hc i hi
theorem BVec.below {w w' : World} {a : Option Addr} {len B : Nat} {bs : Nat → Int} (h : BVec w a len bs) (hb : Below B w w') (hB : w.heap.size ≤ B) : BVec w' a len bs := by
  obtain ⟨h1, h2⟩ := h
  refine ⟨h1, ?_⟩
  rcases h2 with h0 | ⟨b, off, rfl, hc⟩
  · exact .inl h0
  · refine .inr ⟨b, off, rfl, fun i hi => ?_⟩
    have hlt := World.block_lt_of_cell? _ _ (hc i hi)
    rw [hb.cell (p := ⟨b, off + i, none⟩) (Nat.lt_of_lt_of_le hlt hB)]
    exact hc i hi
theorem Vec.grown {w w' : World} {a : Option Addr} {len p : Nat} {xs : List Int} (h : Vec w a len xs) (hg : w.grownBy w' (some p)) (hp : Off a p) : Vec w' a len xs := by
  obtain ⟨h0, h1, h2⟩ := h
  refine ⟨h0, h1, ?_⟩
  rcases h2 with h0 | ⟨b, off, rfl, hc⟩
  · exact .inl h0
  · refine .inr ⟨b, off, rfl, fun i hi => ?_⟩
    have hlt := World.block_lt_of_cell? _ _ (hc i hi)
    have hne : some b ≠ some p := by have := hp b off rfl; simpa using this
    rw [World.cell?_of_block (w := w) (hg.block b hlt hne)]
    exact hc i hi
theorem grown_refl (w : World) (r : Option Nat) : w.grownBy w r := ⟨rfl, rfl, rfl, Nat.le_refl _, fun _ _ _ => rfl⟩
theorem grown_trans {w w1 w2 : World} {r : Option Nat} (h : w.grownBy w1 r) (k : w1.grownBy w2 r) : w.grownBy w2 r :=
  ⟨k.os.trans h.os, k.tape.trans h.tape, k.output.trans h.output, Nat.le_trans h.size k.size, fun i hi hr => (k.block i (Nat.lt_of_lt_of_le hi h.size) hr).trans (h.block i hi hr)⟩
theorem grown_drewN {w w1 : World} {r : Option Nat} (h : w.grownBy w1 r) (n : Nat) : w.grownBy (w1.drewN n) r := ⟨h.os, h.tape, h.output, h.size, h.block⟩
theorem grown_set {w w1 : World} {p : Nat} (h : w.grownBy w1 (some p)) (i : Nat) (u : Value) : w.grownBy (w1.setCell ⟨p, i, none⟩ u) (some p) :=
  ⟨h.os, h.tape, h.output, by simp [World.setCell]; exact h.size, fun k hk hr => (Below.heap_setCell _ _ _ _ (by intro e; exact hr (by rw [e]))).trans (h.block k hk hr)⟩
theorem CurAt.lt {w : World} {p : Nat} {a : Option Addr} {len cap : Nat} (h : CurAt w p a len cap) : p < w.heap.size := by
  obtain ⟨i, x, _, hb⟩ := h
  obtain ⟨hlt, _⟩ := Array.getElem?_eq_some_iff.1 hb
  exact hlt
theorem CurAt.below {w w' : World} {p B : Nat} {a : Option Addr} {len cap : Nat} (h : CurAt w p a len cap) (hb : Below B w w') (hp : p < B) : CurAt w' p a len cap := by
  obtain ⟨i, x, hi, hh⟩ := h
  exact ⟨i, x, hi, (hb.block p hp).trans hh⟩
theorem heap_set {w : World} {p i : Nat} {c : Array Value} {t : TypeId} {u : Value} (h : w.heap[p]? = some (.cells c t (0, 0))) : (w.setCell ⟨p, i, none⟩ u).heap[p]? = some (.cells (c.setIfInBounds i u) t (0, 0)) := by
  simp [World.setCell, Array.getElem?_modify, h]

theorem cur_two {w : World} {p i n : Nat} {s v u : Value} (hb : w.heap[p]? = some (.cells #[s, .int .i64 (i : Int), v] 86 (0, 0))) :
    (((w.setCell ⟨p, 2, none⟩ u).drewN n).setCell ⟨p, 1, none⟩ (.int .i64 ((i : Int) + 1))).heap[p]? = some (.cells #[s, .int .i64 ((i + 1 : Nat) : Int), u] 86 (0, 0)) := by
  have h1 : ((w.setCell ⟨p, 2, none⟩ u).drewN n).heap[p]? = some (.cells #[s, .int .i64 (i : Int), u] 86 (0, 0)) := heap_set (i := 2) (u := u) hb
  have h2 := heap_set (i := 1) (u := .int .i64 ((i : Int) + 1)) h1
  rw [h2]; simp

theorem i64_and255 (n : Int) : bits .and .i64 n 255 = n % 256 := by
  have h255 : (BitVec.ofInt 64 255).toNat = 2 ^ 8 - 1 := by decide
  have key : (BitVec.ofInt 64 n &&& BitVec.ofInt 64 255).toNat = (n % ((2 ^ 64 : Nat) : Int)).toNat % 2 ^ 8 := by
    rw [BitVec.toNat_and, BitVec.toNat_ofInt, h255, Nat.and_two_pow_sub_one_eq_mod]
  show IntKind.i64.wrap ((BitVec.ofInt 64 n &&& BitVec.ofInt 64 255).toNat : Nat) = n % 256
  rw [key, IntKind.wrap_i64]
  omega
theorem and255 (n : Int) : 0 ≤ bits .and .i64 n 255 ∧ bits .and .i64 n 255 ≤ 255 := by rw [i64_and255]; omega

set_option maxRecDepth 100000 in
set_option maxHeartbeats 1600000 in
theorem byte_any (p : Nat) (a : Option Addr) (len cap : Nat) (bs : Nat → Int) (w : World) (hcur : CurAt w p a len cap) (hv : BVec w a len bs) (hp : OffB a len p) (hl : len ≤ 4096) :
    Calls Try.prog 84 #[.pointer (some ⟨p, 0, none⟩)] w fun e w' => ∃ x : Int, e = .returned (.int .i64 x) ∧ 0 ≤ x ∧ x ≤ 255 ∧ CurAt w' p a len cap ∧ w.grownBy w' (some p) := by
  obtain ⟨i, h, hi, hb⟩ := hcur
  have h0 : w.cell? ⟨p, 0, none⟩ = some (.slice a len cap) := by simp [World.cell?, hb]
  have h1 : w.cell? ⟨p, 1, none⟩ = some (.int .i64 (i : Int)) := by simp [World.cell?, hb]
  have h2 : w.cell? ⟨p, 2, none⟩ = some (.int .i64 h) := by simp [World.cell?, hb]
  have hf : w.frozen? ⟨p, 2, none⟩ = false := by simp [World.frozen?, hb]
  have hf1 : w.frozen? ⟨p, 1, none⟩ = false := by simp [World.frozen?, hb]
  have HB : Hid (w.heap[p]? = some (.cells #[.slice a len cap, .int .i64 (i : Int), .int .i64 h] 86 (0, 0))) := hb
  clear hb
  by_cases hlt : i < len
  · obtain ⟨hr, hv0 | ⟨b, off, rfl, hc⟩⟩ := hv
    · omega
    · have hne := hp (by omega) b off rfl
      have hci := hc i hlt
      have hri := hr i hlt
      have hne' : p ≠ b := fun e => hne e.symm
      have hi1 : (i : Int) < (len : Int) := by omega
      have hi0 : (0 : Int) ≤ (i : Int) := by omega
      clear hc hr hp
      go_enter Try.func84, Try.ntmps84
      go_wp2_with fail
      go_quiet (fail)
      go_wp2_with fail
      go_quiet (fail)
      go_wp2_with fail
      go_quiet (fail)
      go_wp2
      go_ret
      refine ⟨_, rfl, (and255 _).1, (and255 _).2, ?_, ?_⟩
      · exact ⟨i + 1, _, hlt, cur_two HB.out⟩
      · exact grown_set (grown_drewN (grown_set (grown_refl _ _) _ _) _) _ _
  · have hil : i = len := by omega
    subst hil
    go_enter Try.func84, Try.ntmps84
    go_wp2_with fail
    go_quiet (fail)
    go_wp2_with fail
    go_quiet (fail)
    go_wp2
    go_ret
    refine ⟨_, rfl, (and255 _).1, (and255 _).2, ?_, ?_⟩
    · exact ⟨_, _, Nat.le_refl _, heap_set HB.out⟩
    · exact grown_drewN (grown_drewN (grown_set (grown_refl _ _) _ _) _) _

set_option maxRecDepth 100000 in
set_option maxHeartbeats 1600000 in
theorem below_any (p : Nat) (a : Option Addr) (len cap : Nat) (bs : Nat → Int) (n : Int) (w : World) (hcur : CurAt w p a len cap) (hv : BVec w a len bs) (hp : OffB a len p) (hl : len ≤ 4096) (hn : n ≤ 9223372036854775807) :
    Calls Try.prog 46 #[.pointer (some ⟨p, 0, none⟩), .int .i64 n] w fun e w' => ∃ x : Int, e = .returned (.int .i64 x) ∧ 0 ≤ x ∧ (0 < n → x < n) ∧ (n ≤ 0 → x = 0) ∧ CurAt w' p a len cap ∧ w.grownBy w' (some p) := by
  by_cases h0 : n ≤ 0
  · go_enter Try.func46, Try.ntmps46
    go_wp2
    go_ret
    exact ⟨0, rfl, by omega, by omega, fun _ => rfl, hcur, grown_refl _ _⟩
  · by_cases h1 : n ≤ 256
    · have hne : (n == 0) = false := by simp; omega
      go_enter Try.func46, Try.ntmps46
      go_wp2_with fail
      refine (byte_any p a len cap bs _ hcur hv hp hl).mono ?_
      rintro e w1 ⟨x, rfl, hx0, hx1, hc1, hg1⟩
      have hlo : 0 ≤ x % n := Int.emod_nonneg _ (by omega)
      have hhi : x % n < n := Int.emod_lt_of_pos _ (by omega)
      go_wp2
      go_ret
      exact ⟨x % n, rfl, hlo, fun _ => hhi, fun h => by omega, hc1, hg1⟩
    · have hne : (n == 0) = false := by simp; omega
      go_enter Try.func46, Try.ntmps46
      go_wp2_with fail
      refine (byte_any p a len cap bs _ hcur hv hp hl).mono ?_
      rintro e w1 ⟨x, rfl, hx0, hx1, hc1, hg1⟩
      have hv1 := hv.grown hg1 hp
      go_wp2_with fail
      refine (byte_any p a len cap bs _ hc1 hv1 hp hl).mono ?_
      rintro e w2 ⟨y, rfl, hy0, hy1, hc2, hg2⟩
      have hv2 := hv1.grown hg2 hp
      go_wp2_with fail
      refine (byte_any p a len cap bs _ hc2 hv2 hp hl).mono ?_
      rintro e w3 ⟨z, rfl, hz0, hz1, hc3, hg3⟩
      have hv3 := hv2.grown hg3 hp
      go_wp2_with fail
      refine (byte_any p a len cap bs _ hc3 hv3 hp hl).mono ?_
      rintro e w4 ⟨u, rfl, hu0, hu1, hc4, hg4⟩
      have G := grown_trans (grown_trans hg1 hg2) (grown_trans hg3 hg4)
      have hlo : 0 ≤ (x * 16777216 + y * 65536 + z * 256 + u) % n := Int.emod_nonneg _ (by omega)
      have hhi : (x * 16777216 + y * 65536 + z * 256 + u) % n < n := Int.emod_lt_of_pos _ (by omega)
      clear hc1 hc2 hc3 hg1 hg2 hg3 hg4 hv hv1 hv2 hv3
      go_wp2
      go_ret
      exact ⟨(x * 16777216 + y * 65536 + z * 256 + u) % n, rfl, hlo, fun _ => hhi, fun h => by omega, hc4, G⟩

set_option maxHeartbeats 400000 in
theorem once_any (p : Nat) (a : Option Addr) (len cap : Nat) (bs : Nat → Int) (n : Int) (w : World) (hcur : CurAt w p a len cap) (hv : BVec w a len bs) (hp : OffB a len p) (hl : len ≤ 4096) (hn : n ≤ 9223372036854775807) :
    Calls Try.prog 51 #[.pointer (some ⟨p, 0, none⟩), .int .i64 n] w fun e w' => ∃ x : Bool, e = .returned (.bool x) ∧ CurAt w' p a len cap ∧ w.grownBy w' (some p) := by
  go_enter Try.func51, Try.ntmps51
  go_wp2_with fail
  refine (below_any p a len cap bs n _ hcur hv hp hl hn).mono ?_
  rintro e w1 ⟨x, rfl, hx0, hx1, hx2, hc1, hg1⟩
  go_wp2
  go_ret
  exact ⟨_, rfl, hc1, hg1⟩

set_option maxRecDepth 100000 in
set_option maxHeartbeats 1600000 in
theorem new_any (a : Option Addr) (len cap : Nat) (bs : Nat → Int) (w : World) (hv : BVec w a len bs) (hl : len ≤ 4096) :
    Calls Try.prog 45 #[.slice a len cap] w fun e w' => ∃ p, e = .returned (.pointer (some ⟨p, 0, none⟩)) ∧ w.heap.size ≤ p ∧ CurAt w' p a len cap ∧ Below w.heap.size w w' := by
  obtain ⟨hr, hcs⟩ := hv
  rcases hcs with h0 | ⟨b, off, rfl, hc⟩
  all_goals
    go_enter Try.func45, Try.ntmps45
    go_wp2
    go_loop [3, 4] (fun h i => ∃ (k : Nat) (x : Int), k ≤ len ∧ i = .int .i64 k ∧ h = .int .i64 x) (fun _ i => len - (intOf i).toNat)
    case atStart => exact ⟨0, _, Nat.zero_le _, rfl, rfl⟩
    case round =>
      obtain ⟨k, x, hk, rfl, rfl⟩ := hrel
      by_cases hlt : k < len
      · first
          | omega
          | (have hck := hc k hlt
             go_wp2
             go_round
             case rel => exact ⟨k + 1, _, by omega, by go_num, rfl⟩
             case measure => simp [intOf]; omega)
      · go_wp2
        go_ret
        exact ⟨w.heap.size, rfl, Nat.le_refl _, ⟨0, x, Nat.zero_le _, heap_alloc_new _ _⟩, (Below.refl _ _).alloc (Nat.le_refl _) _⟩
end Go.Proofs.Ytgaibngaincahaa

/-
  The contract of the specification's l1DrawVector: it answers with some slice of int64 numbers in memory of its own, and writes into nothing else but the cursor's block.
-/
namespace Go.Proofs.Ytgaibngaincahaa
open Go.RowKit

def lenOf : Value → Nat | .slice _ n _ => n | _ => 0

/-- The array of a slice value lies in a block from B on. -/
def From (a : Option Addr) (B : Nat) : Prop := ∀ b off, a = some ⟨b, off, none⟩ → B ≤ b

/-- What a draw of a vector comes to. -/
def Drawn (w w' : World) (v : Value) (B p : Nat) (a : Option Addr) (len cap : Nat) : Prop :=
  ∃ a' m c zs, v = .slice a' m c ∧ Vec w' a' m zs ∧ m ≤ c ∧ c ≤ maxLen ∧ m ≤ 16 ∧ From a' B ∧ CurAt w' p a len cap ∧ w.grownBy w' (some p)

theorem grown_more {w w2 w3 : World} {r row : Option Nat} (h : w.grownBy w2 r) (hg : w2.grownBy w3 row) (hrow : ∀ k, row = some k → w.heap.size ≤ k) : w.grownBy w3 r :=
  ⟨hg.os.trans h.os, hg.tape.trans h.tape, hg.output.trans h.output, Nat.le_trans h.size hg.size, fun i hi hr => (hg.block i (Nat.lt_of_lt_of_le hi h.size) (by intro e; have := hrow i e.symm; omega)).trans (h.block i hi hr)⟩
theorem CurAt.grown {w w' : World} {p : Nat} {row : Option Nat} {a : Option Addr} {len cap : Nat} (h : CurAt w p a len cap) (hg : w.grownBy w' row) (hr : row ≠ some p) : CurAt w' p a len cap := by
  have hlt := h.lt
  obtain ⟨i, x, hi, hh⟩ := h
  exact ⟨i, x, hi, (hg.block p hlt (Ne.symm hr)).trans hh⟩
theorem CurAt.alloc {w : World} {p : Nat} {a : Option Addr} {len cap : Nat} (h : CurAt w p a len cap) (o : Obj) : CurAt (w.alloc o) p a len cap := h.grown (World.grownBy_alloc w o none) (by simp)
theorem OwnAt.grown {w w' : World} {p g cap : Nat} {zs : List Int} (h : OwnAt w g cap zs) (hg : w.grownBy w' (some p)) (hne : g ≠ p) : OwnAt w' g cap zs :=
  h.of_block (hg.block g h.lt (by simpa using hne))
theorem own_slice {w : World} {base : Nat} {v : Value} {zs : List Int} {n : Nat} (h : w.ownsRow base 2 1 v n (zs.map (Value.int .i64))) (hn : n = zs.length) (hf : Fits zs) :
    ∃ a' c, v = .slice a' n c ∧ Vec w a' n zs ∧ n ≤ c ∧ c ≤ maxLen ∧ From a' base := by
  by_cases h1 : 1 ≤ n
  · obtain ⟨g, c, hv, hb, ho⟩ := own_of_ownsRow h hn h1
    subst hn
    exact ⟨_, c, hv, ho.vec hf, ho.1, ho.2.1, fun b off e => by cases e; exact hb⟩
  · have h0 : n = 0 := by omega
    subst h0
    have hz : zs = [] := List.length_eq_zero_iff.1 hn.symm
    subst hz
    rcases h.2 with ⟨hv, _⟩ | ⟨g, c, cur, hv, hb, _, hle, hm, _⟩
    · exact ⟨none, 0, hv, ⟨rfl, hf, .inl rfl⟩, Nat.le_refl _, Nat.zero_le _, fun b off e => by cases e⟩
    · exact ⟨_, c, hv, ⟨rfl, hf, .inl rfl⟩, hle, hm, fun b off e => by cases e; exact hb⟩

def Small (zs : List Int) : Prop := ∀ z ∈ zs, 0 ≤ z ∧ z ≤ 6
theorem Small.fits {zs : List Int} (h : Small zs) : Fits zs := fun x hx => by have := h x hx; omega
theorem Small.snoc {zs : List Int} {x : Int} (h : Small zs) (h0 : 0 ≤ x) (h1 : x ≤ 6) : Small (zs ++ [x]) := by
  intro z hz
  rcases List.mem_append.1 hz with hz | hz
  · exact h z hz
  · simp at hz; subst hz; exact ⟨h0, h1⟩

theorem grown_setOwn {w w1 : World} {r : Option Nat} {g : Nat} (h : w.grownBy w1 r) (hg : w.heap.size ≤ g) (i : Nat) (u : Value) : w.grownBy (w1.setCell ⟨g, i, none⟩ u) r :=
  ⟨h.os, h.tape, h.output, by simp [World.setCell]; exact h.size, fun k hk hr => (Below.heap_setCell _ _ _ _ (by intro e; simp at e; omega)).trans (h.block k hk hr)⟩
theorem CurAt.set {w : World} {p g : Nat} {a : Option Addr} {len cap : Nat} (h : CurAt w p a len cap) (hne : g ≠ p) (i : Nat) (u : Value) : CurAt (w.setCell ⟨g, i, none⟩ u) p a len cap := by
  obtain ⟨j, x, hj, hh⟩ := h
  exact ⟨j, x, hj, (Below.heap_setCell _ _ _ _ (by intro e; exact hne e.symm)).trans hh⟩
theorem fits_set {zs : List Int} (h : Fits zs) (i : Nat) {y : Int} (hy : -9223372036854775808 ≤ y ∧ y ≤ 9223372036854775807) : Fits (zs.set i y) := by
  intro x hx
  rcases List.mem_or_eq_of_mem_set hx with hx | rfl
  · exact h x hx
  · exact hy
theorem own_tail {w : World} {g c : Nat} {zs : List Int} (h : OwnAt w g c zs) (hf : Fits zs) (h1 : 1 ≤ zs.length) : Vec w (some ⟨g, 1, none⟩) (zs.length - 1) zs.tail :=
  ⟨by simp, fun x hx => hf x (List.mem_of_mem_tail hx), .inr ⟨g, 1, rfl, fun i hi => by rw [Nat.add_comm, h.cell (i := i + 1) (by omega)]; simp [el]⟩⟩

set_option maxRecDepth 100000 in
set_option maxHeartbeats 3200000 in
theorem drawVector_any (p : Nat) (a : Option Addr) (len cap : Nat) (bs : Nat → Int) (N : Nat) (n : Int) (hN : n = (N : Int)) (w : World) (hcur : CurAt w p a len cap) (hv : BVec w a len bs) (hp : OffB a len p) (hl : len ≤ 4096) (hn : N ≤ 16) :
    Calls Try.prog 47 #[.pointer (some ⟨p, 0, none⟩), .int .i64 n] w fun e w' => ∃ v, e = .returned v ∧ Drawn w w' v w.heap.size p a len cap := by
  subst hN
  have hpl := hcur.lt
  obtain ⟨i0, hi0, hz0, hz1, hz2⟩ := info_parts Try.info2
  go_enter Try.func47, Try.ntmps47
  go_wp2
  go_loopw [1, 5] (fun q v wr => ∃ (k : Nat) (zs : List Int), k ≤ N ∧ zs.length = k ∧ q = .int .i64 ((N : Int) - (k : Int)) ∧ Small zs ∧ wr.ownsRow w.heap.size 2 1 v k (zs.map (Value.int .i64)) ∧ CurAt wr p a len cap ∧ w.grownBy wr (some p)) (fun q _ _ => (intOf q).toNat)
  case atStart => exact ⟨0, [], Nat.zero_le _, rfl, by simp, fun z hz => by simp at hz, owns_empty w, hcur.alloc _, World.grownBy_alloc _ _ _⟩
  case round =>
    obtain ⟨k, zs, hk, hzl, rfl, hsm, hown, hc, hg⟩ := hrel
    have HZ : Hid (zs.length = k) := hzl
    have HS : Hid (Small zs) := hsm
    have HG : Hid (w.grownBy wr (some p)) := hg
    have HO : Hid (wr.ownsRow w.heap.size 2 1 u5 k (zs.map (Value.int .i64))) := hown
    have hvr := hv.grown hg hp
    clear hzl hsm hg hown
    by_cases hlt : k < N
    · go_wp2_with fail
      refine (below_any p a len cap bs 6 _ hc hvr hp hl (by omega)).mono ?_
      rintro e w2 ⟨x, rfl, hx0, hx1, hx2, hc2, hg2⟩
      have hx6 : x ≤ 6 := by have := hx1 (by omega); omega
      have hown2 := HO.out.kept hg2 (.inr (owns_ne HO.out hpl))
      have hs2 : w.heap.size ≤ w2.heap.size := Nat.le_trans HG.out.size hg2.size
      clear hx1 hx2
      go_wp2_with (at_builtin; refine wpList_append_lies _ rfl _ _ _ rfl w.heap.size 2 i0 _ 1 8 Try.underlying24 hi0 hz0 hz1 hz2 rfl (by omega) u5 k _ rfl (hown2.alloc _) ⟨w2.heap.size, 0, none⟩ 1 1 [.int .i64 x] rfl rfl (World.news_of_block (cs := #[.int .i64 x]) (t := 2) (fr := (0, 0)) (heap_alloc_new w2 _)) (by simp [Value.oneCell']) (by omega) (by unfold maxLen; omega) (by omega) (by simp; omega) (w2.heap.size + 1) (by simp) ?_; intro g cap3 w3 hown3 hgrow hat hlt3)
      have R : Hid (w3.ownsRow w.heap.size 2 1 (.slice (some ⟨g, 0, none⟩) (k + 1) cap3) (k + 1) ((zs ++ [x]).map (Value.int .i64))) := by
        rw [Hid, List.map_append]; exact hown3
      have RC : Hid (CurAt w3 p a len cap) := (hc2.alloc _).grown hgrow (owns_ne HO.out hpl)
      have RG : Hid (w.grownBy w3 (some p)) := grown_more (grown_trans (grown_trans HG.out hg2) (World.grownBy_alloc _ _ _)) hgrow (fun r hr => (HO.out.lt r hr).1)
      have RS : Hid (Small (zs ++ [x])) := HS.out.snoc hx0 hx6
      clear hown3 hgrow hat hlt3 hown2 hc2 hg2 hc hvr hs2
      go_wp2
      go_roundw
      case rel => exact ⟨k + 1, zs ++ [x], by omega, by simp [HZ.out], by go_num, RS.out, R.out, RC.out, RG.out⟩
      case measure => simp [intOf]; omega
    · have hkN : k = N := by omega
      subst hkN
      by_cases h1 : 1 ≤ k
      · obtain ⟨g, c, hu, hgB, ho⟩ := own_of_ownsRow HO.out HZ.out.symm h1
        rw [HZ.out] at hu
        subst hu
        have hgp : g ≠ p := by omega
        go_wp2_with fail
        refine (once_any p a len cap bs 12 _ hc hvr hp hl (by omega)).mono ?_
        rintro e w2 ⟨x, rfl, hc2, hg2⟩
        have ho2 := ho.grown hg2 hgp
        have own2 := HO.out.kept hg2 (.inr (owns_ne HO.out hpl))
        have hv2 := hvr.grown hg2 hp
        have HG2 := grown_trans HG.out hg2
        have hpos : (0 : Int) < (k : Int) := by omega
        clear ho hvr hc hg2
        cases x
        · go_wp2
          go_ret
          exact ⟨_, rfl, _, k, c, zs, rfl, by have := ho2.vec HS.out.fits; rwa [HZ.out] at this, by have := ho2.1; rwa [HZ.out] at this, ho2.2.1, by omega, fun b off e => by cases e; exact hgB, hc2, HG2⟩
        · go_wp2_with fail
          refine (below_any p a len cap bs 3 _ hc2 hv2 hp hl (by omega)).mono ?_
          rintro e w3 ⟨y, rfl, hy0, hy1, hy2, hc3, hg3⟩
          have ho3 := ho2.grown hg3 hgp
          have own3 := own2.kept hg3 (.inr (owns_ne own2 hpl))
          have hv3 := hv2.grown hg3 hp
          have HG3 := grown_trans HG2 hg3
          have hy3 := hy1 (by omega)
          clear ho2 hc2 hv2 hg3 HG2 hy1 hy2 own2
          rcases (by omega : y = 0 ∨ y = 1 ∨ y = 2) with hy | hy | hy
          · subst hy
            go_wp2_with fail
            have ho3' : OwnAt (w3.alloc (.cells #[.int .i64 (-1), .int .i64 1000000, .int .i64 1000001, .int .i64 4611686018427387904] 2)) g c zs := ho3.of_block (Below.heap_alloc _ _ _ ho3.lt)
            have hv3' := hv3.grown (World.grownBy_alloc w3 (.cells #[.int .i64 (-1), .int .i64 1000000, .int .i64 1000001, .int .i64 4611686018427387904] 2) (some p)) hp
            have hp3 : p < w3.heap.size := hc3.lt
            refine (below_any p a len cap bs 4 _ (hc3.alloc _) hv3' hp hl (by omega)).mono ?_
            rintro e w4 ⟨z, rfl, hz0', hz1', hz2', hc4, hg4⟩
            have hblk := (hg4.block w3.heap.size (by simp) (by simp; omega)).trans (heap_alloc_new w3 _)
            have ho4 := ho3'.grown hg4 hgp
            have HG4 := grown_trans (grown_trans HG3 (World.grownBy_alloc w3 _ _)) hg4
            have e0 : w4.cell? ⟨w3.heap.size, 0, none⟩ = some (.int .i64 (-1)) := by simp [World.cell?, hblk]
            have e1 : w4.cell? ⟨w3.heap.size, 1, none⟩ = some (.int .i64 1000000) := by simp [World.cell?, hblk]
            have e2 : w4.cell? ⟨w3.heap.size, 2, none⟩ = some (.int .i64 1000001) := by simp [World.cell?, hblk]
            have e3 : w4.cell? ⟨w3.heap.size, 3, none⟩ = some (.int .i64 4611686018427387904) := by simp [World.cell?, hblk]
            have hcg := ho4.cell (i := 0) (by rw [HZ.out]; omega)
            have hfg := ho4.frozen 0
            have HO4 : Hid (OwnAt w4 g c zs) := ho4
            have HC4 : Hid (CurAt w4 p a len cap) := hc4
            have HGG : Hid (w.grownBy w4 (some p)) := HG4
            have hz4 := hz1' (by omega)
            clear hz1' hz2' hblk hg4 HG4 ho4 hc4 ho3' hv3' ho3 hv3 hc3 HG3 own3
            have FIN : Hid (∀ v : Int, -9223372036854775808 ≤ v ∧ v ≤ 9223372036854775807 → Drawn w (w4.setCell ⟨g, 0, none⟩ (.int .i64 v)) (.slice (some ⟨g, 0, none⟩) k c) w.heap.size p a len cap) := fun v hv =>
              ⟨_, k, c, zs.set 0 v, rfl, by have := (HO4.out.set 0 v).vec (fits_set HS.out.fits 0 hv); rwa [List.length_set, HZ.out] at this, by have := HO4.out.1; rwa [HZ.out] at this, HO4.out.2.1, by omega, fun b off e => by cases e; exact hgB, HC4.out.set hgp _ _, grown_setOwn HGG.out hgB _ _⟩
            rcases (by omega : z = 0 ∨ z = 1 ∨ z = 2 ∨ z = 3) with hz | hz | hz | hz
            all_goals
              subst hz
              go_wp2
              go_ret
              exact ⟨_, rfl, FIN.out _ (by omega)⟩
          · subst hy
            have hT := own_tail ho3 HS.out.fits (by rw [HZ.out]; exact h1)
            rw [HZ.out] at hT
            have hkc : k ≤ c := by have := ho3.1; rwa [HZ.out] at this
            have hcm := ho3.2.1
            have hkc' : (k : Int) ≤ (c : Int) := by omega
            have hk1 : (1 : Int) ≤ (k : Int) := by omega
            by_cases hc1 : c = 1
            · subst hc1
              have hk1' : k = 1 := by omega
              subst hk1'
              go_wp2
              go_ret
              exact ⟨_, rfl, _, _, _, zs.tail, rfl, ⟨hT.1, hT.2.1, .inl rfl⟩, by omega, by omega, by omega, fun b off e => by cases e; exact hgB, hc3, HG3⟩
            · go_wp2
              go_ret
              exact ⟨_, rfl, _, _, _, zs.tail, rfl, hT, by omega, by omega, by omega, fun b off e => by cases e; exact hgB, hc3, HG3⟩
          · subst hy
            clear ho3 hv3
            go_wp2
            go_loopw [5] (fun v wr => ∃ (m g c : Nat) (ys : List Int), v = .slice (some ⟨g, 0, none⟩) m c ∧ ys.length = m ∧ 1 ≤ m ∧ m ≤ 16 ∧ Small ys ∧ wr.ownsRow w.heap.size 2 1 v m (ys.map (Value.int .i64)) ∧ CurAt wr p a len cap ∧ w.grownBy wr (some p)) (fun v _ => 16 - lenOf v)
            case atStart => exact ⟨k, g, c, zs, rfl, HZ.out, h1, by omega, HS.out, own3, hc3, HG3⟩
            case round =>
              obtain ⟨m, g2, c2, ys, rfl, hyl, hm1, hm9, hys, hown, hcc, hgg⟩ := hrel
              have hvv := hv.grown hgg hp
              have HY : Hid (ys.length = m) := hyl
              have HYS : Hid (Small ys) := hys
              clear hyl hys
              go_wp2_with fail
              refine (below_any p a len cap bs 2 _ hcc hvv hp hl (by omega)).mono ?_
              rintro e w4 ⟨z, rfl, hz0', hz1', hz2', hc4, hg4⟩
              have own4 := hown.kept hg4 (.inr (owns_ne hown hpl))
              have HG4 := grown_trans hgg hg4
              have hz4 := hz1' (by omega)
              have hs4 := HG4.size
              clear hz1' hz2' hg4 hgg hown hcc hvv
              by_cases hlt2 : (m : Int) < 8 + z
              · go_wp2_with (at_builtin; refine wpList_append_lies _ rfl _ _ _ rfl w.heap.size 2 i0 _ 1 8 Try.underlying24 hi0 hz0 hz1 hz2 rfl (by omega) (.slice (some ⟨g2, 0, none⟩) m c2) m _ rfl (own4.alloc _) ⟨w4.heap.size, 0, none⟩ 1 1 [.int .i64 1] rfl rfl (World.news_of_block (cs := #[.int .i64 1]) (t := 2) (fr := (0, 0)) (heap_alloc_new w4 _)) (by simp [Value.oneCell']) (by omega) (by unfold maxLen; omega) (by omega) (by simp; omega) (w4.heap.size + 1) (by simp) ?_; intro g3 cap3 w5 hown5 hgrow hat hlt5)
                have R : Hid (w5.ownsRow w.heap.size 2 1 (.slice (some ⟨g3, 0, none⟩) (m + 1) cap3) (m + 1) ((ys ++ [1]).map (Value.int .i64))) := by
                  rw [Hid, List.map_append]; exact hown5
                have RC : Hid (CurAt w5 p a len cap) := (hc4.alloc _).grown hgrow (owns_ne own4 hpl)
                have RG : Hid (w.grownBy w5 (some p)) := grown_more (grown_trans HG4 (World.grownBy_alloc _ _ _)) hgrow (fun r hr => (own4.lt r hr).1)
                have RS : Hid (Small (ys ++ [1])) := HYS.out.snoc (by omega) (by omega)
                clear hown5 hgrow hat hlt5 own4 hc4 HG4
                go_wp2
                go_roundw
                case rel => exact ⟨m + 1, g3, cap3, ys ++ [1], rfl, by simp [HY.out], by omega, by omega, RS.out, R.out, RC.out, RG.out⟩
                case measure => simp [lenOf]; omega
              · go_wp2
                go_ret
                obtain ⟨a5, c5, hu5, q1, q2, q3, q4⟩ := own_slice own4 HY.out.symm HYS.out.fits
                cases hu5
                exact ⟨_, rfl, _, m, c2, ys, rfl, q1, q2, q3, by omega, q4, hc4, HG4⟩
      · obtain ⟨a', c, hu, hvec, hac, hcm, hfrom⟩ := own_slice HO.out HZ.out.symm HS.out.fits
        subst hu
        have hoff : Off a' p := fun b off e => by have := hfrom b off e; omega
        go_wp2_with fail
        refine (once_any p a len cap bs 12 _ hc hvr hp hl (by omega)).mono ?_
        rintro e w2 ⟨x, rfl, hc2, hg2⟩
        have hva := hvec.grown hg2 hoff
        have HG2 := grown_trans HG.out hg2
        have hpos : decide ((0 : Int) < (k : Int)) = false := by simp; omega
        clear hvec hvr hc hg2
        cases x
        all_goals
          go_wp2
          go_ret
          exact ⟨_, rfl, a', k, c, zs, rfl, hva, hac, hcm, by omega, hfrom, hc2, HG2⟩

set_option maxHeartbeats 800000 in
theorem drawVectorOk_any (a : Option Addr) (len cap : Nat) (bs : Nat → Int) (w : World) (hv : BVec w a len bs) (hl : len ≤ 4096) :
    Calls Try.prog 52 #[.slice a len cap] w fun e w' => ∃ a' m c zs, e = .returned (.slice a' m c) ∧ Vec w' a' m zs ∧ m ≤ c ∧ c ≤ maxLen ∧ m ≤ 16 ∧ Below w.heap.size w w' := by
  go_enter Try.func52, Try.ntmps52
  go_wp2_with fail
  refine (new_any a len cap bs w hv hl).mono ?_
  rintro e w1 ⟨p, rfl, hp, hc1, hb1⟩
  have hv1 := hv.below hb1 (Nat.le_refl _)
  have hoff : OffB a len p := fun hl b off e => by have := hv.inB hl b off e; omega
  go_wp2_with fail
  refine (below_any p a len cap bs 6 _ hc1 hv1 hoff hl (by omega)).mono ?_
  rintro e w2 ⟨x, rfl, hx0, hx1, hx2, hc2, hg2⟩
  have hv2 := hv1.grown hg2 hoff
  have hx6 := hx1 (by omega)
  go_wp2_with fail
  refine (drawVector_any p a len cap bs x.toNat _ (by omega) _ hc2 hv2 hoff hl (by omega)).mono ?_
  rintro e w3 ⟨v, rfl, a', m, c, zs, rfl, hvec, h1, h2, h3, h4, hc3, hg3⟩
  have hB : Below w.heap.size w w3 := hb1.trans (Below.grown (Below.grown (Below.refl _ _) hg2 hb1.size (fun r hr => by cases hr; exact hp)) hg3 (Nat.le_trans hb1.size hg2.size) (fun r hr => by cases hr; exact hp))
  go_wp2
  go_ret
  exact ⟨a', m, c, zs, rfl, hvec, h1, h2, h3, hB⟩

set_option maxHeartbeats 800000 in
theorem drawSum_any (a : Option Addr) (len cap : Nat) (bs : Nat → Int) (w : World) (hv : BVec w a len bs) (hl : len ≤ 4096) :
    Calls Try.prog 14 #[.slice a len cap] w fun e w' => ∃ a' m c zs, e = .returned (.slice a' m c) ∧ Vec w' a' m zs ∧ m ≤ c ∧ c ≤ maxLen ∧ m ≤ 16 ∧ Below w.heap.size w w' := by
  go_enter Try.func14, Try.ntmps14
  go_wp2_with fail
  refine (drawVectorOk_any a len cap bs w hv hl).mono ?_
  rintro e w3 ⟨a', m, c, zs, rfl, h⟩
  go_wp2
  go_ret
  exact ⟨a', m, c, zs, rfl, h⟩

set_option maxHeartbeats 800000 in
theorem drawJoin_any (a : Option Addr) (len cap : Nat) (bs : Nat → Int) (w : World) (hv : BVec w a len bs) (hl : len ≤ 4096) :
    Calls Try.prog 10 #[.slice a len cap] w fun e w' => ∃ a1 m1 c1 z1 a2 m2 c2 z2, e = .returned (.tuple #[.slice a1 m1 c1, .slice a2 m2 c2]) ∧ Vec w' a1 m1 z1 ∧ m1 ≤ c1 ∧ c1 ≤ maxLen ∧ m1 ≤ 16 ∧ Vec w' a2 m2 z2 ∧ m2 ≤ c2 ∧ c2 ≤ maxLen ∧ m2 ≤ 16 ∧ Below w.heap.size w w' ∧ From a1 w.heap.size ∧ From a2 w.heap.size := by
  go_enter Try.func10, Try.ntmps10
  go_wp2_with fail
  refine (new_any a len cap bs w hv hl).mono ?_
  rintro e w1 ⟨p, rfl, hp, hc1, hb1⟩
  have hv1 := hv.below hb1 (Nat.le_refl _)
  have hoff : OffB a len p := fun hl b off e => by have := hv.inB hl b off e; omega
  go_wp2_with fail
  refine (below_any p a len cap bs 4 _ hc1 hv1 hoff hl (by omega)).mono ?_
  rintro e w2 ⟨x, rfl, hx0, hx1, hx2, hc2, hg2⟩
  have hv2 := hv1.grown hg2 hoff
  have hx4 := hx1 (by omega)
  have hp2 := hc2.lt
  go_wp2_with fail
  refine (drawVector_any p a len cap bs (1 + x).toNat _ (by omega) _ hc2 hv2 hoff hl (by omega)).mono ?_
  rintro e w3 ⟨v, rfl, a1, m1, c1, z1, rfl, k1, k2, k3, k4, k5, hc3, hg3⟩
  have hv3 := hv2.grown hg3 hoff
  have hoff1 : Off a1 p := fun b off e => by have := k5 b off e; omega
  go_wp2_with fail
  refine (drawVector_any p a len cap bs (1 + x).toNat _ (by omega) _ hc3 hv3 hoff hl (by omega)).mono ?_
  rintro e w4 ⟨v, rfl, a2, m2, c2, z2, rfl, l1, l2, l3, l4, l5, hc4, hg4⟩
  have k1' := k1.grown hg4 hoff1
  have hB : Below w.heap.size w w4 := hb1.trans (Below.grown (Below.grown (Below.grown (Below.refl _ _) hg2 hb1.size (fun r hr => by cases hr; exact hp)) hg3 (Nat.le_trans hb1.size hg2.size) (fun r hr => by cases hr; exact hp)) hg4 (Nat.le_trans (Nat.le_trans hb1.size hg2.size) hg3.size) (fun r hr => by cases hr; exact hp))
  have f1 : From a1 w.heap.size := fun b off e => Nat.le_trans (Nat.le_trans hb1.size hg2.size) (k5 b off e)
  have f2 : From a2 w.heap.size := fun b off e => Nat.le_trans (Nat.le_trans (Nat.le_trans hb1.size hg2.size) hg3.size) (l5 b off e)
  clear hc1 hc2 hc3 hv1 hv2 hv3 hg2 hg3 hg4 k1
  go_wp2
  go_ret2
  exact ⟨a1, m1, c1, z1, a2, m2, c2, z2, rfl, k1', k2, k3, k4, l1, l2, l3, l4, hB, f1, f2⟩
end Go.Proofs.Ytgaibngaincahaa

/-
  The contracts of the draws and helpers that the law FnLattice goes by: DrawUnder, pick, vector, likeInts, big.
-/
namespace Go.Proofs.Ytgaibngaincahaa
open Go.RowKit

def sameB (xs ys : List Int) : Bool := decide (xs = ys)
theorem sameB_self (xs : List Int) : sameB xs xs = true := by simp [sameB]

theorem grown_below {B p : Nat} {w w' : World} (h : w.grownBy w' (some p)) (hp : B ≤ p) (hB : B ≤ w.heap.size) : Below B w w' :=
  Below.grown (Below.refl _ _) h hB (fun r hr => by cases hr; exact hp)

set_option maxRecDepth 100000 in
set_option maxHeartbeats 1600000 in
theorem drawUnder_any (a : Option Addr) (len cap : Nat) (bs : Nat → Int) (w : World) (hv : BVec w a len bs) (hl : len ≤ 4096) :
    Calls Try.prog 13 #[.slice a len cap] w fun e w' => ∃ a1 m1 c1 z1 a2 m2 c2 z2, e = .returned (.tuple #[.slice a1 m1 c1, .slice a2 m2 c2]) ∧ Vec w' a1 m1 z1 ∧ m1 ≤ c1 ∧ c1 ≤ maxLen ∧ m1 ≤ 16 ∧ Vec w' a2 m2 z2 ∧ m2 ≤ c2 ∧ c2 ≤ maxLen ∧ m2 ≤ 16 ∧ Below w.heap.size w w' := by
  go_enter Try.func13, Try.ntmps13
  go_wp2_with fail
  refine (new_any a len cap bs w hv hl).mono ?_
  rintro e w1 ⟨p, rfl, hp, hc1, hb1⟩
  have hv1 := hv.below hb1 (Nat.le_refl _)
  have hoff : OffB a len p := fun hl b off e => by have := hv.inB hl b off e; omega
  go_wp2_with fail
  refine (drawJoin_any a len cap bs w1 hv1 hl).mono ?_
  rintro e w2 ⟨a1, m1, c1, z1, a2, m2, c2, z2, rfl, k1, k2, k3, k4, l1, l2, l3, l4, hb2, f1, f2⟩
  have hc2 := hc1.below hb2 hc1.lt
  have hv2 := hv1.below hb2 (Nat.le_refl _)
  have B2 : Below w.heap.size w w2 := hb1.trans (hb2.mono hb1.size)
  have hlt1 := hc1.lt
  clear hv1 hc1 hb2
  have hp1 : p < w1.heap.size := hlt1
  have o1 : Off a1 p := fun b off e => by have := f1 b off e; omega
  have o2 : Off a2 p := fun b off e => by have := f2 b off e; omega
  go_wp2_with fail
  refine (once_any p a len cap bs 2 _ hc2 hv2 hoff hl (by omega)).mono ?_
  rintro e w3 ⟨x, rfl, hc3, hg3⟩
  have k1' := k1.grown hg3 o1
  have l1' := l1.grown hg3 o2
  have B3 : Below w.heap.size w w3 := B2.trans (grown_below hg3 hp B2.size)
  have q1 : m1 ≤ maxLen := Nat.le_trans k2 k3
  have q2 : m2 ≤ maxLen := Nat.le_trans l2 l3
  clear k1 l1 hc2 hc3 hv2 hg3 B2 o1 o2 f1 f2 hoff hb1 hv
  cases x
  · go_wp2
    go_ret2
    exact ⟨a1, m1, c1, z1, a2, m2, c2, z2, rfl, k1', k2, k3, k4, l1', l2, l3, l4, B3⟩
  · go_wp2_with fail
    refine (specJoin_any _ _ _ _ _ _ z1 z2 _ k1' l1' q1 q2).mono ?_
    rintro e w4 ⟨g, c, rfl, hg, ho, hb4⟩
    have k4' := k1'.below hb4 (Nat.le_refl _)
    have l4' := l1'.below hb4 (Nat.le_refl _)
    have B4 : Below w.heap.size w w4 := B3.trans (hb4.mono B3.size)
    clear k1' l1' hb4 ho
    by_cases hz : (0 : Int) < ((pairB max z1 z2).length : Int)
    · go_wp2_with fail
      refine (specJoin_any _ _ _ _ _ _ z1 z2 _ k4' l4' q1 q2).mono ?_
      rintro e w5 ⟨g5, c5, rfl, hg5, ho5, hb5⟩
      have k5' := k4'.below hb5 (Nat.le_refl _)
      have B5 : Below w.heap.size w w5 := B4.trans (hb5.mono B4.size)
      have hZ := pairB_len max z1 z2
      have hfz := pairB_fits max max_or z1 z2
      go_wp2
      go_ret2
      exact ⟨a1, m1, c1, z1, _, _, c5, _, rfl, k5', k2, k3, k4, ho5.vec hfz, ho5.1, ho5.2.1, by omega, B5⟩
    · have hz' : decide ((0 : Int) < ((pairB max z1 z2).length : Int)) = false := by simpa using hz
      go_wp2
      go_ret2
      exact ⟨a1, m1, c1, z1, a2, m2, c2, z2, rfl, k4', k2, k3, k4, l4', l2, l3, l4, B4⟩

set_option maxHeartbeats 800000 in
theorem big_any (a : Option Addr) (len cap : Nat) (w : World) :
    Calls Try.prog 9 #[.slice a len cap] w fun e w' => e = .returned (.bool (decide ((4096 : Int) < (len : Int)))) ∧ w' = w := by
  go_enter Try.func9, Try.ntmps9
  go_wp2
  go_ret
  exact ⟨rfl, rfl⟩

set_option maxRecDepth 100000 in
set_option maxHeartbeats 1600000 in
theorem pick_any (a : Option Addr) (len cap : Nat) (bs : Nat → Int) (seed n : Int) (w : World) (hv : BVec w a len bs) (hl : len ≤ 4096) (hs0 : 0 ≤ seed) (hs1 : seed ≤ 1000000) (hn0 : 0 < n) (hn1 : n ≤ 1000000) :
    Calls Try.prog 63 #[.slice a len cap, .int .i64 seed, .int .i64 n] w fun e w' => ∃ x : Int, e = .returned (.int .i64 x) ∧ 0 ≤ x ∧ x < n ∧ w' = w := by
  obtain ⟨hr, hcs⟩ := hv
  have hne : (n == 0) = false := by simp; omega
  rcases hcs with h0 | ⟨b, off, rfl, hc⟩
  all_goals
    go_enter Try.func63, Try.ntmps63
    go_wp2
    go_loop [7, 8] (fun h i => ∃ (k : Nat) (x : Int), k ≤ len ∧ i = .int .i64 k ∧ h = .int .i64 x ∧ 0 ≤ x ∧ x ≤ 10000000000) (fun _ i => len - (intOf i).toNat)
    case atStart => exact ⟨0, _, Nat.zero_le _, rfl, rfl, by omega, by omega⟩
    case round =>
      obtain ⟨k, x, hk, rfl, rfl, hx0, hx1⟩ := hrel
      by_cases hlt : k < len
      · first
          | omega
          | (have hck := hc k hlt
             have hrk := hr k hlt
             have hlo : 0 ≤ (x * 157 + bs k + seed) % 1000003 := Int.emod_nonneg _ (by omega)
             have hhi : (x * 157 + bs k + seed) % 1000003 < 1000003 := Int.emod_lt_of_pos _ (by omega)
             go_wp2
             go_round
             case rel => exact ⟨k + 1, _, by omega, by go_num, rfl, by omega, by omega⟩
             case measure => simp [intOf]; omega)
      · have hlo : 0 ≤ x % n := Int.emod_nonneg _ (by omega)
        have hhi : x % n < n := Int.emod_lt_of_pos _ hn0
        go_wp2
        go_ret
        exact ⟨_, rfl, hlo, hhi, rfl⟩

set_option maxRecDepth 100000 in
set_option maxHeartbeats 1600000 in
theorem vector_any (a : Option Addr) (len cap : Nat) (bs : Nat → Int) (seed n : Int) (N : Nat) (hN : n = (N : Int)) (w : World) (hv : BVec w a len bs) (hl : len ≤ 4096) (hs0 : 0 ≤ seed) (hs1 : seed ≤ 1000) (hn : N ≤ 1000) :
    Calls Try.prog 26 #[.slice a len cap, .int .i64 seed, .int .i64 n] w fun e w' => ∃ a' c zs, e = .returned (.slice a' N c) ∧ zs.length = N ∧ Small zs ∧ Vec w' a' N zs ∧ N ≤ c ∧ c ≤ maxLen ∧ Below w.heap.size w w' := by
  subst hN
  obtain ⟨i0, hi0, hz0, hz1, hz2⟩ := info_parts Try.info2
  go_enter Try.func26, Try.ntmps26
  go_wp2
  go_loopw [7, 8] (fun v q wr => ∃ (k : Nat) (zs : List Int), k ≤ N ∧ zs.length = k ∧ q = .int .i64 (k : Int) ∧ Small zs ∧ wr.ownsRow w.heap.size 2 1 v k (zs.map (Value.int .i64)) ∧ Below w.heap.size w wr) (fun _ q _ => N - (intOf q).toNat)
  case atStart => exact ⟨0, [], Nat.zero_le _, rfl, rfl, fun z hz => by simp at hz, owns_empty w, (Below.refl _ _).alloc (Nat.le_refl _) _⟩
  case round =>
    obtain ⟨k, zs, hk, hzl, rfl, hsm, hown, hbel⟩ := hrel
    have HZ : Hid (zs.length = k) := hzl
    have HS : Hid (Small zs) := hsm
    have HO : Hid (wr.ownsRow w.heap.size 2 1 u7 k (zs.map (Value.int .i64))) := hown
    have HB : Hid (Below w.heap.size w wr) := hbel
    have hsz := hbel.size
    have hvr := hv.below hbel (Nat.le_refl _)
    clear hzl hsm hown hbel
    by_cases hlt : k < N
    · go_wp2_with fail
      refine (pick_any a len cap bs _ 7 _ hvr hl (by omega) (by omega) (by omega) (by omega)).mono ?_
      rintro e w2 ⟨x, rfl, hx0, hx1, hw2⟩
      have own2 : w2.ownsRow w.heap.size 2 1 u7 k (zs.map (Value.int .i64)) := by rw [hw2]; exact HO.out
      have bel2 : Below w.heap.size w w2 := by rw [hw2]; exact HB.out
      have hs2 := bel2.size
      clear hw2
      go_wp2_with (at_builtin; refine wpList_append_lies _ rfl _ _ _ rfl w.heap.size 2 i0 _ 1 8 Try.underlying24 hi0 hz0 hz1 hz2 rfl (by omega) u7 k _ rfl (own2.alloc _) ⟨w2.heap.size, 0, none⟩ 1 1 [.int .i64 x] rfl rfl (World.news_of_block (cs := #[.int .i64 x]) (t := 2) (fr := (0, 0)) (heap_alloc_new w2 _)) (by simp [Value.oneCell']) (by omega) (by unfold maxLen; omega) (by omega) (by simp; omega) (w2.heap.size + 1) (by simp) ?_; intro g cap3 w3 hown3 hgrow hat hlt3)
      have R : Hid (w3.ownsRow w.heap.size 2 1 (.slice (some ⟨g, 0, none⟩) (k + 1) cap3) (k + 1) ((zs ++ [x]).map (Value.int .i64))) := by
        rw [Hid, List.map_append]; exact hown3
      have RB : Hid (Below w.heap.size w w3) := Below.grown (bel2.alloc hs2 _) hgrow (by simp; omega) (fun r hr => (own2.lt r hr).1)
      have RS : Hid (Small (zs ++ [x])) := HS.out.snoc hx0 (by omega)
      clear hown3 hgrow hat hlt3 own2 bel2 hs2 hvr
      go_wp2
      go_roundw
      case rel => exact ⟨k + 1, zs ++ [x], by omega, by simp [HZ.out], by go_num, RS.out, R.out, RB.out⟩
      case measure => simp [intOf]; omega
    · have hkN : k = N := by omega
      subst hkN
      go_wp2
      go_ret
      obtain ⟨a5, c5, hu5, q1, q2, q3, q4⟩ := own_slice HO.out HZ.out.symm HS.out.fits
      exact ⟨a5, c5, zs, by rw [← hu5]; rfl, HZ.out, HS.out, q1, q2, q3, HB.out⟩

set_option maxHeartbeats 400000 in
theorem like_any (a a' : Option Addr) (len cap len' cap' : Nat) (xs ys : List Int) (w : World) (hv : Vec w a len xs) (hv' : Vec w a' len' ys) (hm : len ≤ maxLen) :
    Calls Try.prog 15 #[.slice a len cap, .slice a' len' cap'] w fun e w' => e = .returned (.bool (sameB xs ys)) ∧ ∃ n, w' = w.drewN n := by
  unfold maxLen at hm
  unfold sameB
  obtain ⟨hlen, _, hcs⟩ := hv
  obtain ⟨hlen', _, hcs'⟩ := hv'
  by_cases hl : len = len'
  · have hne : ((len : Int) != (len' : Int)) = false := by simp [hl]
    have HL : Hid (xs.length = len) := hlen
    have HL' : Hid (ys.length = len') := hlen'
    have HLL : Hid (len = len') := hl
    have hle : (len : Int) ≤ (len' : Int) := by omega
    clear hlen hlen' hl
    by_cases h0 : len = 0
    · have hx : xs = [] := List.length_eq_zero_iff.1 (by rw [HL.out]; exact h0)
      have hy : ys = [] := List.length_eq_zero_iff.1 (by rw [HL'.out, ← HLL.out]; exact h0)
      subst h0 hx hy
      clear hcs hcs'
      go_enter Try.func15, Try.ntmps15
      go_wp2
      go_loop [5] (fun i => i = .int .i64 0) (fun _ => 0)
      case atStart => rfl
      case round =>
        subst hrel
        go_wp2
        go_ret
        exact ⟨rfl, 0, rfl⟩
    · rcases hcs with h | ⟨b, off, rfl, hc⟩
      · omega
      rcases hcs' with h | ⟨b', off', rfl, hc'⟩
      · have := HLL.out; omega
      go_enter Try.func15, Try.ntmps15
      go_wp2
      go_loopw [5] (fun i wr => ∃ k : Nat, k ≤ len ∧ i = .int .i64 k ∧ (∀ j, j < k → el xs j = el ys j) ∧ ∃ n, wr = w.drewN n) (fun i _ => len - (intOf i).toNat)
      case atStart => exact ⟨0, Nat.zero_le _, rfl, fun j hj => by omega, 0, rfl⟩
      case round =>
        obtain ⟨k, hk, rfl, hall, n, rfl⟩ := hrel
        have HA : Hid (∀ j, j < k → el xs j = el ys j) := hall
        clear hall
        by_cases hlt : k < len
        · have hck := hc k hlt
          have hck' := hc' k (by have := HLL.out; omega)
          have hi1 : (k : Int) < (len : Int) := by omega
          have hi2 : (k : Int) < (len' : Int) := by omega
          by_cases he : el xs k = el ys k
          · have hd : (el xs k != el ys k) = false := by simp [he]
            have HX : Hid (el xs k = el ys k) := he
            clear he
            go_wp2_with fail
            go_quiet (fail)
            go_wp2
            go_roundw
            case rel => exact ⟨k + 1, by omega, by go_num, fun j hj => by
              rcases Nat.lt_succ_iff_lt_or_eq.1 hj with h | h
              · exact HA.out j h
              · rw [h]; exact HX.out, _, rfl⟩
            case measure => simp [intOf]; omega
          · have hd : (el xs k != el ys k) = true := by simp [he]
            go_wp2_with fail
            go_quiet (fail)
            go_wp2
            go_ret
            exact ⟨ret_bool (by symm; rw [decide_eq_false_iff_not]; intro h; exact he (by rw [h])), _, World.drewN_drewN _ _ _⟩
        · go_wp2
          go_ret
          exact ⟨ret_bool (by symm; rw [decide_eq_true_iff]; exact eq_of_all (by rw [HL.out, HL'.out, HLL.out]) (fun j hj => HA.out j (by rw [HL.out] at hj; omega))), _, rfl⟩
  · have hne : ((len : Int) != (len' : Int)) = true := by simp; omega
    go_enter Try.func15, Try.ntmps15
    go_wp2
    go_ret
    exact ⟨ret_bool (by symm; rw [decide_eq_false_iff_not]; intro h; rw [h] at hlen; omega), 0, rfl⟩
end Go.Proofs.Ytgaibngaincahaa

/-
  Slices that lie anywhere in a block of the call's own, with spare room; append onto them; worlds that have only grown.
-/
namespace Go.Proofs.Ytgaibngaincahaa
open Go.RowKit Go.Sort

/-- The slice ⟨g, off⟩ of n elements of s cells each, with room for cap, holds the cells xs; its cells may be written. -/
structure OSl (w : World) (s g off n cap : Nat) (xs : List Value) : Prop where
  len : xs.length = n * s
  le : n ≤ cap
  max : cap ≤ maxLen
  blk : g < w.heap.size
  cell : ∀ i, i < n * s → w.cell? ⟨g, off + i, none⟩ = xs[i]?
  some : ∀ i, i < cap * s → (w.cell? ⟨g, off + i, none⟩).isSome = true
  free : ∀ i, i < cap * s → w.frozen? ⟨g, off + i, none⟩ = false

theorem OSl.of_block {w w' : World} {s g off n cap : Nat} {xs : List Value} (h : OSl w s g off n cap xs) (e : w'.heap[g]? = w.heap[g]?) (hs : g < w'.heap.size) : OSl w' s g off n cap xs :=
  ⟨h.len, h.le, h.max, hs, fun i hi => by rw [World.cell?_of_block (w := w) e]; exact h.cell i hi, fun i hi => by rw [World.cell?_of_block (w := w) e]; exact h.some i hi,
    fun i hi => by rw [show w'.frozen? ⟨g, off + i, none⟩ = w.frozen? ⟨g, off + i, none⟩ from by simp only [World.frozen?, e]]; exact h.free i hi⟩
theorem OSl.below {w w' : World} {s g off n cap B : Nat} {xs : List Value} (h : OSl w s g off n cap xs) (hb : Below B w w') (hg : g < B) : OSl w' s g off n cap xs :=
  h.of_block (hb.block g hg) (Nat.lt_of_lt_of_le h.blk hb.size)
theorem OSl.drewN {w : World} {s g off n cap : Nat} {xs : List Value} (h : OSl w s g off n cap xs) (k : Nat) : OSl (w.drewN k) s g off n cap xs := ⟨h.len, h.le, h.max, h.blk, h.cell, h.some, h.free⟩
theorem OSl.grown {w w' : World} {s g off n cap : Nat} {xs : List Value} {r : Option Nat} (h : OSl w s g off n cap xs) (hg : w.grownBy w' r) (hr : r ≠ .some g) : OSl w' s g off n cap xs :=
  h.of_block (hg.block g h.blk (Ne.symm hr)) (Nat.lt_of_lt_of_le h.blk hg.size)

theorem add_lit0 (g off j : Nat) : (⟨g, off, none⟩ : Addr).add j = ⟨g, off + j, none⟩ := by unfold Addr.add; split <;> simp_all

theorem OSl.of_ownsRow {w : World} {base e s n : Nat} {v : Value} {xs : List Value} (h : w.ownsRow base e s v n xs) (hv : v ≠ .slice none 0 0) :
    ∃ g cap, v = .slice (.some ⟨g, 0, none⟩) n cap ∧ base ≤ g ∧ OSl w s g 0 n cap xs := by
  rcases h with ⟨hl, ⟨h0, _⟩ | ⟨g, cap, cur, hv', hb, hg, hle, hm, hs, ht⟩⟩
  · exact absurd h0 hv
  · refine ⟨g, cap, hv', hb, hl, hle, hm, (Array.getElem?_eq_some_iff.1 hg).1, fun i hi => ?_, fun i hi => ?_, fun i hi => ?_⟩
    · simp only [World.cell?, hg, Nat.zero_add]
      rw [← ht, List.getElem?_take, if_pos hi]
      simp
    · simp only [World.cell?, hg, Nat.zero_add]
      have : i < cur.size := by omega
      simp [this]
    · simp [World.frozen?, hg]

theorem size_setCells (b : Nat) : ∀ (vs : List Value) (o : Nat) (w : World), (w.setCells b o vs).heap.size = w.heap.size
  | [], _, _ => rfl
  | v :: vs, o, w => by
    have := size_setCells b vs (o + 1) (w.setCell ⟨b, o, none⟩ v)
    simp only [World.setCells] at this ⊢
    rw [this]; simp [World.setCell]
theorem grown_setCells (b : Nat) : ∀ (vs : List Value) (o : Nat) (w : World), w.grownBy (w.setCells b o vs) (some b)
  | [], _, w => grown_refl w _
  | v :: vs, o, w => by
    have := grown_setCells b vs (o + 1) (w.setCell ⟨b, o, none⟩ v)
    simp only [World.setCells] at this ⊢
    exact grown_trans (grown_set (grown_refl w _) o v) this

section
variable {P : Program} (w : World)

/-- append onto such a slice. -/
theorem run_append_os (t ty e : TypeId) (i : TypeInfo) (z : Value) (s bytes : Nat) (ht : P.underlying t = some (.slice e)) (hi : P.info? e = some i) (hz : i.zero = some z)
    (hsize : i.size = s) (hby : i.bytes = bytes) (hzs : z.cells.size = s) (hsz : 0 < s)
    (g off n cap : Nat) (xs : List Value) (ho : OSl w s g off n cap xs)
    (ad : Addr) (m c : Nat) (news : List Value) (hl : news.length = m * s) (hnews : ∀ j u, news[j]? = some u → w.cell? (ad.add j) = some u) (h1 : ∀ u ∈ news, u.oneCell' = true)
    (h63 : n + m ≤ maxLen) (hbytes : (n + m) * bytes ≤ 140737488355328) :
    ∃ g' off' cap' w', (Builtin.append_ #[t, t] ty #[.slice (some ⟨g, off, none⟩) n cap, .slice (some ad) m c]).run P w = .ok (.slice (some ⟨g', off', none⟩) (n + m) cap') w' ∧
      OSl w' s g' off' (n + m) cap' (xs ++ news) ∧ w.grownBy w' (some g) ∧ (g' = g ∨ g' = w.heap.size) := by
  have hms : ∀ j, j < m * s → n + m ≤ cap → n * s + j < cap * s := by
    intro j hj hr
    have : (n + m) * s ≤ cap * s := Nat.mul_le_mul_right _ hr
    rw [Nat.add_mul] at this
    omega
  have hns : n * s ≤ cap * s := Nat.mul_le_mul_right _ ho.le
  by_cases hroom : n + m ≤ cap
  · have hr := run_append_room_cells (P := P) w t ty e i ht hi g off n cap ad m c news (by rw [hl, hsize]) hnews h1 hroom
      (fun j hj => by rw [hsize, Nat.add_assoc]; exact ho.some _ (hms j (by omega) hroom)) (fun j hj => by rw [hsize, Nat.add_assoc]; exact ho.free _ (hms j (by omega) hroom))
    rw [hsize] at hr
    have hcs : ∀ j, j < news.length → (w.cell? ⟨g, off + n * s + j, none⟩).isSome = true := fun j hj => by rw [Nat.add_assoc]; exact ho.some _ (hms j (by omega) hroom)
    have hin := World.cell?_setCells_in g news (off + n * s) w hcs
    refine ⟨g, off, cap, _, hr, ⟨by rw [List.length_append, ho.len, hl, Nat.add_mul], hroom, ho.max, by rw [size_setCells]; exact ho.blk, fun k hk => ?_, fun k hk => ?_, fun k hk => ?_⟩, grown_setCells _ _ _ _, .inl rfl⟩
    · by_cases hlt : k < n * s
      · rw [World.cell?_setCells_out _ _ _ _ _ (fun _ _ => .inl (by simp; omega)), ho.cell k hlt, List.getElem?_append_left (by rw [ho.len]; exact hlt)]
      · have e1 : off + k = off + n * s + (k - n * s) := by omega
        rw [Nat.add_mul] at hk
        rw [e1, hin (k - n * s) (by omega), List.getElem?_append_right (by rw [ho.len]; omega), ho.len]
        simp
    · by_cases hin' : n * s ≤ k ∧ k < n * s + m * s
      · have e1 : off + k = off + n * s + (k - n * s) := by omega
        rw [e1, hin (k - n * s) (by omega)]; simp
      · rw [World.cell?_setCells_out _ _ _ _ _ (fun _ _ => by simp; omega)]; exact ho.some k hk
    · rw [World.frozen?_setCells]; exact ho.free k hk
  · have hg := run_append_arg_grows (P := P) w t ty e i z s bytes ht hi hz hsize hby hzs hsz ⟨g, off, none⟩ n cap xs ho.len (fun j u hu => by
      rw [add_lit0]
      have hj : j < xs.length := by
        rcases Nat.lt_or_ge j xs.length with h | h
        · exact h
        · rw [List.getElem?_eq_none h] at hu; cases hu
      rw [ho.cell j (by rw [← ho.len]; exact hj)]; exact hu) ad m c news hl hnews (by omega) h63 hbytes
    obtain ⟨v', w', hr, hown, hgr⟩ := hg
    have hm : 0 < n + m := by omega
    obtain ⟨g', cap', rfl, hb, hlt⟩ := hown.form hm
    obtain ⟨g2, cap2, hv2, _, hO⟩ := OSl.of_ownsRow hown (by intro h; cases h)
    cases hv2
    rcases hown.2 with ⟨h0, _⟩ | ⟨g3, cap3, cur, hv3, hb3, hg3, _⟩
    · cases h0
    · cases hv3
      refine ⟨g', 0, cap', w', hr, hO, ⟨hgr.os, hgr.tape, hgr.output, hgr.size, fun k hk _ => hgr.block k hk (by simp)⟩, ?_⟩
      right
      have hr2 := run_append_grow (P := P) w t ty e i z ht hi hz ⟨g, off, none⟩ n cap xs (by rw [hsize]; exact ho.len) (fun j u hu => by
        rw [add_lit0]
        have hj : j < xs.length := by
          rcases Nat.lt_or_ge j xs.length with h | h
          · exact h
          · rw [List.getElem?_eq_none h] at hu; cases hu
        rw [ho.cell j (by rw [← ho.len]; exact hj)]; exact hu) ad m c news (by rw [hsize]; exact hl) hnews (by omega) (by simp only [maxLen] at h63; omega) (growslice_fits (by omega) (by rw [hby]; exact hbytes))
      rw [hr2] at hr
      simp only [Result.ok.injEq, Value.slice.injEq, Option.some.injEq, Addr.mk.injEq] at hr
      exact hr.1.1.1.symm

/-- At the operation. -/
theorem wp_append_os {o : Oper} {a : Act} {K : Act → World → Prop} {Q : Exit → Act → World → Prop} (sl x : Operand) (t : TypeId)
    (hop : o.op = .call { callee := .builtin .append, args := #[sl, x], argTypes := #[t, t] })
    (e : TypeId) (i : TypeInfo) (z : Value) (s bytes : Nat) (ht : P.underlying t = some (.slice e)) (hi : P.info? e = some i) (hz : i.zero = some z)
    (hsize : i.size = s) (hby : i.bytes = bytes) (hzs : z.cells.size = s) (hsz : 0 < s)
    (g off n cap : Nat) (xs : List Value) (hs : a.eval sl = .slice (some ⟨g, off, none⟩) n cap) (ho : OSl w s g off n cap xs)
    (ad : Addr) (m c : Nat) (news : List Value) (hx : a.eval x = .slice (some ad) m c) (hl : news.length = m * s) (hnews : ∀ j u, news[j]? = some u → w.cell? (ad.add j) = some u) (h1 : ∀ u ∈ news, u.oneCell' = true)
    (h63 : n + m ≤ maxLen) (hbytes : (n + m) * bytes ≤ 140737488355328)
    (h : ∀ g' off' cap' w', OSl w' s g' off' (n + m) cap' (xs ++ news) → w.grownBy w' (some g) → (g' = g ∨ g' = w.heap.size) → K (a.put o.dst (.slice (some ⟨g', off', none⟩) (n + m) cap')) w') : o.wp P a w K Q := by
  obtain ⟨g', off', cap', w', hr, h2, h3, h4⟩ := run_append_os (P := P) w t o.type e i z s bytes ht hi hz hsize hby hzs hsz g off n cap xs ho ad m c news hl hnews h1 h63 hbytes
  unfold Oper.wp execOp
  simp only [hop, resolve, invoke, builtin, Sem.run_bind, Sem.run_pure, Result.andThen_ok, List.map_toArray, List.map_cons, List.map_nil, hs, hx, hr]
  exact h g' off' cap' w' h2 h3 h4
theorem wpList_append_os {ops : Array Oper} {rest : List Oper} {o : Oper} {a : Act} {Q : Exit → Act → World → Prop} (hgd : o.guard = none) (sl x : Operand) (t : TypeId)
    (hop : o.op = .call { callee := .builtin .append, args := #[sl, x], argTypes := #[t, t] })
    (e : TypeId) (i : TypeInfo) (z : Value) (s bytes : Nat) (ht : P.underlying t = some (.slice e)) (hi : P.info? e = some i) (hz : i.zero = some z)
    (hsize : i.size = s) (hby : i.bytes = bytes) (hzs : z.cells.size = s) (hsz : 0 < s)
    (g off n cap : Nat) (xs : List Value) (hs : a.eval sl = .slice (some ⟨g, off, none⟩) n cap) (ho : OSl w s g off n cap xs)
    (ad : Addr) (m c : Nat) (news : List Value) (hx : a.eval x = .slice (some ad) m c) (hl : news.length = m * s) (hnews : ∀ j u, news[j]? = some u → w.cell? (ad.add j) = some u) (h1 : ∀ u ∈ news, u.oneCell' = true)
    (h63 : n + m ≤ maxLen) (hbytes : (n + m) * bytes ≤ 140737488355328)
    (h : ∀ g' off' cap' w', OSl w' s g' off' (n + m) cap' (xs ++ news) → w.grownBy w' (some g) → (g' = g ∨ g' = w.heap.size) → wpList P ops Q rest (a.put o.dst (.slice (some ⟨g', off', none⟩) (n + m) cap')) w') : wpList P ops Q (o :: rest) a w :=
  wpList_plain hgd fun _ hK => wp_append_os w sl x t hop e i z s bytes ht hi hz hsize hby hzs hsz g off n cap xs hs ho ad m c news hx hl hnews h1 h63 hbytes fun g' off' cap' w' h2 h3 h4 => hK _ _ (h g' off' cap' w' h2 h3 h4)
theorem step_append_os {ops : Array Oper} {o : Oper} {a : Act} {K : Act → World → Prop} {Q : Exit → Act → World → Prop} {E : Prop} (hgd : o.guard = none) (sl x : Operand) (t : TypeId)
    (hop : o.op = .call { callee := .builtin .append, args := #[sl, x], argTypes := #[t, t] })
    (e : TypeId) (i : TypeInfo) (z : Value) (s bytes : Nat) (ht : P.underlying t = some (.slice e)) (hi : P.info? e = some i) (hz : i.zero = some z)
    (hsize : i.size = s) (hby : i.bytes = bytes) (hzs : z.cells.size = s) (hsz : 0 < s)
    (g off n cap : Nat) (xs : List Value) (hs : a.eval sl = .slice (some ⟨g, off, none⟩) n cap) (ho : OSl w s g off n cap xs)
    (ad : Addr) (m c : Nat) (news : List Value) (hx : a.eval x = .slice (some ad) m c) (hl : news.length = m * s) (hnews : ∀ j u, news[j]? = some u → w.cell? (ad.add j) = some u) (h1 : ∀ u ∈ news, u.oneCell' = true)
    (h63 : n + m ≤ maxLen) (hbytes : (n + m) * bytes ≤ 140737488355328)
    (h : ∀ g' off' cap' w', OSl w' s g' off' (n + m) cap' (xs ++ news) → w.grownBy w' (some g) → (g' = g ∨ g' = w.heap.size) → K (a.put o.dst (.slice (some ⟨g', off', none⟩) (n + m) cap')) w') :
    if Region.wanted o (yielded ops a.tmps) = true then Oper.wp P o a w K Q else E := by
  have hw : Region.wanted o (yielded ops a.tmps) = true := by simp [Region.wanted, hgd]
  rw [if_pos hw]
  exact wp_append_os w sl x t hop e i z s bytes ht hi hz hsize hby hzs hsz g off n cap xs hs ho ad m c news hx hl hnews h1 h63 hbytes h
end

/-- The same of int64 or int numbers. -/
def OI (w : World) (g off n cap : Nat) (zs : List Int) : Prop := OSl w 1 g off n cap (zs.map (Value.int .i64))
theorem OI.length {w : World} {g off n cap : Nat} {zs : List Int} (h : OI w g off n cap zs) : zs.length = n := by have := h.len; simpa using this
theorem OI.cellAt {w : World} {g off n cap : Nat} {zs : List Int} (h : OI w g off n cap zs) {i : Nat} (hi : i < n) : w.cell? ⟨g, off + i, none⟩ = some (.int .i64 (el zs i)) := by
  have hl := h.length
  rw [h.cell i (by omega)]
  simp [el, show i < zs.length by omega]
theorem OI.vec {w : World} {g off n cap : Nat} {zs : List Int} (h : OI w g off n cap zs) (hf : Fits zs) : Vec w (some ⟨g, off, none⟩) n zs :=
  ⟨h.length, hf, .inr ⟨g, off, rfl, fun _ hi => h.cellAt hi⟩⟩
theorem OI.below {w w' : World} {g off n cap B : Nat} {zs : List Int} (h : OI w g off n cap zs) (hb : Below B w w') (hg : g < B) : OI w' g off n cap zs := OSl.below h hb hg
theorem OI.drewN {w : World} {g off n cap : Nat} {zs : List Int} (h : OI w g off n cap zs) (k : Nat) : OI (w.drewN k) g off n cap zs := OSl.drewN h k
theorem OI.own {w : World} {g cap : Nat} {zs : List Int} (h : OwnAt w g cap zs) : OI w g 0 zs.length cap zs := by
  have hlt := h.lt
  obtain ⟨h1, h2, cur, hb, hs, hc⟩ := h
  refine ⟨by simp, h1, h2, hlt, fun i hi => ?_, fun i hi => ?_, fun i hi => ?_⟩
  · simp only [World.cell?, hb, Nat.zero_add]
    have : i < zs.length := by omega
    simp [hc i this, el, this]
  · simp only [World.cell?, hb, Nat.zero_add]
    have : i < cur.size := by omega
    simp [this]
  · simp [World.frozen?, hb]

/-- w' is w after some draws, with some blocks laid behind. -/
def Grew (w w' : World) : Prop := Below w.heap.size w w' ∧ w.drawn ≤ w'.drawn
theorem Grew.refl (w : World) : Grew w w := ⟨Below.refl _ _, Nat.le_refl _⟩
theorem Grew.trans {a b c : World} (h : Grew a b) (k : Grew b c) : Grew a c := ⟨h.1.trans (k.1.mono h.1.size), Nat.le_trans h.2 k.2⟩
theorem Grew.alloc {a b : World} (h : Grew a b) (o : Obj) : Grew a (b.alloc o) := ⟨h.1.alloc h.1.size o, h.2⟩
theorem Grew.drewN {a b : World} (h : Grew a b) (n : Nat) : Grew a (b.drewN n) := ⟨⟨h.1.os, h.1.tape, h.1.output, h.1.size, h.1.block⟩, Nat.le_trans h.2 (Nat.le_add_right _ _)⟩
theorem Grew.set {a b : World} (h : Grew a b) {g : Nat} (hg : a.heap.size ≤ g) (i : Nat) (u : Value) : Grew a (b.setCell ⟨g, i, none⟩ u) := ⟨h.1.setCell hg _, h.2⟩
theorem Grew.out {a b : World} (h : Grew a b) : ∃ q os, b = grow (a.drewN q) os := by
  obtain ⟨⟨ho, ht, hu, hs, hb⟩, hd⟩ := h
  refine ⟨b.drawn - a.drawn, b.heap.extract a.heap.size b.heap.size, ?_⟩
  have hh : b.heap = a.heap ++ b.heap.extract a.heap.size b.heap.size := by
    apply Array.ext_getElem?
    intro i
    rw [Array.getElem?_append]
    by_cases h : i < a.heap.size
    · rw [if_pos h]; exact hb i h
    · rw [if_neg h, Array.getElem?_extract]
      by_cases h2 : i < b.heap.size
      · rw [if_pos (by omega), show a.heap.size + (i - a.heap.size) = i from by omega]
      · rw [if_neg (by omega), Array.getElem?_eq_none (by omega)]
  cases b with
  | mk hp tp dr os ou =>
    simp only at ho ht hu hs hb hd hh
    subst ho ht hu
    simp only [grow, World.drewN]
    congr 1
    omega
theorem Grew.of_grow (w : World) (n : Nat) (os : Array Obj) : Grew w (grow (w.drewN n) os) :=
  ⟨⟨rfl, rfl, rfl, by simp [size_grow], fun k hk => heap_grow_old (w.drewN n) os hk⟩, Nat.le_add_right _ _⟩
theorem Grew.cell {a b : World} (h : Grew a b) {x : Addr} {v : Value} (hc : a.cell? x = some v) : b.cell? x = some v := (h.1.cell (World.block_lt_of_cell? _ _ hc)).trans hc
/-- A contract that only grows, as a step of a region that reads. -/
theorem grown_at {P : Program} {f : FuncId} {args : Array Value} {w : World} {n : Nat} {os : Array Obj} {v : Value}
    (h : Calls P f args (grow (w.drewN n) os) fun e w' => e = .returned v ∧ Grew (grow (w.drewN n) os) w') : Calls P f args (grow (w.drewN n) os) fun e w'' => e = .returned v ∧ ∃ p : GrownBy, w'' = grow (w.drewN p.n) p.os :=
  Calls.grown_of (h.mono fun _ _ ⟨he, hg⟩ => ⟨he, hg.out⟩)
end Go.Proofs.Ytgaibngaincahaa
