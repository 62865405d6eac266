/-
  The contracts of the laws' own helpers: toInt64S makes a new row with the same numbers, eqInt64S tells whether two rows hold the same numbers.
-/
import Derived.Test.YtacogcfdolmfpaaBase
import Derived.Deep.OwnRows
import Derived.OpenShut
namespace Go.Proofs.Ytacogcfdolmfpaa
open Go.RowKit

theorem Try.info2 : (Try.prog.info? 2).map (fun i => (i.zero, i.size, i.bytes)) = some (some (.int .i64 0), 1, 8) := by kernel_rfl

/-- A row of int64 numbers of its own: block b holds just the numbers xs. -/
def RowOf (w : World) (b : Nat) (xs : List Int) : Prop := w.rowIs b 2 xs.length (fun i => .int .i64 (el xs i))

def Fits (xs : List Int) : Prop := ∀ x ∈ xs, -9223372036854775808 ≤ x ∧ x ≤ 9223372036854775807

theorem RowOf.vec {w : World} {b : Nat} {xs : List Int} (h : RowOf w b xs) (hf : Fits xs) : Vec w (some ⟨b, 0, none⟩) xs.length xs :=
  ⟨rfl, hf, .inr ⟨b, 0, rfl, fun i hi => by rw [Nat.zero_add]; exact World.rowIs.cell h hi⟩⟩
theorem RowOf.lt {w : World} {b : Nat} {xs : List Int} (h : RowOf w b xs) : b < w.heap.size := World.rowIs.lt h
theorem RowOf.drewN {w : World} {b : Nat} {xs : List Int} (h : RowOf w b xs) (n : Nat) : RowOf (w.drewN n) b xs := h
theorem RowOf.below {w w' : World} {b B : Nat} {xs : List Int} (h : RowOf w b xs) (hb : Below B w w') (hB : b < B) : RowOf w' b xs := World.rowIs.of_block h (hb.block b hB)
theorem Vec.lt {w : World} {a : Option Addr} {len : Nat} {xs : List Int} (h : Vec w a len xs) : len = 0 ∨ ∃ b off, a = some ⟨b, off, none⟩ ∧ b < w.heap.size := by
  obtain ⟨_, _, h0 | ⟨b, off, rfl, hc⟩⟩ := h
  · exact .inl h0
  · by_cases h0 : len = 0
    · exact .inl h0
    · exact .inr ⟨b, off, rfl, World.block_lt_of_cell? _ _ (hc 0 (by omega))⟩
theorem Vec.below {w w' : World} {a : Option Addr} {len B : Nat} {xs : List Int} (h : Vec w a len xs) (hb : Below B w w') (hB : w.heap.size ≤ B) : Vec w' a len xs := by
  obtain ⟨h1, h2, h3⟩ := h
  refine ⟨h1, h2, ?_⟩
  rcases h3 with h0 | ⟨b, off, rfl, hc⟩
  · exact .inl h0
  · refine .inr ⟨b, off, rfl, fun i hi => ?_⟩
    have hlt := World.block_lt_of_cell? _ _ (hc i hi)
    rw [hb.cell (p := ⟨b, off + i, none⟩) (Nat.lt_of_lt_of_le hlt hB)]
    exact hc i hi
theorem Vec.drewN {w : World} {a : Option Addr} {len : Nat} {xs : List Int} (h : Vec w a len xs) (n : Nat) : Vec (w.drewN n) a len xs := h

/-- How far the copy has come. -/
def part (xs : List Int) (k : Nat) : Nat → Value := fun j => if j < k then .int .i64 (el xs j) else .int .i64 0

theorem part_start {w : World} {xs : List Int} : (w.alloc (.cells (madeCells #[.int .i64 0] xs.length) 2)).rowIs w.heap.size 2 xs.length (part xs 0) :=
  (World.rowIs_made w (.int .i64 0) xs.length 2).congr (fun j _ => by simp [part])
theorem part_step {w : World} {b : Nat} {xs : List Int} {k : Nat} (h : w.rowIs b 2 xs.length (part xs k)) : (w.setCell ⟨b, k, none⟩ (.int .i64 (el xs k))).rowIs b 2 xs.length (part xs (k + 1)) := by
  refine (h.set k _).congr (fun j _ => ?_)
  simp only [part]
  by_cases e : j = k
  · subst e; simp
  · rw [if_neg e]
    by_cases hlt : j < k
    · rw [if_pos hlt, if_pos (by omega)]
    · rw [if_neg hlt, if_neg (by omega)]
theorem part_done {w : World} {b : Nat} {xs : List Int} {k : Nat} (h : w.rowIs b 2 xs.length (part xs k)) (hk : xs.length ≤ k) : RowOf w b xs :=
  World.rowIs.congr h (fun j hj => by simp only [part]; rw [if_pos (by omega)])

set_option maxHeartbeats 400000 in
theorem copy_any (a : Option Addr) (len cap : Nat) (xs : List Int) (w : World) (hv : Vec w a len xs) (hm : len ≤ 17592186044416) :
    Calls Try.prog 61 #[.slice a len cap] w fun e w' => ∃ b, e = .returned (.slice (some ⟨b, 0, none⟩) len len) ∧ w.heap.size ≤ b ∧ RowOf w' b xs ∧ Below w.heap.size w w' := by
  obtain ⟨hlen, hb, hcs⟩ := hv
  subst hlen
  have hmk := run_make_row' (P := Try.prog) 24 2 (.int .i64 0) 8 Try.underlying24 Try.info2 rfl .i64 .i64 xs.length (by omega) (by omega)
  have hcs' : Hid (xs.length = 0) ∨ ∃ b off, a = some ⟨b, off, none⟩ ∧ ∀ i, i < xs.length → w.cell? ⟨b, off + i, none⟩ = some (.int .i64 (el xs i)) := hcs
  clear hcs
  rcases hcs' with h0 | ⟨b, off, rfl, hc⟩
  all_goals
    go_enter Try.func61, Try.ntmps61
    go_wp2
    go_loopw [4] (fun i wr => ∃ k : Nat, k ≤ xs.length ∧ i = .int .i64 k ∧ wr.rowIs w.heap.size 2 xs.length (part xs k) ∧ Below w.heap.size w wr ∧ wr.heap.size = w.heap.size + 1) (fun i _ => xs.length - (intOf i).toNat)
    case atStart => exact ⟨0, Nat.zero_le _, rfl, part_start, (Below.refl _ _).alloc (Nat.le_refl _) _, by simp⟩
    case round =>
      obtain ⟨k, hk, rfl, hrow, hbel, hsz⟩ := hrel
      have HR : Hid (wr.rowIs w.heap.size 2 xs.length (part xs k)) := hrow
      have HB : Hid (Below w.heap.size w wr) := hbel
      have HZ : Hid (wr.heap.size = w.heap.size + 1) := hsz
      clear hrow hbel hsz
      by_cases hlt : k < xs.length
      · first
          | (have := h0.out; omega)
          | (have hck : wr.cell? ⟨b, off + k, none⟩ = some (.int .i64 (el xs k)) := (HB.out.cell (p := ⟨b, off + k, none⟩) (World.block_lt_of_cell? _ _ (hc k hlt))).trans (hc k hlt)
             have hfr := HR.out.frozen k
             have hcl := HR.out.cell hlt
             go_wp2
             go_roundw
             case rel => exact ⟨k + 1, by omega, by go_num, part_step HR.out, HB.out.setCell (Nat.le_refl _) _, by simp [HZ.out]⟩
             case measure => simp [intOf]; omega)
      · go_wp2
        go_ret
        exact ⟨_, rfl, Nat.le_refl _, part_done HR.out (by omega), HB.out⟩

/-- What the row's reading of a slice of integers comes to. -/
def IsRow (k : IntKind) (w : World) (a : Option Addr) (len cap : Nat) (zs : List Int) : Prop :=
  (a = none ∧ len = 0 ∧ cap = 0 ∧ zs = []) ∨
  ∃ x, a = some x ∧ len ≤ cap ∧ cap ≤ maxLen ∧ zs.length = cap ∧ (∀ i, i < zs.length → w.cell? (x.add i) = some (.int k (zs.getD i 0))) ∧ ∀ n ∈ zs, (Lit.int k n).wf = true

theorem IsRow.vec {w : World} {a : Option Addr} {len cap : Nat} {zs : List Int} (h : IsRow .i64 w a len cap zs) : Vec w a len (zs.take len) ∧ len ≤ cap ∧ cap ≤ maxLen := by
  rcases h with ⟨rfl, rfl, rfl, rfl⟩ | ⟨x, rfl, hl, hm, hz, hcell, hwz⟩
  · exact ⟨⟨rfl, by simp, .inl rfl⟩, Nat.le_refl _, Nat.zero_le _⟩
  · refine ⟨⟨by simp; omega, fun x hx => bounds_i64 (hwz x (List.mem_of_mem_take hx)), ?_⟩, hl, hm⟩
    by_cases h0 : len = 0
    · exact .inl h0
    · obtain ⟨b, off, spot⟩ := x
      have hc := hcell 0 (by omega)
      have hspot : spot = none := by simpa [Addr.add] using World.cell?_spot hc
      subst hspot
      refine .inr ⟨b, off, rfl, fun i hi => ?_⟩
      have := hcell i (by omega)
      have e : el (zs.take len) i = zs.getD i 0 := by simp [el, hi]
      rw [e]
      by_cases hi0 : i = 0
      · subst hi0; simpa [Addr.add] using this
      · simpa [Addr.add, hi0] using this

theorem eq_of_all {xs ys : List Int} (h : xs.length = ys.length) (he : ∀ j, j < xs.length → el xs j = el ys j) : xs = ys := by
  refine List.ext_getElem h (fun i h1 h2 => ?_)
  have := he i h1
  rwa [el_eq h1, el_eq h2] at this

set_option maxHeartbeats 400000 in
theorem eq_any (a a' : Option Addr) (len cap len' cap' : Nat) (xs ys : List Int) (w : World) (hv : Vec w a len xs) (hv' : Vec w a' len' ys) (hm : len ≤ maxLen) :
    Calls Try.prog 62 #[.slice a len cap, .slice a' len' cap'] w fun e w' => e = .returned (.bool (decide (xs = ys))) ∧ ∃ n, w' = w.drewN n := by
  unfold maxLen at hm
  obtain ⟨hlen, _, hcs⟩ := hv
  obtain ⟨hlen', _, hcs'⟩ := hv'
  by_cases hl : len = len'
  · have hne : ((len : Int) != (len' : Int)) = false := by simp [hl]
    have HL : Hid (xs.length = len) := hlen
    have HL' : Hid (ys.length = len') := hlen'
    have HLL : Hid (len = len') := hl
    have hle : (len : Int) ≤ (len' : Int) := by omega
    clear hlen hlen' hl
    by_cases h0 : len = 0
    · have hx : xs = [] := List.length_eq_zero_iff.1 (by rw [HL.out]; exact h0)
      have hy : ys = [] := List.length_eq_zero_iff.1 (by rw [HL'.out, ← HLL.out]; exact h0)
      subst h0 hx hy
      clear hcs hcs'
      go_enter Try.func62, Try.ntmps62
      go_wp2
      go_loop [5] (fun i => i = .int .i64 0) (fun _ => 0)
      case atStart => rfl
      case round =>
        subst hrel
        go_wp2
        go_ret
        exact ⟨rfl, 0, rfl⟩
    · rcases hcs with h | ⟨b, off, rfl, hc⟩
      · omega
      rcases hcs' with h | ⟨b', off', rfl, hc'⟩
      · have := HLL.out; omega
      go_enter Try.func62, Try.ntmps62
      go_wp2
      go_loopw [5] (fun i wr => ∃ k : Nat, k ≤ len ∧ i = .int .i64 k ∧ (∀ j, j < k → el xs j = el ys j) ∧ ∃ n, wr = w.drewN n) (fun i _ => len - (intOf i).toNat)
      case atStart => exact ⟨0, Nat.zero_le _, rfl, fun j hj => by omega, 0, rfl⟩
      case round =>
        obtain ⟨k, hk, rfl, hall, n, rfl⟩ := hrel
        have HA : Hid (∀ j, j < k → el xs j = el ys j) := hall
        clear hall
        by_cases hlt : k < len
        · have hck := hc k hlt
          have hck' := hc' k (by have := HLL.out; omega)
          have hi1 : (k : Int) < (len : Int) := by omega
          have hi2 : (k : Int) < (len' : Int) := by omega
          by_cases he : el xs k = el ys k
          · have hd : (el xs k != el ys k) = false := by simp [he]
            have HX : Hid (el xs k = el ys k) := he
            clear he
            go_wp2_with fail
            go_quiet (fail)
            go_wp2
            go_roundw
            case rel => exact ⟨k + 1, by omega, by go_num, fun j hj => by
              rcases Nat.lt_succ_iff_lt_or_eq.1 hj with h | h
              · exact HA.out j h
              · rw [h]; exact HX.out, _, rfl⟩
            case measure => simp [intOf]; omega
          · have hd : (el xs k != el ys k) = true := by simp [he]
            go_wp2_with fail
            go_quiet (fail)
            go_wp2
            go_ret
            exact ⟨ret_bool (by symm; rw [decide_eq_false_iff_not]; intro h; exact he (by rw [h])), _, World.drewN_drewN _ _ _⟩
        · go_wp2
          go_ret
          exact ⟨ret_bool (by symm; rw [decide_eq_true_iff]; exact eq_of_all (by rw [HL.out, HL'.out, HLL.out]) (fun j hj => HA.out j (by rw [HL.out] at hj; omega))), _, rfl⟩
  · have hne : ((len : Int) != (len' : Int)) = true := by simp; omega
    go_enter Try.func62, Try.ntmps62
    go_wp2
    go_ret
    exact ⟨ret_bool (by symm; rw [decide_eq_false_iff_not]; intro h; rw [h] at hlen; omega), 0, rfl⟩
end Go.Proofs.Ytacogcfdolmfpaa
