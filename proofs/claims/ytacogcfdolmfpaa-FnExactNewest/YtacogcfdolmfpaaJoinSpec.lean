/-
  The contracts of the specification's Join and Meet: a new row of the greater (the less) of each two numbers; of what is no pair of vectors, a new row of none. And of the laws' own helpers that write marks into a row and look whether they are held.
-/
import Derived.Test.YtacogcfdolmfpaaEnds
import Derived.Deep.AppendLies
import Derived.Deep.RegionHeld3
import Derived.Deep.DrawnRows
namespace Go.Proofs.Ytacogcfdolmfpaa
open Go.RowKit

/-- The first k answers of f at each two numbers. -/
def jn (f : Int → Int → Int) (xs ys : List Int) (k : Nat) : List Int := (List.range k).map (fun i => f (el xs i) (el ys i))
def pairB (f : Int → Int → Int) (xs ys : List Int) : List Int := if twoB xs ys = true then jn f xs ys xs.length else []

theorem jn_succ (f : Int → Int → Int) (xs ys : List Int) (k : Nat) : jn f xs ys (k + 1) = jn f xs ys k ++ [f (el xs k) (el ys k)] := by simp [jn, List.range_succ]
theorem jn_length (f : Int → Int → Int) (xs ys : List Int) (k : Nat) : (jn f xs ys k).length = k := by simp [jn]
theorem jn_el (f : Int → Int → Int) (xs ys : List Int) {n k : Nat} (h : k < n) : el (jn f xs ys n) k = f (el xs k) (el ys k) := by simp [jn, el, h]
theorem pairB_len (f : Int → Int → Int) (xs ys : List Int) : (pairB f xs ys).length ≤ 8 := by
  unfold pairB
  by_cases h : twoB xs ys = true
  · rw [if_pos h, jn_length]; exact (okB_len (twoB_true h).1).2
  · rw [if_neg h]; simp

/-- Block g is an array of the call's own with room for cap numbers, of which the first are zs. -/
def OwnAt (w : World) (g cap : Nat) (zs : List Int) : Prop :=
  zs.length ≤ cap ∧ cap ≤ maxLen ∧ ∃ cur, w.heap[g]? = some (.cells cur 2 (0, 0)) ∧ cur.size = cap ∧ ∀ i, i < zs.length → cur[i]? = some (.int .i64 (el zs i))

theorem OwnAt.lt {w : World} {g cap : Nat} {zs : List Int} (h : OwnAt w g cap zs) : g < w.heap.size := by
  obtain ⟨_, _, c, hb, _⟩ := h
  obtain ⟨hlt, _⟩ := Array.getElem?_eq_some_iff.1 hb
  exact hlt
theorem OwnAt.of_block {w w' : World} {g cap : Nat} {zs : List Int} (h : OwnAt w g cap zs) (e : w'.heap[g]? = w.heap[g]?) : OwnAt w' g cap zs := by
  obtain ⟨h1, h2, c, hb, h3⟩ := h
  exact ⟨h1, h2, c, e.trans hb, h3⟩
theorem OwnAt.below {w w' : World} {g cap B : Nat} {zs : List Int} (h : OwnAt w g cap zs) (hb : Below B w w') (hg : g < B) : OwnAt w' g cap zs := h.of_block (hb.block g hg)
theorem OwnAt.drewN {w : World} {g cap : Nat} {zs : List Int} (h : OwnAt w g cap zs) (n : Nat) : OwnAt (w.drewN n) g cap zs := h
theorem OwnAt.cell {w : World} {g cap : Nat} {zs : List Int} (h : OwnAt w g cap zs) {i : Nat} (hi : i < zs.length) : w.cell? ⟨g, i, none⟩ = some (.int .i64 (el zs i)) := by
  obtain ⟨_, _, c, hb, _, hc⟩ := h
  simp [World.cell?, hb, hc i hi]
theorem OwnAt.frozen {w : World} {g cap : Nat} {zs : List Int} (h : OwnAt w g cap zs) (i : Nat) : w.frozen? ⟨g, i, none⟩ = false := by
  obtain ⟨_, _, c, hb, _⟩ := h
  simp [World.frozen?, hb]
theorem OwnAt.vec {w : World} {g cap : Nat} {zs : List Int} (h : OwnAt w g cap zs) (hf : Fits zs) : Vec w (some ⟨g, 0, none⟩) zs.length zs :=
  ⟨rfl, hf, .inr ⟨g, 0, rfl, fun i hi => by rw [Nat.zero_add]; exact h.cell hi⟩⟩
theorem OwnAt.set {w : World} {g cap : Nat} {zs : List Int} (h : OwnAt w g cap zs) (i : Nat) (y : Int) : OwnAt (w.setCell ⟨g, i, none⟩ (.int .i64 y)) g cap (zs.set i y) := by
  obtain ⟨h1, h2, c, hb, hs, hc⟩ := h
  refine ⟨by simpa using h1, h2, c.setIfInBounds i (.int .i64 y), ?_, by simpa using hs, fun j hj => ?_⟩
  · simp [World.setCell, Array.getElem?_modify, hb]
  · rw [List.length_set] at hj
    rw [Array.getElem?_setIfInBounds]
    by_cases e : i = j
    · subst e; simp [el, hj]; omega
    · rw [if_neg e, hc j hj]; simp [el, e]
theorem RowOf.own {w : World} {b : Nat} {xs : List Int} (h : RowOf w b xs) (hm : xs.length ≤ maxLen) : OwnAt w b xs.length xs := by
  obtain ⟨c, hb, hn, hc⟩ := h
  exact ⟨Nat.le_refl _, hm, c, hb, hn, hc⟩
theorem own_of_ownsRow {w : World} {base : Nat} {v : Value} {zs : List Int} {n : Nat} (h : w.ownsRow base 2 1 v n (zs.map (Value.int .i64))) (hn : n = zs.length) (h1 : 1 ≤ n) :
    ∃ g cap, v = .slice (some ⟨g, 0, none⟩) zs.length cap ∧ base ≤ g ∧ OwnAt w g cap zs := by
  subst hn
  rcases h.2 with ⟨_, h0⟩ | ⟨g, cap, cur, hv, hb, hg, hle, hm, hs, ht⟩
  · omega
  · refine ⟨g, cap, hv, hb, hle, hm, cur, hg, by omega, fun i hi => ?_⟩
    have hi' : i < cur.toList.length := by simp; omega
    have e : (cur.toList.take (zs.length * 1))[i]? = (zs.map (Value.int .i64))[i]? := by rw [ht]
    rw [List.getElem?_take] at e
    rw [if_pos (by omega)] at e
    simp at e
    rw [e]; simp [el, hi]
theorem own_empty (w : World) : OwnAt (w.alloc (.cells #[] 2)) w.heap.size 0 [] :=
  ⟨Nat.le_refl _, Nat.zero_le _, #[], heap_alloc_new w _, rfl, fun _ hi => absurd hi (Nat.not_lt_zero _)⟩
theorem owns_empty (w : World) : (w.alloc (.cells #[] 2)).ownsRow w.heap.size 2 1 (.slice (some ⟨w.heap.size, 0, none⟩) 0 0) 0 [] :=
  ⟨rfl, .inr ⟨w.heap.size, 0, #[], rfl, Nat.le_refl _, heap_alloc_new w _, Nat.le_refl _, Nat.zero_le _, rfl, rfl⟩⟩
theorem owns_ne {w : World} {base b n : Nat} {v : Value} {l : List Value} (h : w.ownsRow base 2 1 v n l) (hb : b < base) : v.ownBlock ≠ some b := by
  intro e; have := (h.lt b e).1; omega

attribute [local go_sem ↓] Go.wp_at_zero Go.wp_at_succ

set_option maxRecDepth 100000 in
set_option maxHeartbeats 1600000 in
theorem specJoin_any (a a' : Option Addr) (len cap len' cap' : Nat) (xs ys : List Int) (w : World) (hv : Vec w a len xs) (hv' : Vec w a' len' ys) (hm : len ≤ maxLen) (hm' : len' ≤ maxLen) :
    Calls Try.prog 18 #[.slice a len cap, .slice a' len' cap'] w fun e w' => ∃ g c, e = .returned (.slice (some ⟨g, 0, none⟩) (pairB max xs ys).length c) ∧ w.heap.size ≤ g ∧ OwnAt w' g c (pairB max xs ys) ∧ Below w.heap.size w w' := by
  have hb0 : Below w.heap.size w (w.alloc (.cells #[] 2)) := (Below.refl _ _).alloc (Nat.le_refl _) _
  have hv0 := hv.below hb0 (Nat.le_refl _)
  have hv0' := hv'.below hb0 (Nat.le_refl _)
  cases h2 : twoB xs ys
  · have HP : Hid (pairB max xs ys = []) := by rw [Hid, pairB, h2]; rfl
    go_enter Try.func18, Try.ntmps18
    go_wp2_with fail
    refine (l1Two_any _ _ _ _ _ _ xs ys _ hv0 hv0' hm hm').mono ?_
    rintro e w1 ⟨rfl, hw1⟩
    have HW : Hid (w1 = w.alloc (.cells #[] 2)) := hw1
    clear hw1
    go_wp2
    go_ret
    refine ⟨w.heap.size, 0, by rw [HP.out]; rfl, Nat.le_refl _, ?_, ?_⟩
    · rw [HW.out, HP.out]; exact own_empty w
    · rw [HW.out]; exact hb0
  · obtain ⟨ox, oy, hl⟩ := twoB_true h2
    have kx := okB_len ox
    have hlx := hv.1
    have hly := hv'.1
    obtain ⟨b, off, rfl, hcx⟩ := hv.cells (by omega)
    obtain ⟨b', off', rfl, hcy⟩ := hv'.cells (by omega)
    have HP : Hid (pairB max xs ys = jn max xs ys len) := by rw [Hid, pairB, h2, hlx]; rfl
    have h1 : 1 ≤ len := by omega
    have h8 : len ≤ 8 := by omega
    have hll : len ≤ len' := by omega
    obtain ⟨i0, hi0, hz0, hz1, hz2⟩ := info_parts Try.info2
    clear ox oy hl hlx hly kx
    go_enter Try.func18, Try.ntmps18
    go_wp2_with fail
    refine (l1Two_any _ _ _ _ _ _ xs ys _ hv0 hv0' hm hm').mono ?_
    rintro e w1 ⟨rfl, hw1⟩
    have HW : Hid (w1 = w.alloc (.cells #[] 2)) := hw1
    clear hw1 hv hv' hv0 hv0' hm hm'
    go_wp2
    go_loopw [5, 6] (fun v i wr => ∃ k : Nat, k ≤ len ∧ i = .int .i64 k ∧ wr.ownsRow w.heap.size 2 1 v k ((jn max xs ys k).map (Value.int .i64)) ∧ Below w.heap.size w wr) (fun _ i _ => len - (intOf i).toNat)
    case atStart => exact ⟨0, Nat.zero_le _, rfl, by rw [HW.out]; exact owns_empty w, by rw [HW.out]; exact hb0⟩
    case round =>
      obtain ⟨k, hk, rfl, hown, hbel⟩ := hrel
      have HB : Hid (Below w.heap.size w wr) := hbel
      have hsz := hbel.size
      clear hbel
      by_cases hlt : k < len
      · have lx := World.block_lt_of_cell? _ _ (hcx k hlt)
        have ly := World.block_lt_of_cell? _ _ (hcy k (by omega))
        have ex : wr.cell? ⟨b, off + k, none⟩ = some (.int .i64 (el xs k)) := (HB.out.cell (p := ⟨b, off + k, none⟩) lx).trans (hcx k hlt)
        have ey : wr.cell? ⟨b', off' + k, none⟩ = some (.int .i64 (el ys k)) := (HB.out.cell (p := ⟨b', off' + k, none⟩) ly).trans (hcy k (by omega))
        have ax := owns_ne hown lx
        have ay := owns_ne hown ly
        have hi1 : (k : Int) < (len : Int) := by omega
        have hi2 : (k : Int) < (len' : Int) := by omega
        have hi0' : (0 : Int) ≤ (k : Int) := by omega
        clear hcx hcy
        go_wp2_with fail
        go_region_held3 (fun w' => w'.cell? ⟨b, off + k, none⟩ = some (.int .i64 (el xs k)) ∧ w'.cell? ⟨b', off' + k, none⟩ = some (.int .i64 (el ys k)))
          (first
            | go_keep
            | (go_split_ands
               refine ⟨?_, ?_⟩
               · (rw [hgrow.cell_far _ (by simp; omega) (Ne.symm ax)]; assumption)
               · (rw [hgrow.cell_far _ (by simp; omega) (Ne.symm ay)]; assumption)))
          (first
            | (go_at_call 74; refine (l1Max_any _ _ _).mono ?_; rintro e w' ⟨rfl, rfl⟩)
            | (refine step_append_lies _ (by rfl) _ _ _ (by rfl) w.heap.size 2 i0 _ 1 8 Try.underlying24 hi0 hz0 hz1 hz2 rfl (by omega) u5 k _ (by rfl) ((hown.alloc _).drew) ⟨wr.heap.size, 0, none⟩ 1 1 [.int .i64 (max (el xs k) (el ys k))] (by rfl) (by rfl) (World.news_of_block (cs := #[.int .i64 (max (el xs k) (el ys k))]) (t := 2) (fr := (0, 0)) (heap_alloc_new wr _)) (by simp [Value.oneCell']) (by omega) (by unfold maxLen; omega) (by omega) (by simp; omega) (wr.heap.size + 1) (by simp) ?_; intro g cap w1 hown1 hgrow hat hlt))
        have R : Hid (w1.ownsRow w.heap.size 2 1 (.slice (some ⟨g, 0, none⟩) (k + 1) cap) (k + 1) ((jn max xs ys (k + 1)).map (Value.int .i64))) := by
          rw [Hid, jn_succ, List.map_append]; exact hown1
        have RB : Hid (Below w.heap.size w w1) := Below.grown ((HB.out.alloc hsz _).drew) hgrow (by simp; omega) (fun r hr => (hown.lt r hr).1)
        clear hown1 hgrow hat hlt hown ex ey ax ay
        go_wp2
        go_roundw
        case rel => exact ⟨k + 1, by omega, by go_num, R.out, RB.out⟩
        case measure => simp [intOf]; omega
      · have hkl : k = len := by omega
        subst hkl
        go_wp2
        go_ret
        obtain ⟨g, c, hvv, hg, ho⟩ := own_of_ownsRow hown (jn_length _ _ _ _).symm h1
        exact ⟨g, c, by rw [HP.out, ← hvv]; rfl, hg, by rw [HP.out]; exact ho, HB.out⟩

set_option maxRecDepth 100000 in
set_option maxHeartbeats 1600000 in
theorem specMeet_any (a a' : Option Addr) (len cap len' cap' : Nat) (xs ys : List Int) (w : World) (hv : Vec w a len xs) (hv' : Vec w a' len' ys) (hm : len ≤ maxLen) (hm' : len' ≤ maxLen) :
    Calls Try.prog 19 #[.slice a len cap, .slice a' len' cap'] w fun e w' => ∃ g c, e = .returned (.slice (some ⟨g, 0, none⟩) (pairB min xs ys).length c) ∧ w.heap.size ≤ g ∧ OwnAt w' g c (pairB min xs ys) ∧ Below w.heap.size w w' := by
  have hb0 : Below w.heap.size w (w.alloc (.cells #[] 2)) := (Below.refl _ _).alloc (Nat.le_refl _) _
  have hv0 := hv.below hb0 (Nat.le_refl _)
  have hv0' := hv'.below hb0 (Nat.le_refl _)
  cases h2 : twoB xs ys
  · have HP : Hid (pairB min xs ys = []) := by rw [Hid, pairB, h2]; rfl
    go_enter Try.func19, Try.ntmps19
    go_wp2_with fail
    refine (l1Two_any _ _ _ _ _ _ xs ys _ hv0 hv0' hm hm').mono ?_
    rintro e w1 ⟨rfl, hw1⟩
    have HW : Hid (w1 = w.alloc (.cells #[] 2)) := hw1
    clear hw1
    go_wp2
    go_ret
    refine ⟨w.heap.size, 0, by rw [HP.out]; rfl, Nat.le_refl _, ?_, ?_⟩
    · rw [HW.out, HP.out]; exact own_empty w
    · rw [HW.out]; exact hb0
  · obtain ⟨ox, oy, hl⟩ := twoB_true h2
    have kx := okB_len ox
    have hlx := hv.1
    have hly := hv'.1
    obtain ⟨b, off, rfl, hcx⟩ := hv.cells (by omega)
    obtain ⟨b', off', rfl, hcy⟩ := hv'.cells (by omega)
    have HP : Hid (pairB min xs ys = jn min xs ys len) := by rw [Hid, pairB, h2, hlx]; rfl
    have h1 : 1 ≤ len := by omega
    have h8 : len ≤ 8 := by omega
    have hll : len ≤ len' := by omega
    obtain ⟨i0, hi0, hz0, hz1, hz2⟩ := info_parts Try.info2
    clear ox oy hl hlx hly kx
    go_enter Try.func19, Try.ntmps19
    go_wp2_with fail
    refine (l1Two_any _ _ _ _ _ _ xs ys _ hv0 hv0' hm hm').mono ?_
    rintro e w1 ⟨rfl, hw1⟩
    have HW : Hid (w1 = w.alloc (.cells #[] 2)) := hw1
    clear hw1 hv hv' hv0 hv0' hm hm'
    go_wp2
    go_loopw [5, 6] (fun v i wr => ∃ k : Nat, k ≤ len ∧ i = .int .i64 k ∧ wr.ownsRow w.heap.size 2 1 v k ((jn min xs ys k).map (Value.int .i64)) ∧ Below w.heap.size w wr) (fun _ i _ => len - (intOf i).toNat)
    case atStart => exact ⟨0, Nat.zero_le _, rfl, by rw [HW.out]; exact owns_empty w, by rw [HW.out]; exact hb0⟩
    case round =>
      obtain ⟨k, hk, rfl, hown, hbel⟩ := hrel
      have HB : Hid (Below w.heap.size w wr) := hbel
      have hsz := hbel.size
      clear hbel
      by_cases hlt : k < len
      · have lx := World.block_lt_of_cell? _ _ (hcx k hlt)
        have ly := World.block_lt_of_cell? _ _ (hcy k (by omega))
        have ex : wr.cell? ⟨b, off + k, none⟩ = some (.int .i64 (el xs k)) := (HB.out.cell (p := ⟨b, off + k, none⟩) lx).trans (hcx k hlt)
        have ey : wr.cell? ⟨b', off' + k, none⟩ = some (.int .i64 (el ys k)) := (HB.out.cell (p := ⟨b', off' + k, none⟩) ly).trans (hcy k (by omega))
        have ax := owns_ne hown lx
        have ay := owns_ne hown ly
        have hi1 : (k : Int) < (len : Int) := by omega
        have hi2 : (k : Int) < (len' : Int) := by omega
        have hi0' : (0 : Int) ≤ (k : Int) := by omega
        clear hcx hcy
        go_wp2_with fail
        go_region_held3 (fun w' => w'.cell? ⟨b, off + k, none⟩ = some (.int .i64 (el xs k)) ∧ w'.cell? ⟨b', off' + k, none⟩ = some (.int .i64 (el ys k)))
          (first
            | go_keep
            | (go_split_ands
               refine ⟨?_, ?_⟩
               · (rw [hgrow.cell_far _ (by simp; omega) (Ne.symm ax)]; assumption)
               · (rw [hgrow.cell_far _ (by simp; omega) (Ne.symm ay)]; assumption)))
          (first
            | (go_at_call 75; refine (l1Min_any _ _ _).mono ?_; rintro e w' ⟨rfl, rfl⟩)
            | (refine step_append_lies _ (by rfl) _ _ _ (by rfl) w.heap.size 2 i0 _ 1 8 Try.underlying24 hi0 hz0 hz1 hz2 rfl (by omega) u5 k _ (by rfl) ((hown.alloc _).drew) ⟨wr.heap.size, 0, none⟩ 1 1 [.int .i64 (min (el xs k) (el ys k))] (by rfl) (by rfl) (World.news_of_block (cs := #[.int .i64 (min (el xs k) (el ys k))]) (t := 2) (fr := (0, 0)) (heap_alloc_new wr _)) (by simp [Value.oneCell']) (by omega) (by unfold maxLen; omega) (by omega) (by simp; omega) (wr.heap.size + 1) (by simp) ?_; intro g cap w1 hown1 hgrow hat hlt))
        have R : Hid (w1.ownsRow w.heap.size 2 1 (.slice (some ⟨g, 0, none⟩) (k + 1) cap) (k + 1) ((jn min xs ys (k + 1)).map (Value.int .i64))) := by
          rw [Hid, jn_succ, List.map_append]; exact hown1
        have RB : Hid (Below w.heap.size w w1) := Below.grown ((HB.out.alloc hsz _).drew) hgrow (by simp; omega) (fun r hr => (hown.lt r hr).1)
        clear hown1 hgrow hat hlt hown ex ey ax ay
        go_wp2
        go_roundw
        case rel => exact ⟨k + 1, by omega, by go_num, R.out, RB.out⟩
        case measure => simp [intOf]; omega
      · have hkl : k = len := by omega
        subst hkl
        go_wp2
        go_ret
        obtain ⟨g, c, hvv, hg, ho⟩ := own_of_ownsRow hown (jn_length _ _ _ _).symm h1
        exact ⟨g, c, by rw [HP.out, ← hvv]; rfl, hg, by rw [HP.out]; exact ho, HB.out⟩

/-- Block g alone has been written. -/
structure Touch (g : Nat) (w w' : World) : Prop where
  os : w'.os = w.os
  tape : w'.tape = w.tape
  output : w'.output = w.output
  size : w'.heap.size = w.heap.size
  block : ∀ k, k ≠ g → w'.heap[k]? = w.heap[k]?
theorem Touch.refl (g : Nat) (w : World) : Touch g w w := ⟨rfl, rfl, rfl, rfl, fun _ _ => rfl⟩
theorem Touch.set {g : Nat} {w w' : World} (h : Touch g w w') (i : Nat) (u : Value) : Touch g w (w'.setCell ⟨g, i, none⟩ u) :=
  ⟨h.os, h.tape, h.output, by simp [World.setCell, h.size], fun k hk => (Below.heap_setCell _ _ _ _ hk).trans (h.block k hk)⟩
theorem Touch.below {g B : Nat} {w w' : World} (h : Touch g w w') (hg : B ≤ g) : Below B w w' :=
  ⟨h.os, h.tape, h.output, Nat.le_of_eq h.size.symm, fun k hk => h.block k (by omega)⟩
theorem OwnAt.touch {w w' : World} {g g' cap : Nat} {zs : List Int} (h : OwnAt w g cap zs) (ht : Touch g' w w') (hne : g ≠ g') : OwnAt w' g cap zs := h.of_block (ht.block g hne)

def mk (zs : List Int) (k0 j : Nat) : List Int := (List.range zs.length).map (fun i => if i < j then ((k0 + i : Nat) : Int) else el zs i)
def marks (n k0 : Nat) : List Int := (List.range n).map (fun i => ((k0 + i : Nat) : Int))
theorem mk_zero (zs : List Int) (k0 : Nat) : mk zs k0 0 = zs := by
  refine eq_of_all (by simp [mk]) (fun j hj => ?_)
  simp [mk] at hj
  simp [mk, el, hj]
theorem mk_len (zs : List Int) (k0 j : Nat) : (mk zs k0 j).length = zs.length := by simp [mk]
theorem mk_step (zs : List Int) (k0 j : Nat) : (mk zs k0 j).set j ((k0 + j : Nat) : Int) = mk zs k0 (j + 1) := by
  refine List.ext_getElem (by simp [mk]) (fun i h1 h2 => ?_)
  rw [List.getElem_set]
  simp only [mk, List.getElem_map, List.getElem_range]
  by_cases e : j = i
  · subst e; simp
  · rw [if_neg e]
    by_cases hlt : i < j
    · rw [if_pos hlt, if_pos (by omega)]
    · rw [if_neg hlt, if_neg (by omega)]
theorem mk_done (zs : List Int) (k0 : Nat) : mk zs k0 zs.length = marks zs.length k0 := by
  refine List.ext_getElem (by simp [mk, marks]) (fun i h1 h2 => ?_)
  simp [mk] at h1
  simp [mk, marks, h1]
theorem marks_len (n k0 : Nat) : (marks n k0).length = n := by simp [marks]
theorem marks_el {n k0 i : Nat} (h : i < n) : el (marks n k0) i = ((k0 + i : Nat) : Int) := by simp [marks, el, h]

set_option maxHeartbeats 400000 in
theorem mark_any (g cap k0 : Nat) (zs : List Int) (w : World) (ho : OwnAt w g cap zs) (hk : k0 ≤ 10000000) (hn : zs.length ≤ 10000000) :
    Calls Try.prog 63 #[.slice (some ⟨g, 0, none⟩) zs.length cap, .int .i64 (k0 : Int)] w fun e w' => e = .returned (.int .i64 ((k0 + zs.length : Nat) : Int)) ∧ OwnAt w' g cap (marks zs.length k0) ∧ Touch g w w' := by
  go_enter Try.func63, Try.ntmps63
  go_wp2
  go_loopw [1, 5] (fun q i wr => ∃ j : Nat, j ≤ zs.length ∧ i = .int .i64 j ∧ q = .int .i64 ((k0 + j : Nat) : Int) ∧ OwnAt wr g cap (mk zs k0 j) ∧ Touch g w wr) (fun _ i _ => zs.length - (intOf i).toNat)
  case atStart => exact ⟨0, Nat.zero_le _, rfl, rfl, by rw [mk_zero]; exact ho, Touch.refl _ _⟩
  case round =>
    obtain ⟨j, hj, rfl, rfl, hown, ht⟩ := hrel
    have HO : Hid (OwnAt wr g cap (mk zs k0 j)) := hown
    have HT : Hid (Touch g w wr) := ht
    clear hown ht ho
    by_cases hlt : j < zs.length
    · have hc := HO.out.cell (i := j) (by rw [mk_len]; exact hlt)
      have hf := HO.out.frozen j
      have hi1 : (j : Int) < (zs.length : Int) := by omega
      go_wp2
      go_roundw
      case rel => exact ⟨j + 1, by omega, by go_num, by go_num, by rw [← mk_step]; exact HO.out.set j _, HT.out.set j _⟩
      case measure => simp [intOf]; omega
    · have hjl : j = zs.length := by omega
      subst hjl
      go_wp2
      go_ret
      exact ⟨rfl, by rw [← mk_done]; exact HO.out, HT.out⟩

set_option maxHeartbeats 400000 in
theorem held_any (g cap k0 n : Nat) (w : World) (ho : OwnAt w g cap (marks n k0)) (hk : k0 ≤ 10000000) (hn : n ≤ 10000000) :
    Calls Try.prog 64 #[.slice (some ⟨g, 0, none⟩) n cap, .int .i64 (k0 : Int)] w fun e w' => e = .returned (.int .i64 ((k0 + n : Nat) : Int)) ∧ w' = w := by
  go_enter Try.func64, Try.ntmps64
  go_wp2
  go_loop [1, 5] (fun q i => ∃ j : Nat, j ≤ n ∧ i = .int .i64 j ∧ q = .int .i64 ((k0 + j : Nat) : Int)) (fun _ i => n - (intOf i).toNat)
  case atStart => exact ⟨0, Nat.zero_le _, rfl, rfl⟩
  case round =>
    obtain ⟨j, hj, rfl, rfl⟩ := hrel
    by_cases hlt : j < n
    · have hc := ho.cell (i := j) (by rw [marks_len]; exact hlt)
      rw [marks_el hlt] at hc
      have hi1 : (j : Int) < (n : Int) := by omega
      go_wp2
      go_round
      case rel => exact ⟨j + 1, by omega, by go_num, by go_num⟩
      case measure => simp [intOf]; omega
    · have hjl : j = n := by omega
      subst hjl
      go_wp2
      go_ret
      exact ⟨rfl, rfl⟩
end Go.Proofs.Ytacogcfdolmfpaa
