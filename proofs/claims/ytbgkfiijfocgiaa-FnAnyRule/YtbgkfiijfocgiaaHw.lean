/-
  Several texts in one: Drl.
-/
import Derived.Test.YtbgkfiijfocgiaaHk
import Derived.Test.YtbgkfiijfocgiaaHn
import Derived.Deep.RegionHeld3
/-
  The contract of the specification's l6Draw: some list of rules in memory of its own.
-/
namespace Go.Proofs.Ytbgkfiijfocgiaa
set_option linter.unusedSimpArgs false
set_option linter.unusedVariables false
open Go.RowKit Go.Sort

set_option maxHeartbeats 400000 in
theorem from6_any (p : Nat) (a : Option Addr) (len cap : Nat) (bs : Nat → Int) (lo hi : Int) (w : World) (hcur : CurAt w p a len cap) (hv : BVec w a len bs) (hp : OffB a len p) (hl : len ≤ 4096) (h0 : -1000 ≤ lo) (h1 : lo ≤ hi) (h2 : hi ≤ 100000) :
    Calls Try.prog 83 #[.pointer (some ⟨p, 0, none⟩), .int .i64 lo, .int .i64 hi] w fun e w' => ∃ x : Int, e = .returned (.int .i64 x) ∧ lo ≤ x ∧ x ≤ hi ∧ CurAt w' p a len cap ∧ w.grownBy w' (some p) := by
  have hB := below_any p a len cap bs (hi - lo + 1) w hcur hv hp hl (by omega)
  go_enter Try.func83, Try.ntmps83
  go_wp2_with fail
  refine hB.mono ?_
  rintro e w1 ⟨x, rfl, hx0, hx1, hx2, hc1, hg1⟩
  have hx3 := hx1 (by omega)
  have hb1 : lo + x ≤ 9223372036854775807 := by omega
  have hb2 : -9223372036854775808 ≤ lo + x := by omega
  clear hx1 hx2
  go_wp2
  go_ret
  exact ⟨lo + x, rfl, by omega, by omega, hc1, hg1⟩

/-- The cells of a rule, of a list of rules. -/
def ruC (r : Ru) : List Value := [.int .i64 r.to, .int .i64 r.fr, .int .i64 r.pl, .int .i64 r.mo]
def rusC (rs : List Ru) : List Value := rs.flatMap ruC
theorem rusC_len (rs : List Ru) : (rusC rs).length = rs.length * 4 := by
  induction rs with
  | nil => rfl
  | cons r rs ih => simp only [rusC, List.flatMap_cons, List.length_append, List.length_cons] at ih ⊢; rw [ih]; simp [ruC]; omega
theorem rusC_snoc (rs : List Ru) (r : Ru) : rusC (rs ++ [r]) = rusC rs ++ ruC r := by simp [rusC]
theorem rusC_get (rs : List Ru) : ∀ (i j : Nat), i < rs.length → j < 4 → (rusC rs)[i * 4 + j]? = (ruC (ruAt rs i))[j]? := by
  induction rs with
  | nil => intro i j hi; simp at hi
  | cons r rs ih =>
    intro i j hi hj
    have e : rusC (r :: rs) = ruC r ++ rusC rs := by simp [rusC]
    have h4 : (ruC r).length = 4 := rfl
    rw [e]
    cases i with
    | zero => rw [List.getElem?_append_left (by rw [h4]; omega)]; simp [ruAt]
    | succ i =>
      rw [List.getElem?_append_right (by rw [h4]; omega), h4, show (i + 1) * 4 + j - 4 = i * 4 + j by omega, ih i j (by simpa using hi) hj]
      simp [ruAt]
theorem rus_of_own {w : World} {g og cg : Nat} {rs : List Ru} (h : OSl w 4 g og rs.length cg (rusC rs)) : RuS w (some ⟨g, og, none⟩) rs.length rs := by
  refine ⟨rfl, .inr ⟨g, og, rfl, fun i hi => ?_⟩⟩
  have h0 := h.cell (i * 4 + 0) (by omega)
  have h1 := h.cell (i * 4 + 1) (by omega)
  have h2 := h.cell (i * 4 + 2) (by omega)
  have h3 := h.cell (i * 4 + 3) (by omega)
  rw [rusC_get rs i _ hi (by omega)] at h0 h1 h2 h3
  refine ⟨h0, ?_, ?_, ?_⟩
  · rw [Nat.add_assoc]; exact h1
  · rw [Nat.add_assoc]; exact h2
  · rw [Nat.add_assoc]; exact h3

/-- What the draw holds: a list of rules in a slice of its own, the cursor. -/
structure Ls (w wr : World) (p : Nat) (a : Option Addr) (len cap : Nat) (g og cg : Nat) (rs : List Ru) : Prop where
  own : OSl wr 4 g og rs.length cg (rusC rs)
  new : w.heap.size ≤ g
  cur : CurAt wr p a len cap
  grown : w.grownBy wr (some p)
theorem Ls.step {w wr w2 : World} {p : Nat} {a : Option Addr} {len cap g og cg : Nat} {rs : List Ru} (h : Ls w wr p a len cap g og cg rs) (hp : p < w.heap.size) (hc : CurAt w2 p a len cap) (hg : wr.grownBy w2 (some p)) : Ls w w2 p a len cap g og cg rs :=
  ⟨h.own.grown hg (by have := h.new; simp; omega), h.new, hc, grown_trans h.grown hg⟩
theorem Ls.alloc {w wr : World} {p : Nat} {a : Option Addr} {len cap g og cg : Nat} {rs : List Ru} (h : Ls w wr p a len cap g og cg rs) (o : Obj) : Ls w (wr.alloc o) p a len cap g og cg rs :=
  ⟨h.own.below ((Below.refl _ _).alloc (Nat.le_refl _) _) h.own.blk, h.new, h.cur.alloc _, grown_trans h.grown (World.grownBy_alloc _ _ _)⟩
theorem Ls.drew {w wr : World} {p : Nat} {a : Option Addr} {len cap g og cg : Nat} {rs : List Ru} (h : Ls w wr p a len cap g og cg rs) : Ls w wr.drew p a len cap g og cg rs :=
  ⟨h.own.drewN 1, h.new, h.cur, ⟨h.grown.os, h.grown.tape, h.grown.output, h.grown.size, h.grown.block⟩⟩
theorem Ls.app {w wr w6 : World} {p : Nat} {a : Option Addr} {len cap g og cg g6 o6 c6 : Nat} {rs : List Ru} {r : Ru} (h : Ls w wr p a len cap g og cg rs) (hp : p < w.heap.size) (hO : OSl w6 4 g6 o6 (rs.length + 1) c6 (rusC rs ++ ruC r)) (hg : wr.grownBy w6 (some g)) (hat : g6 = g ∨ g6 = wr.heap.size) : Ls w w6 p a len cap g6 o6 c6 (rs ++ [r]) := by
  have hn := h.new
  refine ⟨by rw [rusC_snoc, List.length_append]; exact hO, ?_, h.cur.grown hg (by simp; omega), grown_more h.grown hg (fun k hk => by cases hk; exact hn)⟩
  rcases hat with h' | h'
  · rw [h']; exact hn
  · rw [h']; exact h.grown.size
/-- A drawn list of rules. -/
def Drus (w w' : World) (v : Value) (p : Nat) (a : Option Addr) (len cap : Nat) (rs : List Ru) : Prop :=
  ∃ g og cg, v = .slice (some ⟨g, og, none⟩) rs.length cg ∧ RuS w' (some ⟨g, og, none⟩) rs.length rs ∧ rs.length ≤ cg ∧ cg ≤ maxLen ∧ w.heap.size ≤ g ∧ g < w'.heap.size ∧ rs.length ≤ 30 ∧ CurAt w' p a len cap ∧ w.grownBy w' (some p)
theorem Ls.done {w wr : World} {p : Nat} {a : Option Addr} {len cap g og cg : Nat} {rs : List Ru} (h : Ls w wr p a len cap g og cg rs) (hl : rs.length ≤ 30) : Drus w wr (.slice (some ⟨g, og, none⟩) rs.length cg) p a len cap rs :=
  ⟨g, og, cg, rfl, rus_of_own h.own, h.own.le, h.own.max, h.new, h.own.blk, hl, h.cur, h.grown⟩

/-- The two lists of numbers that a rule is drawn from. -/
def arA (x y : Int) : Array Value := #[.int .i64 (-1), .int .i64 x, .int .i64 y]
def aAt (x y : Int) (i : Nat) : Int := if i = 0 then -1 else if i = 1 then x else y
theorem arA_at (x y : Int) {i : Nat} (h : i < 3) : (arA x y)[i]? = some (.int .i64 (aAt x y i)) := by
  match i, h with
  | 0, _ => rfl
  | 1, _ => rfl
  | 2, _ => rfl
theorem cell_ar {w : World} {b : Nat} {x y : Int} (h : w.heap[b]? = some (.cells (arA x y) 2)) {i : Nat} (hi : i < 3) : w.cell? ⟨b, i, none⟩ = some (.int .i64 (aAt x y i)) := by
  simp only [World.cell?, h]
  exact arA_at x y hi
theorem heap_past {w : World} {k : Nat} {o : Obj} (h : w.heap[k]? = some o) (o' : Obj) : (w.alloc o').heap[k]? = some o := by
  have hk : k < w.heap.size := (Array.getElem?_eq_some_iff.1 h).1
  exact (Below.heap_alloc _ _ _ hk).trans h

theorem heap_new2 (w : World) (o o' : Obj) : ((w.alloc o).alloc o').heap[w.heap.size + 1]? = some o' := by
  have := heap_alloc_new (w.alloc o) o'
  rwa [show (w.alloc o).heap.size = w.heap.size + 1 by simp] at this
theorem cell_past6 {w : World} {k i : Nat} {v : Value} (h : w.cell? ⟨k, i, none⟩ = some v) (o : Obj) : (w.alloc o).cell? ⟨k, i, none⟩ = some v := ((Grew.refl w).alloc o).cell h

theorem heap_new3 (w : World) (o o' o'' : Obj) : (((w.alloc o).alloc o').alloc o'').heap[w.heap.size + 1 + 1]? = some o'' := by
  have := heap_alloc_new ((w.alloc o).alloc o') o''
  rwa [show ((w.alloc o).alloc o').heap.size = w.heap.size + 1 + 1 by simp] at this
theorem Ls.own_k {w wr : World} {p : Nat} {a : Option Addr} {len cap g og cg k : Nat} {rs : List Ru} (h : Ls w wr p a len cap g og cg rs) (hk : rs.length = k) : OSl wr 4 g og k cg (rusC rs) := by
  rw [← hk]; exact h.own
theorem Ls.fin {w wr w6 : World} {p : Nat} {a : Option Addr} {len cap g og cg g6 o6 c6 k : Nat} {rs : List Ru} {x y u v : Int} (h : Ls w wr p a len cap g og cg rs) (hk : rs.length = k) (h7 : k ≤ 7) (hp : p < w.heap.size) (hO : OSl w6 4 g6 o6 (k + 1) c6 (rusC rs ++ [.int .i64 x, .int .i64 y, .int .i64 u, .int .i64 v])) (hg : wr.grownBy w6 (some g)) (hat : g6 = g ∨ g6 = wr.heap.size) :
    ∃ rs', Drus w w6 (.slice (some ⟨g6, o6, none⟩) (k + 1) c6) p a len cap rs' := by
  have := (h.app (r := ⟨x, y, u, v⟩) hp (by rw [hk]; exact hO) hg hat).done (by simp [hk]; omega)
  rw [List.length_append, hk] at this
  exact ⟨_, this⟩

theorem below3 (w X : World) (p : Nat) (a : Option Addr) (len cap g og cg : Nat) (rs : List Ru) (bs : Nat → Int) (h : Ls w X p a len cap g og cg rs) (hp : OffB a len p) (hl : len ≤ 4096) (hpl : p < w.heap.size) (hV : ∀ Y, w.grownBy Y (some p) → BVec Y a len bs) :
    Calls Try.prog 50 #[.pointer (some ⟨p, 0, none⟩), .int .i64 3] X fun e w' => ∃ Y : Nat, e = .returned (.int .i64 (Y : Int)) ∧ Y < 3 ∧ Ls w w' p a len cap g og cg rs ∧ X.heap.size ≤ w'.heap.size ∧ (∀ k o, X.heap[k]? = some o → ¬ k = p → w'.heap[k]? = some o) := by
  refine (below_any p a len cap bs 3 X h.cur (hV X h.grown) hp hl (by omega)).mono ?_
  rintro e w' ⟨x, rfl, h0, h1, _, hc, hg⟩
  have h3 := h1 (by omega)
  refine ⟨x.toNat, by rw [show ((x.toNat : Nat) : Int) = x by omega], by omega, h.step hpl hc hg, hg.size, fun k o hk hne => ?_⟩
  have hlt : k < X.heap.size := (Array.getElem?_eq_some_iff.1 hk).1
  exact (hg.block k hlt (by simpa using hne)).trans hk

set_option maxRecDepth 100000 in
set_option maxHeartbeats 6400000 in
theorem drawR_any (p : Nat) (a : Option Addr) (len cap : Nat) (bs : Nat → Int) (w : World) (hcur : CurAt w p a len cap) (hv : BVec w a len bs) (hp : OffB a len p) (hl : len ≤ 4096) :
    Calls Try.prog 68 #[.pointer (some ⟨p, 0, none⟩)] w fun e w' => ∃ v rs, e = .returned v ∧ Drus w w' v p a len cap rs := by
  have hpl := hcur.lt
  obtain ⟨i0, hi0, hz0, hz1, hz2⟩ := info_parts2n infoRule
  have hL0 : Ls w (w.alloc (.cells #[] 40)) p a len cap w.heap.size 0 0 [] :=
    ⟨⟨rfl, Nat.le_refl _, Nat.zero_le _, by simp, fun i hi => by simp at hi, fun i hi => by simp at hi, fun i hi => by simp at hi⟩, Nat.le_refl _, hcur.alloc _, World.grownBy_alloc _ _ _⟩
  have HL0 : Hid (Ls w (w.alloc (.cells #[] 40)) p a len cap w.heap.size 0 0 []) := hL0
  have HV : Hid (∀ X, w.grownBy X (some p) → BVec X a len bs) := fun X hX => hv.grown hX hp
  have hB0 := below_any p a len cap bs 8 _ hL0.cur (HV.out _ hL0.grown) hp hl (by omega)
  clear hcur hL0 hv
  go_enter Try.func68, Try.ntmps68
  go_wp2_with fail
  refine hB0.mono ?_
  rintro e w1 ⟨x, rfl, hx0, hx1, _, hc1, hg1⟩
  obtain ⟨N, rfl⟩ : ∃ N : Nat, x = (N : Int) := ⟨x.toNat, by omega⟩
  have hN : N ≤ 7 := by have := hx1 (by omega); omega
  have HL1 : Hid (Ls w w1 p a len cap w.heap.size 0 0 []) := HL0.out.step hpl hc1 hg1
  clear hx0 hx1 hc1 hg1 hB0 HL0
  go_wp2
  go_loopw [3, 4] (fun v q wr => ∃ (k : Nat) (rs : List Ru) (g og cg : Nat), k ≤ N ∧ rs.length = k ∧ v = .slice (some ⟨g, og, none⟩) k cg ∧ q = .int .i64 ((N : Int) - (k : Int)) ∧ Ls w wr p a len cap g og cg rs) (fun _ q _ => (intOf q).toNat)
  case atStart => exact ⟨0, [], w.heap.size, 0, 0, Nat.zero_le _, rfl, rfl, by simp, HL1.out⟩
  case round =>
    obtain ⟨k, rs, g, og, cg, hk, hrl, rfl, rfl, hLs⟩ := hrel
    have KL : Hid (Ls w wr p a len cap g og cg rs) := hLs
    have KR : Hid (rs.length = k) := hrl
    clear hLs hrl HL1
    by_cases hlt : k < N
    · have hpos : (0 : Int) < (N : Int) - (k : Int) := by omega
      have hB1 := below_any p a len cap bs 4 _ KL.out.cur (HV.out _ KL.out.grown) hp hl (by omega)
      go_wp2_with fail
      refine hB1.mono ?_
      rintro e w2 ⟨x0, rfl, _, _, _, hc2, hg2⟩
      have K2 : Hid (Ls w w2 p a len cap g og cg rs) := KL.out.step hpl hc2 hg2
      have hB2 := below_any p a len cap bs 4 _ hc2 (HV.out _ K2.out.grown) hp hl (by omega)
      clear hc2 hg2 hB1
      go_wp2_with fail
      refine hB2.mono ?_
      rintro e w3 ⟨x1, rfl, _, _, _, hc3, hg3⟩
      have K3 : Hid (Ls w w3 p a len cap g og cg rs) := K2.out.step hpl hc3 hg3
      have hB3 := below_any p a len cap bs 4 _ hc3 (HV.out _ K3.out.grown) hp hl (by omega)
      clear hc3 hg3 hB2 K2
      go_wp2_with fail
      refine hB3.mono ?_
      rintro e w4 ⟨x2, rfl, _, _, _, hc4, hg4⟩
      have K4 : Hid (Ls w w4 p a len cap g og cg rs) := K3.out.step hpl hc4 hg4
      have hB4 := below_any p a len cap bs 60 _ hc4 (HV.out _ K4.out.grown) hp hl (by omega)
      clear hc4 hg4 hB3 K3
      go_wp2_with fail
      refine hB4.mono ?_
      rintro e w5 ⟨x3, rfl, _, _, _, hc5, hg5⟩
      have K5 : Hid (Ls w w5 p a len cap g og cg rs) := K4.out.step hpl hc5 hg5
      have K6 : Hid (Ls w (w5.alloc (.cells #[.int .i64 x0, .int .i64 x1, .int .i64 x2, .int .i64 x3] 40)) p a len cap g og cg rs) := K5.out.alloc _
      have hO5 := K6.out.own
      rw [KR.out] at hO5
      clear hc5 hg5 hB4 K4
      go_wp2_with (at_builtin; refine wpList_append_os _ rfl _ _ _ rfl 40 i0 _ 4 32 Try.underlying33 hi0 hz0 hz1 hz2 rfl (by omega) g og k cg _ rfl hO5 ⟨w5.heap.size, 0, none⟩ 1 1 [.int .i64 x0, .int .i64 x1, .int .i64 x2, .int .i64 x3] rfl rfl (World.news_of_block (cs := #[.int .i64 x0, .int .i64 x1, .int .i64 x2, .int .i64 x3]) (t := 40) (fr := (0, 0)) (heap_alloc_new _ _)) (by simp [Value.oneCell']) (by unfold maxLen; omega) (by omega) ?_; intro g6 o6 c6 w6 hO6 hg6 hat6)
      have K7 : Hid (Ls w w6 p a len cap g6 o6 c6 (rs ++ [⟨x0, x1, x2, x3⟩])) := K6.out.app hpl (by rw [KR.out]; exact hO6) hg6 hat6
      clear hO6 hg6 hat6 hO5
      go_wp2
      go_roundw
      case rel => exact ⟨k + 1, rs ++ [⟨x0, x1, x2, x3⟩], g6, o6, c6, by omega, by simp [KR.out], rfl, by go_num, K7.out⟩
      case measure => simp [intOf]; omega
    · have hkN : k = N := by omega
      subst hkN
      have hB1 := once_any p a len cap bs 14 _ KL.out.cur (HV.out _ KL.out.grown) hp hl (by omega)
      go_wp2_with fail
      refine hB1.mono ?_
      rintro e w2 ⟨x, rfl, hc2, hg2⟩
      have K2 : Hid (Ls w w2 p a len cap g og cg rs) := KL.out.step hpl hc2 hg2
      clear hc2 hg2 hB1 KL
      cases x
      · have KF : Hid (Drus w w2 (.slice (some ⟨g, og, none⟩) k cg) p a len cap rs) := by
          have := K2.out.done (by rw [KR.out]; omega)
          rw [KR.out] at this
          exact this
        go_wp2
        go_ret
        exact ⟨_, rs, rfl, KF.out⟩
      · have hB2 := below_any p a len cap bs 3 _ K2.out.cur (HV.out _ K2.out.grown) hp hl (by omega)
        go_wp2_with fail
        refine hB2.mono ?_
        rintro e w3 ⟨y, rfl, hy0, hy1, _, hc3, hg3⟩
        have K3 : Hid (Ls w w3 p a len cap g og cg rs) := K2.out.step hpl hc3 hg3
        have hy3 := hy1 (by omega)
        clear hc3 hg3 hB2 K2 hy1
        rcases (by omega : y = 0 ∨ y = 1 ∨ y = 2) with hy | hy | hy
        · subst hy
          have hB3 := from6_any p a len cap bs (-1) 10 _ K3.out.cur (HV.out _ K3.out.grown) hp hl (by omega) (by omega) (by omega)
          go_wp2_with fail
          refine hB3.mono ?_
          rintro e w4 ⟨x0, rfl, _, _, hc4, hg4⟩
          have K4 : Hid (Ls w w4 p a len cap g og cg rs) := K3.out.step hpl hc4 hg4
          have hB4 := from6_any p a len cap bs (-1) 10 _ K4.out.cur (HV.out _ K4.out.grown) hp hl (by omega) (by omega) (by omega)
          clear hc4 hg4 hB3 K3
          go_wp2_with fail
          refine hB4.mono ?_
          rintro e w5 ⟨x1, rfl, _, _, hc5, hg5⟩
          have K5 : Hid (Ls w w5 p a len cap g og cg rs) := K4.out.step hpl hc5 hg5
          have K6 : Hid (Ls w (w5.alloc (.cells #[.int .i64 x0, .int .i64 x1, .int .i64 0, .int .i64 5] 40)) p a len cap g og cg rs) := K5.out.alloc _
          have hO5 := K6.out.own
          rw [KR.out] at hO5
          clear hc5 hg5 hB4 K4
          go_wp2_with (at_builtin; refine wpList_append_os _ rfl _ _ _ rfl 40 i0 _ 4 32 Try.underlying33 hi0 hz0 hz1 hz2 rfl (by omega) g og k cg _ rfl hO5 ⟨w5.heap.size, 0, none⟩ 1 1 [.int .i64 x0, .int .i64 x1, .int .i64 0, .int .i64 5] rfl rfl (World.news_of_block (cs := #[.int .i64 x0, .int .i64 x1, .int .i64 0, .int .i64 5]) (t := 40) (fr := (0, 0)) (heap_alloc_new _ _)) (by simp [Value.oneCell']) (by unfold maxLen; omega) (by omega) ?_; intro g6 o6 c6 w6 hO6 hg6 hat6)
          have K7 : Hid (Ls w w6 p a len cap g6 o6 c6 (rs ++ [⟨x0, x1, 0, 5⟩])) := K6.out.app hpl (by rw [KR.out]; exact hO6) hg6 hat6
          have KF : Hid (Drus w w6 (.slice (some ⟨g6, o6, none⟩) (k + 1) c6) p a len cap (rs ++ [⟨x0, x1, 0, 5⟩])) := by
            have := K7.out.done (by simp [KR.out]; omega)
            rw [List.length_append, KR.out] at this
            exact this
          clear hO6 hg6 hat6 hO5 K7
          go_wp2
          go_ret
          exact ⟨_, _, rfl, KF.out⟩
        · subst hy
          have L3 := K3.out
          have hnp3 : ¬ w3.heap.size = p := by have := L3.grown.size; omega
          have hnp3' : ¬ w3.heap.size + 1 = p := by have := L3.grown.size; omega
          go_wp2_with fail
          go_region_law
            (first
              | (refine step_append_os _ (by rfl) _ _ _ (by rfl) 40 i0 _ 4 32 Try.underlying33 hi0 hz0 hz1 hz2 rfl (by omega) g og k cg (rusC rs) (by rfl) (by exact Ls.own_k (L5.alloc _) KR.out) ⟨w5.heap.size, 0, none⟩ 1 1 [.int .i64 0, .int .i64 0, .int .i64 (aAt 100 101 Y), .int .i64 (aAt 200 1000001 Z)] (by rfl) (by rfl) (World.news_of_block (cs := #[.int .i64 0, .int .i64 0, .int .i64 (aAt 100 101 Y), .int .i64 (aAt 200 1000001 Z)]) (t := 40) (fr := (0, 0)) (by exact heap_alloc_new w5 _)) (by simp [Value.oneCell']) (by unfold maxLen; omega) (by omega) ?_
                 intro g6 o6 c6 w6 hO6 hg6 hat6
                 have KF : Hid (∃ rs', Drus w w6 (.slice (some ⟨g6, o6, none⟩) (k + 1) c6) p a len cap rs') := Ls.fin (L5.alloc _) KR.out hN hpl hO6 hg6 hat6
                 clear hO6 hg6 hat6)
              | (refine step_append_os _ (by rfl) _ _ _ (by rfl) 40 i0 _ 4 32 Try.underlying33 hi0 hz0 hz1 hz2 rfl (by omega) g og k cg (rusC rs) (by rfl) (by exact Ls.own_k ((L5.alloc _).alloc _) KR.out) ⟨w5.heap.size + 1, 0, none⟩ 1 1 [.int .i64 0, .int .i64 0, .int .i64 (aAt 100 101 Y), .int .i64 (aAt 200 1000001 Z)] (by rfl) (by rfl) (World.news_of_block (cs := #[.int .i64 0, .int .i64 0, .int .i64 (aAt 100 101 Y), .int .i64 (aAt 200 1000001 Z)]) (t := 40) (fr := (0, 0)) (by exact heap_new2 w5 _ _)) (by simp [Value.oneCell']) (by unfold maxLen; omega) (by omega) ?_
                 intro g6 o6 c6 w6 hO6 hg6 hat6
                 have KF : Hid (∃ rs', Drus w w6 (.slice (some ⟨g6, o6, none⟩) (k + 1) c6) p a len cap rs') := Ls.fin ((L5.alloc _).alloc _) KR.out hN hpl hO6 hg6 hat6
                 clear hO6 hg6 hat6)
              | (refine step_append_os _ (by rfl) _ _ _ (by rfl) 40 i0 _ 4 32 Try.underlying33 hi0 hz0 hz1 hz2 rfl (by omega) g og k cg (rusC rs) (by rfl) (by exact Ls.own_k (((L5.alloc _).alloc _).alloc _) KR.out) ⟨w5.heap.size + 1 + 1, 0, none⟩ 1 1 [.int .i64 0, .int .i64 0, .int .i64 (aAt 100 101 Y), .int .i64 (aAt 200 1000001 Z)] (by rfl) (by rfl) (World.news_of_block (cs := #[.int .i64 0, .int .i64 0, .int .i64 (aAt 100 101 Y), .int .i64 (aAt 200 1000001 Z)]) (t := 40) (fr := (0, 0)) (by exact heap_new3 w5 _ _ _)) (by simp [Value.oneCell']) (by unfold maxLen; omega) (by omega) ?_
                 intro g6 o6 c6 w6 hO6 hg6 hat6
                 have KF : Hid (∃ rs', Drus w w6 (.slice (some ⟨g6, o6, none⟩) (k + 1) c6) p a len cap rs') := Ls.fin (((L5.alloc _).alloc _).alloc _) KR.out hN hpl hO6 hg6 hat6
                 clear hO6 hg6 hat6)
              | (go_simp
                 go_at_call 50
                 refine (below3 w _ p a len cap g og cg rs bs (by first | exact L4 | exact L4.alloc _ | exact (L4.alloc _).alloc _) hp hl hpl HV.out).mono ?_
                 rintro e w5 ⟨Z, rfl, hZ3, L5, sz5, kp5⟩
                 have iz : (Z : Int) < 3 := by omega
                 have iz0 : (0 : Int) ≤ (Z : Int) := by omega
                 try have c1 : w5.heap[w3.heap.size]? = some (.cells #[.int .i64 (-1), .int .i64 100, .int .i64 101] 2) := kp5 _ _ (by first | exact b1 | exact heap_past b1 _ | exact heap_past (heap_past b1 _) _) hnp3
                 try have c1' : w5.heap[w3.heap.size + 1]? = some (.cells #[.int .i64 (-1), .int .i64 100, .int .i64 101] 2) := kp5 _ _ (by first | exact b1' | exact heap_past b1' _ | exact heap_past (heap_past b1' _) _) hnp3'
                 try have d1 : w5.heap[w4.heap.size]? = some (.cells #[.int .i64 (-1), .int .i64 100, .int .i64 101] 2) := kp5 _ _ (by first | exact heap_alloc_new w4 _ | exact heap_past (heap_alloc_new w4 _) _) np4
                 try have d1' : w5.heap[w4.heap.size + 1]? = some (.cells #[.int .i64 (-1), .int .i64 100, .int .i64 101] 2) := kp5 _ _ (by exact heap_new2 w4 _ _) np4'
                 try have e1 : w5.cell? ⟨w3.heap.size, Y, none⟩ = some (.int .i64 (aAt 100 101 Y)) := cell_ar c1 hY3
                 try have e1a : (w5.alloc (.cells #[.int .i64 (-1), .int .i64 200, .int .i64 1000001] 2)).cell? ⟨w3.heap.size, Y, none⟩ = some (.int .i64 (aAt 100 101 Y)) := cell_past6 e1 _
                 try have e1' : w5.cell? ⟨w3.heap.size + 1, Y, none⟩ = some (.int .i64 (aAt 100 101 Y)) := cell_ar c1' hY3
                 try have e1'a : (w5.alloc (.cells #[.int .i64 (-1), .int .i64 200, .int .i64 1000001] 2)).cell? ⟨w3.heap.size + 1, Y, none⟩ = some (.int .i64 (aAt 100 101 Y)) := cell_past6 e1' _
                 try have f1 : w5.cell? ⟨w4.heap.size, Y, none⟩ = some (.int .i64 (aAt 100 101 Y)) := cell_ar d1 hY3
                 try have f1a : (w5.alloc (.cells #[.int .i64 (-1), .int .i64 200, .int .i64 1000001] 2)).cell? ⟨w4.heap.size, Y, none⟩ = some (.int .i64 (aAt 100 101 Y)) := cell_past6 f1 _
                 try have f1' : w5.cell? ⟨w4.heap.size + 1, Y, none⟩ = some (.int .i64 (aAt 100 101 Y)) := cell_ar d1' hY3
                 try have f1'a : (w5.alloc (.cells #[.int .i64 (-1), .int .i64 200, .int .i64 1000001] 2)).cell? ⟨w4.heap.size + 1, Y, none⟩ = some (.int .i64 (aAt 100 101 Y)) := cell_past6 f1' _
                 have s1 : (w5.alloc (.cells #[.int .i64 (-1), .int .i64 100, .int .i64 101] 2)).cell? ⟨w5.heap.size, Y, none⟩ = some (.int .i64 (aAt 100 101 Y)) := cell_ar (heap_alloc_new w5 _) hY3
                 have t1 : ((w5.alloc (.cells #[.int .i64 (-1), .int .i64 100, .int .i64 101] 2)).alloc (.cells #[.int .i64 (-1), .int .i64 200, .int .i64 1000001] 2)).cell? ⟨w5.heap.size, Y, none⟩ = some (.int .i64 (aAt 100 101 Y)) := cell_past6 s1 _
                 have v1 : ((w5.alloc (.cells #[.int .i64 (-1), .int .i64 200, .int .i64 1000001] 2)).alloc (.cells #[.int .i64 (-1), .int .i64 100, .int .i64 101] 2)).cell? ⟨w5.heap.size + 1, Y, none⟩ = some (.int .i64 (aAt 100 101 Y)) := cell_ar (heap_new2 w5 _ _) hY3
                 try have c2 : w5.heap[w3.heap.size]? = some (.cells #[.int .i64 (-1), .int .i64 200, .int .i64 1000001] 2) := kp5 _ _ (by first | exact b2 | exact heap_past b2 _ | exact heap_past (heap_past b2 _) _) hnp3
                 try have c2' : w5.heap[w3.heap.size + 1]? = some (.cells #[.int .i64 (-1), .int .i64 200, .int .i64 1000001] 2) := kp5 _ _ (by first | exact b2' | exact heap_past b2' _ | exact heap_past (heap_past b2' _) _) hnp3'
                 try have d2 : w5.heap[w4.heap.size]? = some (.cells #[.int .i64 (-1), .int .i64 200, .int .i64 1000001] 2) := kp5 _ _ (by first | exact heap_alloc_new w4 _ | exact heap_past (heap_alloc_new w4 _) _) np4
                 try have d2' : w5.heap[w4.heap.size + 1]? = some (.cells #[.int .i64 (-1), .int .i64 200, .int .i64 1000001] 2) := kp5 _ _ (by exact heap_new2 w4 _ _) np4'
                 try have e2 : w5.cell? ⟨w3.heap.size, Z, none⟩ = some (.int .i64 (aAt 200 1000001 Z)) := cell_ar c2 hZ3
                 try have e2a : (w5.alloc (.cells #[.int .i64 (-1), .int .i64 100, .int .i64 101] 2)).cell? ⟨w3.heap.size, Z, none⟩ = some (.int .i64 (aAt 200 1000001 Z)) := cell_past6 e2 _
                 try have e2' : w5.cell? ⟨w3.heap.size + 1, Z, none⟩ = some (.int .i64 (aAt 200 1000001 Z)) := cell_ar c2' hZ3
                 try have e2'a : (w5.alloc (.cells #[.int .i64 (-1), .int .i64 100, .int .i64 101] 2)).cell? ⟨w3.heap.size + 1, Z, none⟩ = some (.int .i64 (aAt 200 1000001 Z)) := cell_past6 e2' _
                 try have f2 : w5.cell? ⟨w4.heap.size, Z, none⟩ = some (.int .i64 (aAt 200 1000001 Z)) := cell_ar d2 hZ3
                 try have f2a : (w5.alloc (.cells #[.int .i64 (-1), .int .i64 100, .int .i64 101] 2)).cell? ⟨w4.heap.size, Z, none⟩ = some (.int .i64 (aAt 200 1000001 Z)) := cell_past6 f2 _
                 try have f2' : w5.cell? ⟨w4.heap.size + 1, Z, none⟩ = some (.int .i64 (aAt 200 1000001 Z)) := cell_ar d2' hZ3
                 try have f2'a : (w5.alloc (.cells #[.int .i64 (-1), .int .i64 100, .int .i64 101] 2)).cell? ⟨w4.heap.size + 1, Z, none⟩ = some (.int .i64 (aAt 200 1000001 Z)) := cell_past6 f2' _
                 have r1 : ((#[.int .i64 (-1), .int .i64 200, .int .i64 1000001] : Array Value))[Z]? = some (.int .i64 (aAt 200 1000001 Z)) := arA_at 200 1000001 hZ3
                 have s2 : (w5.alloc (.cells #[.int .i64 (-1), .int .i64 200, .int .i64 1000001] 2)).cell? ⟨w5.heap.size, Z, none⟩ = some (.int .i64 (aAt 200 1000001 Z)) := cell_ar (heap_alloc_new w5 _) hZ3
                 have t2 : ((w5.alloc (.cells #[.int .i64 (-1), .int .i64 200, .int .i64 1000001] 2)).alloc (.cells #[.int .i64 (-1), .int .i64 100, .int .i64 101] 2)).cell? ⟨w5.heap.size, Z, none⟩ = some (.int .i64 (aAt 200 1000001 Z)) := cell_past6 s2 _
                 have v2 : ((w5.alloc (.cells #[.int .i64 (-1), .int .i64 100, .int .i64 101] 2)).alloc (.cells #[.int .i64 (-1), .int .i64 200, .int .i64 1000001] 2)).cell? ⟨w5.heap.size + 1, Z, none⟩ = some (.int .i64 (aAt 200 1000001 Z)) := cell_ar (heap_new2 w5 _ _) hZ3)
              | (go_simp
                 go_at_call 50
                 refine (below3 w _ p a len cap g og cg rs bs (by first | exact L3.drew | exact (L3.alloc _).drew | exact ((L3.alloc _).alloc _).drew) hp hl hpl HV.out).mono ?_
                 rintro e w4 ⟨Y, rfl, hY3, L4, sz4, kp4⟩
                 have iy : (Y : Int) < 3 := by omega
                 have iy0 : (0 : Int) ≤ (Y : Int) := by omega
                 have np4 : ¬ w4.heap.size = p := by have := L4.grown.size; omega
                 have np4' : ¬ w4.heap.size + 1 = p := by have := L4.grown.size; omega
                 try have b1 : w4.heap[w3.heap.size]? = some (.cells #[.int .i64 (-1), .int .i64 100, .int .i64 101] 2) := kp4 _ _ (by first | exact heap_alloc_new w3 _ | exact heap_past (heap_alloc_new w3 _) _) hnp3
                 try have b1' : w4.heap[w3.heap.size + 1]? = some (.cells #[.int .i64 (-1), .int .i64 100, .int .i64 101] 2) := kp4 _ _ (by exact heap_new2 w3 _ _) hnp3'
                 try have b2 : w4.heap[w3.heap.size]? = some (.cells #[.int .i64 (-1), .int .i64 200, .int .i64 1000001] 2) := kp4 _ _ (by first | exact heap_alloc_new w3 _ | exact heap_past (heap_alloc_new w3 _) _) hnp3
                 try have b2' : w4.heap[w3.heap.size + 1]? = some (.cells #[.int .i64 (-1), .int .i64 200, .int .i64 1000001] 2) := kp4 _ _ (by exact heap_new2 w3 _ _) hnp3'
                 try have m1 : w4.cell? ⟨w3.heap.size, Y, none⟩ = some (.int .i64 (aAt 100 101 Y)) := cell_ar b1 hY3
                 try have m1' : w4.cell? ⟨w3.heap.size + 1, Y, none⟩ = some (.int .i64 (aAt 100 101 Y)) := cell_ar b1' hY3
                 try have m1a : (w4.alloc (.cells #[.int .i64 (-1), .int .i64 200, .int .i64 1000001] 2)).cell? ⟨w3.heap.size, Y, none⟩ = some (.int .i64 (aAt 100 101 Y)) := cell_past6 m1 _
                 have q1 : ((#[.int .i64 (-1), .int .i64 100, .int .i64 101] : Array Value))[Y]? = some (.int .i64 (aAt 100 101 Y)) := arA_at 100 101 hY3
                 have q2 : (w4.alloc (.cells #[.int .i64 (-1), .int .i64 100, .int .i64 101] 2)).cell? ⟨w4.heap.size, Y, none⟩ = some (.int .i64 (aAt 100 101 Y)) := cell_ar (heap_alloc_new w4 _) hY3
                 have q3 : ((w4.alloc (.cells #[.int .i64 (-1), .int .i64 100, .int .i64 101] 2)).alloc (.cells #[.int .i64 (-1), .int .i64 200, .int .i64 1000001] 2)).cell? ⟨w4.heap.size, Y, none⟩ = some (.int .i64 (aAt 100 101 Y)) := cell_past6 q2 _
                 have q4 : ((w4.alloc (.cells #[.int .i64 (-1), .int .i64 200, .int .i64 1000001] 2)).alloc (.cells #[.int .i64 (-1), .int .i64 100, .int .i64 101] 2)).cell? ⟨w4.heap.size + 1, Y, none⟩ = some (.int .i64 (aAt 100 101 Y)) := cell_ar (heap_new2 w4 _ _) hY3))
          all_goals
            go_wp2
            go_ret
            obtain ⟨rs', hrs'⟩ := KF.out
            exact ⟨_, rs', rfl, hrs'⟩
        · subst hy
          have hB3 := below_any p a len cap bs 2 _ K3.out.cur (HV.out _ K3.out.grown) hp hl (by omega)
          go_wp2_with fail
          refine hB3.mono ?_
          rintro e w4 ⟨z, rfl, hz0', hz1', _, hc4, hg4⟩
          obtain ⟨Z, rfl⟩ : ∃ Z : Nat, z = (Z : Int) := ⟨z.toNat, by omega⟩
          have hZ : Z ≤ 1 := by have := hz1' (by omega); omega
          have K4 : Hid (Ls w w4 p a len cap g og cg rs) := K3.out.step hpl hc4 hg4
          have hmk := make_ru (20 + Z) (by omega)
          have ez : ((20 + Z : Nat) : Int) = 20 + (Z : Int) := by omega
          rw [ez] at hmk
          have KF : Hid (Drus w (w4.alloc (.cells (madeCells #[.int .i64 0, .int .i64 0, .int .i64 0, .int .i64 0] ((20 + Z) * 4)) 40)) (.slice (some ⟨w4.heap.size, 0, none⟩) (20 + Z) (20 + Z)) p a len cap (List.replicate (20 + Z) ⟨0, 0, 0, 0⟩)) := by
            have hrow : RuRow (w4.alloc (.cells (madeCells #[.int .i64 0, .int .i64 0, .int .i64 0, .int .i64 0] ((20 + Z) * 4)) 40)) w4.heap.size (20 + Z) (List.replicate (20 + Z) ⟨0, 0, 0, 0⟩) := by
              refine World.rowIs.congr (part4_start (rs := [])) (fun j hj => ?_)
              have hr : ∀ i, ruAt (List.replicate (20 + Z) (⟨0, 0, 0, 0⟩ : Ru)) i = ⟨0, 0, 0, 0⟩ := fun i => by
                simp only [ruAt, List.getD_eq_getElem?_getD, List.getElem?_replicate]
                split <;> rfl
              simp only [part4, ruF, hr]
              rw [if_neg (by omega)]
              split
              · rfl
              · split
                · rfl
                · split <;> rfl
            have hlr : (List.replicate (20 + Z) (⟨0, 0, 0, 0⟩ : Ru)).length = 20 + Z := List.length_replicate
            refine ⟨w4.heap.size, 0, 20 + Z, by rw [hlr], ?_, by rw [hlr]; exact Nat.le_refl _, by unfold maxLen; omega, K4.out.grown.size, by simp, by rw [hlr]; omega, K4.out.cur.alloc _, grown_trans K4.out.grown (World.grownBy_alloc _ _ _)⟩
            rw [hlr]
            exact hrow.rus hlr
          clear hz0' hz1' hc4 hg4 hB3
          go_wp2
          go_ret
          exact ⟨_, _, rfl, KF.out⟩
end Go.Proofs.Ytbgkfiijfocgiaa
