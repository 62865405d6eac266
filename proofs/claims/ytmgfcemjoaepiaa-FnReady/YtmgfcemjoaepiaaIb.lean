/-
  Several texts in one: Drq Drw Dry.
-/
import Derived.Test.YtmgfcemjoaepiaaIa
import Derived.Test.YtmgfcemjoaepiaaGb
import Derived.Deep.RegionHeld3
/-
  The contracts of the specification's DrawSeqOf and DrawSenderOf: some numbers.
-/
namespace Go.Proofs.Ytmgfcemjoaepiaa
set_option linter.unusedSimpArgs false
set_option linter.unusedVariables false
open Go.RowKit Go.Sort

/-- A list of numbers as a block's cells. -/
def arL (L : List Int) : Array Value := (L.map (Value.int .i64)).toArray
theorem cell_arL {w : World} {b : Nat} {L : List Int} (h : w.heap[b]? = some (.cells (arL L) 2)) {i : Nat} (hi : i < L.length) : w.cell? ⟨b, i, none⟩ = some (.int .i64 (el L i)) := by
  simp only [World.cell?, h]
  simp [arL, el, hi]
theorem heap_past7 {w : World} {k : Nat} {o : Obj} (h : w.heap[k]? = some o) (o' : Obj) : (w.alloc o').heap[k]? = some o := by
  have hk : k < w.heap.size := (Array.getElem?_eq_some_iff.1 h).1
  exact (Below.heap_alloc _ _ _ hk).trans h
theorem CurAt.drew7 {w : World} {p : Nat} {a : Option Addr} {len cap : Nat} (h : CurAt w p a len cap) : CurAt w.drew p a len cap := h
/-- What a draw holds: the cursor, the code, what stood before. -/
structure Cq (w X : World) (p : Nat) (a : Option Addr) (len cap : Nat) (bs : Nat → Int) : Prop where
  cur : CurAt X p a len cap
  code : BVec X a len bs
  below : Below w.heap.size w X
theorem Cq.alloc {w X : World} {p : Nat} {a : Option Addr} {len cap : Nat} {bs : Nat → Int} (h : Cq w X p a len cap bs) (o : Obj) : Cq w (X.alloc o) p a len cap bs :=
  ⟨h.cur.alloc o, h.code.below ((Below.refl _ _).alloc (Nat.le_refl _) o) (Nat.le_refl _), h.below.alloc h.below.size o⟩
theorem Cq.drew {w X : World} {p : Nat} {a : Option Addr} {len cap : Nat} {bs : Nat → Int} (h : Cq w X p a len cap bs) : Cq w X.drew p a len cap bs :=
  ⟨h.cur, h.code, ⟨h.below.os, h.below.tape, h.below.output, h.below.size, h.below.block⟩⟩
theorem belowQ (N : Nat) (n : Int) (hN : n = (N : Int)) (w X : World) (p : Nat) (a : Option Addr) (len cap : Nat) (bs : Nat → Int) (h : Cq w X p a len cap bs) (hp : OffB a len p) (hl : len ≤ 4096) (hpw : w.heap.size ≤ p) (h1 : 1 ≤ N) (h2 : N ≤ 10000) :
    Calls Try.prog 49 #[.pointer (some ⟨p, 0, none⟩), .int .i64 n] X fun e w' => ∃ Y : Nat, e = .returned (.int .i64 (Y : Int)) ∧ Y < N ∧ Cq w w' p a len cap bs ∧ (∀ k o, X.heap[k]? = some o → ¬ k = p → w'.heap[k]? = some o) := by
  subst hN
  refine (below_any p a len cap bs (N : Int) X h.cur h.code hp hl (by omega)).mono ?_
  rintro e w' ⟨x, rfl, h0, h3, _, hc, hg⟩
  have h4 := h3 (by omega)
  refine ⟨x.toNat, by rw [show ((x.toNat : Nat) : Int) = x by omega], by omega, ⟨hc, h.code.grown hg hp, below_grown6 h.below hg hpw h.below.size⟩, fun k o hk hne => ?_⟩
  have hlt : k < X.heap.size := (Array.getElem?_eq_some_iff.1 hk).1
  exact (hg.block k hlt (by simpa using hne)).trans hk
theorem fromQ (lo hi : Int) (w X : World) (p : Nat) (a : Option Addr) (len cap : Nat) (bs : Nat → Int) (h : Cq w X p a len cap bs) (hp : OffB a len p) (hl : len ≤ 4096) (hpw : w.heap.size ≤ p) (h0 : -1000 ≤ lo) (h1 : lo ≤ hi) (h2 : hi ≤ 1000) :
    Calls Try.prog 67 #[.pointer (some ⟨p, 0, none⟩), .int .i64 lo, .int .i64 hi] X fun e w' => ∃ x : Int, e = .returned (.int .i64 x) ∧ lo ≤ x ∧ x ≤ hi ∧ Cq w w' p a len cap bs := by
  have hB := belowQ (hi - lo + 1).toNat (hi - lo + 1) (by omega) w X p a len cap bs h hp hl hpw (by omega) (by omega)
  go_enter Try.func67, Try.ntmps67
  go_wp2_with fail
  refine hB.mono ?_
  rintro e w1 ⟨Y, rfl, hY, hq, _⟩
  have b1 : lo + (Y : Int) ≤ 9223372036854775807 := by omega
  have b2 : -9223372036854775808 ≤ lo + (Y : Int) := by omega
  have HQ : Hid (Cq w w1 p a len cap bs) := hq
  clear hq hB
  go_wp2
  go_ret
  exact ⟨lo + (Y : Int), rfl, by omega, by omega, HQ.out⟩
theorem newQ (a : Option Addr) (len cap : Nat) (bs : Nat → Int) (w : World) (hv : BVec w a len bs) (hl : len ≤ 4096) :
    Calls Try.prog 48 #[.slice a len cap] w fun e w' => ∃ p, e = .returned (.pointer (some ⟨p, 0, none⟩)) ∧ w.heap.size ≤ p ∧ p < w'.heap.size ∧ OffB a len p ∧ Cq w w' p a len cap bs := by
  refine (new_any a len cap bs w hv hl).mono ?_
  rintro e w1 ⟨p, rfl, hp, hc1, hb1⟩
  exact ⟨p, rfl, hp, hc1.lt, fun hl b off e => by have := hv.inB hl b off e; omega, hc1, hv.below hb1 (Nat.le_refl _), hb1⟩

set_option maxRecDepth 100000 in
set_option maxHeartbeats 1600000 in
theorem drawSeqOf_any (a : Option Addr) (len cap : Nat) (bs : Nat → Int) (w : World) (hv : BVec w a len bs) (hl : len ≤ 4096) :
    Calls Try.prog 29 #[.slice a len cap] w fun e w' => ∃ n s i : Int, e = .returned (.tuple #[.int .i64 n, .int .i64 s, .int .i64 i]) ∧ (-1 ≤ n ∧ n ≤ 11) ∧ (-1 ≤ s ∧ s ≤ 9) ∧ (-1 ≤ i ∧ i ≤ 100001) ∧ Below w.heap.size w w' := by
  go_enter Try.func29, Try.ntmps29
  go_wp2_with fail
  refine (newQ a len cap bs w hv hl).mono ?_
  rintro e w1 ⟨p, rfl, hp, hpl, hoff, hq1⟩
  go_wp2_with fail
  refine (fromQ (-1) 11 w w1 p a len cap bs hq1 hoff hl hp (by omega) (by omega) (by omega)).mono ?_
  rintro e w2 ⟨n, rfl, hn0, hn1, hq2⟩
  go_wp2_with fail
  refine (fromQ (-1) 9 w w2 p a len cap bs hq2 hoff hl hp (by omega) (by omega) (by omega)).mono ?_
  rintro e w3 ⟨s, rfl, hs0, hs1, hq3⟩
  have hpl3 := hq3.cur.lt
  have hnp : ¬ w3.heap.size = p := by omega
  have hE : ∀ Y : Nat, Y < 6 → -1 ≤ el [-1, 0, 1, 7, 100000, 100001] Y ∧ el [-1, 0, 1, 7, 100000, 100001] Y ≤ 100001 := fun Y hY => by
    match Y, hY with
    | 0, _ => decide
    | 1, _ => decide
    | 2, _ => decide
    | 3, _ => decide
    | 4, _ => decide
    | 5, _ => decide
  clear hq1 hq2 hv
  go_wp2_with fail
  go_region_law
    (first
      | (go_simp
         go_at_call 49
         refine (belowQ 6 6 rfl w _ p a len cap bs (by first | exact hq3.drew | exact (hq3.alloc _).drew) hoff hl hp (by omega) (by omega)).mono ?_
         rintro e w4 ⟨Y, rfl, hY, hq4, kp4⟩
         have iy : (Y : Int) < 6 := by omega
         have iy0 : (0 : Int) ≤ (Y : Int) := by omega
         have HY : Hid (-1 ≤ el [-1, 0, 1, 7, 100000, 100001] Y ∧ el [-1, 0, 1, 7, 100000, 100001] Y ≤ 100001) := hE Y hY
         try have m1 : w4.cell? ⟨w3.heap.size, Y, none⟩ = some (.int .i64 (el [-1, 0, 1, 7, 100000, 100001] Y)) := cell_arL (L := [-1, 0, 1, 7, 100000, 100001]) (kp4 _ _ (by exact heap_alloc_new w3 _) hnp) hY
         have q2 : (w4.alloc (.cells #[.int .i64 (-1), .int .i64 0, .int .i64 1, .int .i64 7, .int .i64 100000, .int .i64 100001] 2)).cell? ⟨w4.heap.size, Y, none⟩ = some (.int .i64 (el [-1, 0, 1, 7, 100000, 100001] Y)) := cell_arL (L := [-1, 0, 1, 7, 100000, 100001]) (heap_alloc_new w4 _) hY
         have HB4 : Hid (Below w.heap.size w w4) := hq4.below
         have HB5 : Hid (Below w.heap.size w (w4.alloc (.cells #[.int .i64 (-1), .int .i64 0, .int .i64 1, .int .i64 7, .int .i64 100000, .int .i64 100001] 2))) := (hq4.alloc _).below))
  all_goals
    go_wp2
    refine bodyPost_ret (v := .tuple #[.int .i64 n, .int .i64 s, .int .i64 (el [-1, 0, 1, 7, 100000, 100001] Y)]) (by simp [results, Try.results29, go_sem, *]) rfl ?_
    exact ⟨n, s, _, rfl, ⟨hn0, hn1⟩, ⟨hs0, hs1⟩, HY.out, by first | exact HB4.out | exact HB5.out⟩

set_option maxRecDepth 100000 in
set_option maxHeartbeats 1600000 in
theorem drawSenderOf_any (a : Option Addr) (len cap : Nat) (bs : Nat → Int) (w : World) (hv : BVec w a len bs) (hl : len ≤ 4096) :
    Calls Try.prog 31 #[.slice a len cap] w fun e w' => ∃ n q : Int, e = .returned (.tuple #[.int .i64 n, .int .i64 q]) ∧ (-1 ≤ n ∧ n ≤ 11) ∧ (-1 ≤ q ∧ q ≤ 800001) ∧ Below w.heap.size w w' := by
  go_enter Try.func31, Try.ntmps31
  go_wp2_with fail
  refine (newQ a len cap bs w hv hl).mono ?_
  rintro e w1 ⟨p, rfl, hp, hpl, hoff, hq1⟩
  go_wp2_with fail
  refine (fromQ (-1) 11 w w1 p a len cap bs hq1 hoff hl hp (by omega) (by omega) (by omega)).mono ?_
  rintro e w3 ⟨n, rfl, hn0, hn1, hq3⟩
  have hpl3 := hq3.cur.lt
  have hnp : ¬ w3.heap.size = p := by omega
  have hE : ∀ Y : Nat, Y < 8 → -1 ≤ el [-1, 0, 1, 7, 23, 800000, 800001, 12] Y ∧ el [-1, 0, 1, 7, 23, 800000, 800001, 12] Y ≤ 800001 := fun Y hY => by
    match Y, hY with
    | 0, _ => decide
    | 1, _ => decide
    | 2, _ => decide
    | 3, _ => decide
    | 4, _ => decide
    | 5, _ => decide
    | 6, _ => decide
    | 7, _ => decide
  clear hq1 hv
  go_wp2_with fail
  go_region_law
    (first
      | (go_simp
         go_at_call 49
         refine (belowQ 8 8 rfl w _ p a len cap bs (by first | exact hq3.drew | exact (hq3.alloc _).drew) hoff hl hp (by omega) (by omega)).mono ?_
         rintro e w4 ⟨Y, rfl, hY, hq4, kp4⟩
         have iy : (Y : Int) < 8 := by omega
         have iy0 : (0 : Int) ≤ (Y : Int) := by omega
         have HY : Hid (-1 ≤ el [-1, 0, 1, 7, 23, 800000, 800001, 12] Y ∧ el [-1, 0, 1, 7, 23, 800000, 800001, 12] Y ≤ 800001) := hE Y hY
         try have m1 : w4.cell? ⟨w3.heap.size, Y, none⟩ = some (.int .i64 (el [-1, 0, 1, 7, 23, 800000, 800001, 12] Y)) := cell_arL (L := [-1, 0, 1, 7, 23, 800000, 800001, 12]) (kp4 _ _ (by exact heap_alloc_new w3 _) hnp) hY
         have q2 : (w4.alloc (.cells #[.int .i64 (-1), .int .i64 0, .int .i64 1, .int .i64 7, .int .i64 23, .int .i64 800000, .int .i64 800001, .int .i64 12] 2)).cell? ⟨w4.heap.size, Y, none⟩ = some (.int .i64 (el [-1, 0, 1, 7, 23, 800000, 800001, 12] Y)) := cell_arL (L := [-1, 0, 1, 7, 23, 800000, 800001, 12]) (heap_alloc_new w4 _) hY
         have HB4 : Hid (Below w.heap.size w w4) := hq4.below
         have HB5 : Hid (Below w.heap.size w (w4.alloc (.cells #[.int .i64 (-1), .int .i64 0, .int .i64 1, .int .i64 7, .int .i64 23, .int .i64 800000, .int .i64 800001, .int .i64 12] 2))) := (hq4.alloc _).below))
  all_goals
    go_wp2
    go_ret2
    exact ⟨n, _, rfl, ⟨hn0, hn1⟩, HY.out, by first | exact HB4.out | exact HB5.out⟩
end Go.Proofs.Ytmgfcemjoaepiaa

/-
  The contract of the specification's l1DrawVector once more, with one thing told besides: the first number may be written.
-/
namespace Go.Proofs.Ytmgfcemjoaepiaa
set_option linter.unusedSimpArgs false
set_option linter.unusedVariables false
open Go.RowKit

/-- What a draw of a vector comes to; its first number may be written. -/
def DrawnF (w w' : World) (v : Value) (B p : Nat) (a : Option Addr) (len cap : Nat) : Prop :=
  ∃ a' m c zs, v = .slice a' m c ∧ Vec w' a' m zs ∧ m ≤ c ∧ c ≤ maxLen ∧ m ≤ 16 ∧ From a' B ∧ CurAt w' p a len cap ∧ w.grownBy w' (some p) ∧ ∀ b off, a' = some ⟨b, off, none⟩ → 0 < m → w'.frozen? ⟨b, off, none⟩ = false

set_option maxRecDepth 100000 in
set_option maxHeartbeats 3200000 in
theorem drawVectorF_any (p : Nat) (a : Option Addr) (len cap : Nat) (bs : Nat → Int) (N : Nat) (n : Int) (hN : n = (N : Int)) (w : World) (hcur : CurAt w p a len cap) (hv : BVec w a len bs) (hp : OffB a len p) (hl : len ≤ 4096) (hn : N ≤ 5) :
    Calls Try.prog 50 #[.pointer (some ⟨p, 0, none⟩), .int .i64 n] w fun e w' => ∃ v, e = .returned v ∧ DrawnF w w' v w.heap.size p a len cap := by
  subst hN
  have hpl := hcur.lt
  obtain ⟨i0, hi0, hz0, hz1, hz2⟩ := info_parts Try.info2
  go_enter Try.func50, Try.ntmps50
  go_wp2
  go_loopw [1, 5] (fun q v wr => ∃ (k : Nat) (zs : List Int), k ≤ N ∧ zs.length = k ∧ q = .int .i64 ((N : Int) - (k : Int)) ∧ Small zs ∧ wr.ownsRow w.heap.size 2 1 v k (zs.map (Value.int .i64)) ∧ CurAt wr p a len cap ∧ w.grownBy wr (some p)) (fun q _ _ => (intOf q).toNat)
  case atStart => exact ⟨0, [], Nat.zero_le _, rfl, by simp, fun z hz => by simp at hz, owns_empty w, hcur.alloc _, World.grownBy_alloc _ _ _⟩
  case round =>
    obtain ⟨k, zs, hk, hzl, rfl, hsm, hown, hc, hg⟩ := hrel
    have HZ : Hid (zs.length = k) := hzl
    have HS : Hid (Small zs) := hsm
    have HG : Hid (w.grownBy wr (some p)) := hg
    have HO : Hid (wr.ownsRow w.heap.size 2 1 u5 k (zs.map (Value.int .i64))) := hown
    have hvr := hv.grown hg hp
    clear hzl hsm hg hown
    by_cases hlt : k < N
    · go_wp2_with fail
      refine (below_any p a len cap bs 6 _ hc hvr hp hl (by omega)).mono ?_
      rintro e w2 ⟨x, rfl, hx0, hx1, hx2, hc2, hg2⟩
      have hx6 : x ≤ 6 := by have := hx1 (by omega); omega
      have hown2 := HO.out.kept hg2 (.inr (owns_ne HO.out hpl))
      have hs2 : w.heap.size ≤ w2.heap.size := Nat.le_trans HG.out.size hg2.size
      clear hx1 hx2
      go_wp2_with (at_builtin; refine wpList_append_lies _ rfl _ _ _ rfl w.heap.size 2 i0 _ 1 8 Try.underlying24 hi0 hz0 hz1 hz2 rfl (by omega) u5 k _ rfl (hown2.alloc _) ⟨w2.heap.size, 0, none⟩ 1 1 [.int .i64 x] rfl rfl (World.news_of_block (cs := #[.int .i64 x]) (t := 2) (fr := (0, 0)) (heap_alloc_new w2 _)) (by simp [Value.oneCell']) (by omega) (by unfold maxLen; omega) (by omega) (by simp; omega) (w2.heap.size + 1) (by simp) ?_; intro g cap3 w3 hown3 hgrow hat hlt3)
      have R : Hid (w3.ownsRow w.heap.size 2 1 (.slice (some ⟨g, 0, none⟩) (k + 1) cap3) (k + 1) ((zs ++ [x]).map (Value.int .i64))) := by
        rw [Hid, List.map_append]; exact hown3
      have RC : Hid (CurAt w3 p a len cap) := (hc2.alloc _).grown hgrow (owns_ne HO.out hpl)
      have RG : Hid (w.grownBy w3 (some p)) := grown_more (grown_trans (grown_trans HG.out hg2) (World.grownBy_alloc _ _ _)) hgrow (fun r hr => (HO.out.lt r hr).1)
      have RS : Hid (Small (zs ++ [x])) := HS.out.snoc hx0 hx6
      clear hown3 hgrow hat hlt3 hown2 hc2 hg2 hc hvr hs2
      go_wp2
      go_roundw
      case rel => exact ⟨k + 1, zs ++ [x], by omega, by simp [HZ.out], by go_num, RS.out, R.out, RC.out, RG.out⟩
      case measure => simp [intOf]; omega
    · have hkN : k = N := by omega
      subst hkN
      by_cases h1 : 1 ≤ k
      · obtain ⟨g, c, hu, hgB, ho⟩ := own_of_ownsRow HO.out HZ.out.symm h1
        rw [HZ.out] at hu
        subst hu
        have hgp : g ≠ p := by omega
        go_wp2_with fail
        refine (once_any p a len cap bs 12 _ hc hvr hp hl (by omega)).mono ?_
        rintro e w2 ⟨x, rfl, hc2, hg2⟩
        have ho2 := ho.grown hg2 hgp
        have own2 := HO.out.kept hg2 (.inr (owns_ne HO.out hpl))
        have hv2 := hvr.grown hg2 hp
        have HG2 := grown_trans HG.out hg2
        have hpos : (0 : Int) < (k : Int) := by omega
        clear ho hvr hc hg2
        cases x
        · go_wp2
          go_ret
          exact ⟨_, rfl, _, k, c, zs, rfl, by have := ho2.vec HS.out.fits; rwa [HZ.out] at this, by have := ho2.1; rwa [HZ.out] at this, ho2.2.1, by omega, fun b off e => by cases e; exact hgB, hc2, HG2, fun b off e _ => by cases e; exact ho2.frozen 0⟩
        · go_wp2_with fail
          refine (below_any p a len cap bs 3 _ hc2 hv2 hp hl (by omega)).mono ?_
          rintro e w3 ⟨y, rfl, hy0, hy1, hy2, hc3, hg3⟩
          have ho3 := ho2.grown hg3 hgp
          have own3 := own2.kept hg3 (.inr (owns_ne own2 hpl))
          have hv3 := hv2.grown hg3 hp
          have HG3 := grown_trans HG2 hg3
          have hy3 := hy1 (by omega)
          clear ho2 hc2 hv2 hg3 HG2 hy1 hy2 own2
          rcases (by omega : y = 0 ∨ y = 1 ∨ y = 2) with hy | hy | hy
          · subst hy
            go_wp2_with fail
            have ho3' : OwnAt (w3.alloc (.cells #[.int .i64 (-1), .int .i64 1000000, .int .i64 1000001, .int .i64 4611686018427387904] 2)) g c zs := ho3.of_block (Below.heap_alloc _ _ _ ho3.lt)
            have hv3' := hv3.grown (World.grownBy_alloc w3 (.cells #[.int .i64 (-1), .int .i64 1000000, .int .i64 1000001, .int .i64 4611686018427387904] 2) (some p)) hp
            have hp3 : p < w3.heap.size := hc3.lt
            refine (below_any p a len cap bs 4 _ (hc3.alloc _) hv3' hp hl (by omega)).mono ?_
            rintro e w4 ⟨z, rfl, hz0', hz1', hz2', hc4, hg4⟩
            have hblk := (hg4.block w3.heap.size (by simp) (by simp; omega)).trans (heap_alloc_new w3 _)
            have ho4 := ho3'.grown hg4 hgp
            have HG4 := grown_trans (grown_trans HG3 (World.grownBy_alloc w3 _ _)) hg4
            have e0 : w4.cell? ⟨w3.heap.size, 0, none⟩ = some (.int .i64 (-1)) := by simp [World.cell?, hblk]
            have e1 : w4.cell? ⟨w3.heap.size, 1, none⟩ = some (.int .i64 1000000) := by simp [World.cell?, hblk]
            have e2 : w4.cell? ⟨w3.heap.size, 2, none⟩ = some (.int .i64 1000001) := by simp [World.cell?, hblk]
            have e3 : w4.cell? ⟨w3.heap.size, 3, none⟩ = some (.int .i64 4611686018427387904) := by simp [World.cell?, hblk]
            have hcg := ho4.cell (i := 0) (by rw [HZ.out]; omega)
            have hfg := ho4.frozen 0
            have HO4 : Hid (OwnAt w4 g c zs) := ho4
            have HC4 : Hid (CurAt w4 p a len cap) := hc4
            have HGG : Hid (w.grownBy w4 (some p)) := HG4
            have hz4 := hz1' (by omega)
            clear hz1' hz2' hblk hg4 HG4 ho4 hc4 ho3' hv3' ho3 hv3 hc3 HG3 own3
            have FIN : Hid (∀ v : Int, -9223372036854775808 ≤ v ∧ v ≤ 9223372036854775807 → DrawnF w (w4.setCell ⟨g, 0, none⟩ (.int .i64 v)) (.slice (some ⟨g, 0, none⟩) k c) w.heap.size p a len cap) := fun v hv =>
              ⟨_, k, c, zs.set 0 v, rfl, by have := (HO4.out.set 0 v).vec (fits_set HS.out.fits 0 hv); rwa [List.length_set, HZ.out] at this, by have := HO4.out.1; rwa [HZ.out] at this, HO4.out.2.1, by omega, fun b off e => by cases e; exact hgB, HC4.out.set hgp _ _, grown_setOwn HGG.out hgB _ _, fun b off e _ => by cases e; rw [World.frozen?_setCell]; exact HO4.out.frozen 0⟩
            rcases (by omega : z = 0 ∨ z = 1 ∨ z = 2 ∨ z = 3) with hz | hz | hz | hz
            all_goals
              subst hz
              go_wp2
              go_ret
              exact ⟨_, rfl, FIN.out _ (by omega)⟩
          · subst hy
            have hT := own_tail ho3 HS.out.fits (by rw [HZ.out]; exact h1)
            have hfz1 := ho3.frozen 1
            rw [HZ.out] at hT
            have hkc : k ≤ c := by have := ho3.1; rwa [HZ.out] at this
            have hcm := ho3.2.1
            have hkc' : (k : Int) ≤ (c : Int) := by omega
            have hk1 : (1 : Int) ≤ (k : Int) := by omega
            by_cases hc1 : c = 1
            · subst hc1
              have hk1' : k = 1 := by omega
              subst hk1'
              go_wp2
              go_ret
              exact ⟨_, rfl, _, _, _, zs.tail, rfl, ⟨hT.1, hT.2.1, .inl rfl⟩, by omega, by omega, by omega, fun b off e => by cases e; exact hgB, hc3, HG3, fun b off e h => absurd h (by omega)⟩
            · go_wp2
              go_ret
              exact ⟨_, rfl, _, _, _, zs.tail, rfl, hT, by omega, by omega, by omega, fun b off e => by cases e; exact hgB, hc3, HG3, fun b off e _ => by cases e; exact hfz1⟩
          · subst hy
            clear ho3 hv3
            go_wp2
            go_loopw [5] (fun v wr => ∃ (m g c : Nat) (ys : List Int), v = .slice (some ⟨g, 0, none⟩) m c ∧ ys.length = m ∧ 1 ≤ m ∧ m ≤ 9 ∧ Small ys ∧ wr.ownsRow w.heap.size 2 1 v m (ys.map (Value.int .i64)) ∧ CurAt wr p a len cap ∧ w.grownBy wr (some p)) (fun v _ => 16 - lenOf v)
            case atStart => exact ⟨k, g, c, zs, rfl, HZ.out, h1, by omega, HS.out, own3, hc3, HG3⟩
            case round =>
              obtain ⟨m, g2, c2, ys, rfl, hyl, hm1, hm9, hys, hown, hcc, hgg⟩ := hrel
              have hvv := hv.grown hgg hp
              have HY : Hid (ys.length = m) := hyl
              have HYS : Hid (Small ys) := hys
              clear hyl hys
              go_wp2_with fail
              refine (below_any p a len cap bs 2 _ hcc hvv hp hl (by omega)).mono ?_
              rintro e w4 ⟨z, rfl, hz0', hz1', hz2', hc4, hg4⟩
              have own4 := hown.kept hg4 (.inr (owns_ne hown hpl))
              have HG4 := grown_trans hgg hg4
              have hz4 := hz1' (by omega)
              have hs4 := HG4.size
              have HFZ : Hid (w4.frozen? ⟨g2, 0, none⟩ = false) := by
                obtain ⟨g9, c9, e9, _, o9⟩ := own_of_ownsRow own4 HY.out.symm hm1
                cases e9
                exact o9.frozen 0
              clear hz1' hz2' hg4 hgg hown hcc hvv
              by_cases hlt2 : (m : Int) < 8 + z
              · go_wp2_with (at_builtin; refine wpList_append_lies _ rfl _ _ _ rfl w.heap.size 2 i0 _ 1 8 Try.underlying24 hi0 hz0 hz1 hz2 rfl (by omega) (.slice (some ⟨g2, 0, none⟩) m c2) m _ rfl (own4.alloc _) ⟨w4.heap.size, 0, none⟩ 1 1 [.int .i64 1] rfl rfl (World.news_of_block (cs := #[.int .i64 1]) (t := 2) (fr := (0, 0)) (heap_alloc_new w4 _)) (by simp [Value.oneCell']) (by omega) (by unfold maxLen; omega) (by omega) (by simp; omega) (w4.heap.size + 1) (by simp) ?_; intro g3 cap3 w5 hown5 hgrow hat hlt5)
                have R : Hid (w5.ownsRow w.heap.size 2 1 (.slice (some ⟨g3, 0, none⟩) (m + 1) cap3) (m + 1) ((ys ++ [1]).map (Value.int .i64))) := by
                  rw [Hid, List.map_append]; exact hown5
                have RC : Hid (CurAt w5 p a len cap) := (hc4.alloc _).grown hgrow (owns_ne own4 hpl)
                have RG : Hid (w.grownBy w5 (some p)) := grown_more (grown_trans HG4 (World.grownBy_alloc _ _ _)) hgrow (fun r hr => (own4.lt r hr).1)
                have RS : Hid (Small (ys ++ [1])) := HYS.out.snoc (by omega) (by omega)
                clear hown5 hgrow hat hlt5 own4 hc4 HG4
                go_wp2
                go_roundw
                case rel => exact ⟨m + 1, g3, cap3, ys ++ [1], rfl, by simp [HY.out], by omega, by omega, RS.out, R.out, RC.out, RG.out⟩
                case measure => simp [lenOf]; omega
              · go_wp2
                go_ret
                obtain ⟨a5, c5, hu5, q1, q2, q3, q4⟩ := own_slice own4 HY.out.symm HYS.out.fits
                cases hu5
                exact ⟨_, rfl, _, m, c2, ys, rfl, q1, q2, q3, by omega, q4, hc4, HG4, fun b off e _ => by cases e; exact HFZ.out⟩
      · obtain ⟨a', c, hu, hvec, hac, hcm, hfrom⟩ := own_slice HO.out HZ.out.symm HS.out.fits
        subst hu
        have hoff : Off a' p := fun b off e => by have := hfrom b off e; omega
        go_wp2_with fail
        refine (once_any p a len cap bs 12 _ hc hvr hp hl (by omega)).mono ?_
        rintro e w2 ⟨x, rfl, hc2, hg2⟩
        have hva := hvec.grown hg2 hoff
        have HG2 := grown_trans HG.out hg2
        have hpos : decide ((0 : Int) < (k : Int)) = false := by simp; omega
        clear hvec hvr hc hg2
        cases x
        all_goals
          go_wp2
          go_ret
          exact ⟨_, rfl, a', k, c, zs, rfl, hva, hac, hcm, by omega, hfrom, hc2, HG2, fun b off e h => absurd h (by omega)⟩
end Go.Proofs.Ytmgfcemjoaepiaa

/-
  The contracts of the specification's l7Draw and DrawReady: some vector.
-/
namespace Go.Proofs.Ytmgfcemjoaepiaa
set_option linter.unusedSimpArgs false
set_option linter.unusedVariables false
open Go.RowKit Go.Sort

/-- A vector in memory, as a value. -/
def VecQ (w : World) (v : Value) (zs : List Int) : Prop := ∃ x c, v = .slice x zs.length c ∧ Vec w x zs.length zs ∧ zs.length ≤ c ∧ c ≤ maxLen
theorem VecQ.below {w w' : World} {v : Value} {zs : List Int} (h : VecQ w v zs) (hb : Below w.heap.size w w') : VecQ w' v zs := by
  obtain ⟨x, c, h1, h2, h3⟩ := h
  exact ⟨x, c, h1, h2.below hb (Nat.le_refl _), h3⟩
theorem vec_set0 {w : World} {b off m : Nat} {zs : List Int} (h : Vec w (some ⟨b, off, none⟩) m zs) (hm : 0 < m) {y : Int} (hy : I64 y) : Vec (w.setCell ⟨b, off, none⟩ (.int .i64 y)) (some ⟨b, off, none⟩) m (zs.set 0 y) := by
  have hl := h.1
  obtain ⟨b', off', he, hc⟩ := h.cells hm
  simp only [Option.some.injEq, Addr.mk.injEq, and_true] at he
  obtain ⟨rfl, rfl⟩ := he
  refine ⟨by simpa using hl, fits_set h.2.1 0 hy, .inr ⟨b, off, rfl, fun i hi => ?_⟩⟩
  by_cases e : i = 0
  · subst e
    have := hc 0 hm
    rw [Nat.add_zero] at this ⊢
    rw [World.cell?_setCell_same _ _ _ this]
    simp [el, show 0 < zs.length by omega]
  · rw [World.cell?_setCell_other _ _ _ _ (by simp [Ne.symm e, e]), hc i hi]
    simp [el, List.getElem?_set, Ne.symm e]

set_option maxRecDepth 100000 in
set_option maxHeartbeats 1600000 in
theorem l7Draw_any (p : Nat) (a : Option Addr) (len cap : Nat) (bs : Nat → Int) (w : World) (hcur : CurAt w p a len cap) (hv : BVec w a len bs) (hp : OffB a len p) (hl : len ≤ 4096) :
    Calls Try.prog 71 #[.pointer (some ⟨p, 0, none⟩)] w fun e w' => ∃ v zs, e = .returned v ∧ VecQ w' v zs ∧ w.grownBy w' (some p) := by
  have hpl := hcur.lt
  go_enter Try.func71, Try.ntmps71
  go_wp2_with fail
  refine (below_any p a len cap bs 5 w hcur hv hp hl (by omega)).mono ?_
  rintro e w1 ⟨x, rfl, hx0, hx1, _, hc1, hg1⟩
  have hx5 := hx1 (by omega)
  obtain ⟨N, rfl⟩ : ∃ N : Nat, x = (N : Int) := ⟨x.toNat, by omega⟩
  have hD := drawVectorF_any p a len cap bs (1 + N) (1 + (N : Int)) (by omega) w1 hc1 (hv.grown hg1 hp) hp hl (by omega)
  have KV : Hid (∀ X, w1.grownBy X (some p) → BVec X a len bs) := fun X hX => (hv.grown hg1 hp).grown hX hp
  have KG : Hid (w.grownBy w1 (some p)) := hg1
  clear hx0 hx1 hc1 hg1 hcur hv
  go_wp2_with fail
  refine hD.mono ?_
  rintro e w2 ⟨v, rfl, a', m, c, zs, rfl, hV, hmc, hcm, hm16, hFr, hc2, hg2, hfz⟩
  have hzl := hV.1
  subst hzl
  have hO := once_any p a len cap bs 14 w2 hc2 (KV.out w2 hg2) hp hl (by omega)
  have KG2 : Hid (w.grownBy w2 (some p)) := grown_trans KG.out hg2
  have s1 := KG.out.size
  have hOff : Off a' p := fun b off e => by have := hFr b off e; omega
  unfold maxLen at hcm
  clear hD
  go_wp2_with fail
  refine hO.mono ?_
  rintro e w3 ⟨t, rfl, hc3, hg3⟩
  have hV3 := hV.grown hg3 hOff
  have KG3 : Hid (w.grownBy w3 (some p)) := grown_trans KG2.out hg3
  have KV3 : Hid (VecQ w3 (.slice a' zs.length c) zs) := ⟨a', c, rfl, hV3, hmc, by unfold maxLen; omega⟩
  clear hO
  cases t
  · clear hV hV3 hfz hc2 hg2 hc3 hg3
    go_wp2
    go_ret
    exact ⟨_, zs, rfl, KV3.out, KG3.out⟩
  · by_cases h0 : 0 < zs.length
    · obtain ⟨b, off, rfl, hcells⟩ := hV.cells h0
      have hbb := hFr b off rfl
      have f2 := hfz b off rfl h0
      have c20 := hcells 0 h0
      rw [Nat.add_zero] at c20
      have hblt : b < w2.heap.size := World.block_lt_of_cell? _ _ c20
      have f3 : w3.frozen? ⟨b, off, none⟩ = false := (World.frozen?_of_block (hg3.block b hblt (by simp; omega))).trans f2
      have hblt3 : b < w3.heap.size := Nat.lt_of_lt_of_le hblt hg3.size
      have hv3 : BVec w3 a len bs := KV.out w3 (grown_trans hg2 hg3)
      have hB := below_any p a len cap bs 4 _ (hc3.alloc (.cells #[.int .i64 100000, .int .i64 100001, .int .i64 199, .int .i64 201] 2)) (hv3.grown (World.grownBy_alloc w3 _ _) hp) hp hl (by omega)
      have hpos : (0 : Int) < (zs.length : Int) := by omega
      have hp3 : p < w3.heap.size := hc3.lt
      have HV3 : Hid (Vec w3 (some ⟨b, off, none⟩) zs.length zs) := hV3
      have HZ0 : Hid (0 < zs.length) := h0
      clear hV hfz hc2 hg2 hg3 hcells c20 f2 hV3 hv3 hc3 h0
      go_wp2_with fail
      refine hB.mono ?_
      rintro e w4 ⟨y, rfl, hy0, hy1, _, hc4, hg4⟩
      obtain ⟨Y, rfl⟩ : ∃ Y : Nat, y = (Y : Int) := ⟨y.toNat, by omega⟩
      have hY4 : Y < 4 := by have := hy1 (by omega); omega
      have hA := World.grownBy_alloc w3 (.cells #[.int .i64 100000, .int .i64 100001, .int .i64 199, .int .i64 201] 2) (some p)
      have m1 : w4.cell? ⟨w3.heap.size, Y, none⟩ = some (.int .i64 (el [100000, 100001, 199, 201] Y)) := cell_arL (L := [100000, 100001, 199, 201]) ((hg4.block w3.heap.size (by simp) (by simp; omega)).trans (heap_alloc_new w3 _)) hY4
      have KG4 : Hid (w.grownBy w4 (some p)) := grown_trans (grown_trans KG3.out hA) hg4
      have HV4 : Hid (Vec w4 (some ⟨b, off, none⟩) zs.length zs) := (HV3.out.grown hA hOff).grown hg4 hOff
      have f4 : w4.frozen? ⟨b, off, none⟩ = false := (World.frozen?_of_block (hg4.block b (by simp; omega) (by simp; omega))).trans ((World.frozen?_of_block (hA.block b hblt3 (by simp; omega))).trans f3)
      obtain ⟨b', off', he, hc'⟩ := HV4.out.cells HZ0.out
      simp only [Option.some.injEq, Addr.mk.injEq, and_true] at he
      obtain ⟨rfl, rfl⟩ := he
      have c4 := hc' 0 HZ0.out
      rw [Nat.add_zero] at c4
      have hyb : I64 (el [100000, 100001, 199, 201] Y) := by
        match Y, hY4 with
        | 0, _ => exact ⟨by decide, by decide⟩
        | 1, _ => exact ⟨by decide, by decide⟩
        | 2, _ => exact ⟨by decide, by decide⟩
        | 3, _ => exact ⟨by decide, by decide⟩
      have KF : Hid (VecQ (w4.setCell ⟨b, off, none⟩ (.int .i64 (el [100000, 100001, 199, 201] Y))) (.slice (some ⟨b, off, none⟩) zs.length c) (zs.set 0 (el [100000, 100001, 199, 201] Y)) ∧ w.grownBy (w4.setCell ⟨b, off, none⟩ (.int .i64 (el [100000, 100001, 199, 201] Y))) (some p)) := by
        refine ⟨⟨some ⟨b, off, none⟩, c, by simp, ?_, by simpa using hmc, by unfold maxLen; omega⟩, grown_setOwn KG4.out (by omega) _ _⟩
        rw [List.length_set]
        exact vec_set0 HV4.out HZ0.out hyb
      have iy : (Y : Int) < 4 := by omega
      have iy0 : (0 : Int) ≤ (Y : Int) := by omega
      clear hg4 hc4 hy0 hy1 hB hc' hA hyb
      generalize el [100000, 100001, 199, 201] Y = z at *
      go_wp2
      go_ret
      exact ⟨_, _, rfl, KF.out⟩
    · have hpos : decide ((0 : Int) < (zs.length : Int)) = false := by rw [decide_eq_false_iff_not]; omega
      clear hV hV3 hfz hc2 hg2 hc3 hg3
      go_wp2
      go_ret
      exact ⟨_, zs, rfl, KV3.out, KG3.out⟩

set_option maxHeartbeats 400000 in
theorem drawReady_any (a : Option Addr) (len cap : Nat) (bs : Nat → Int) (w : World) (hv : BVec w a len bs) (hl : len ≤ 4096) :
    Calls Try.prog 37 #[.slice a len cap] w fun e w' => ∃ v zs, e = .returned v ∧ VecQ w' v zs ∧ Below w.heap.size w w' := by
  go_enter Try.func37, Try.ntmps37
  go_wp2_with fail
  refine (newQ a len cap bs w hv hl).mono ?_
  rintro e w1 ⟨p, rfl, hp, hpl, hoff, hq1⟩
  go_wp2_with fail
  refine (l7Draw_any p a len cap bs w1 hq1.cur hq1.code hoff hl).mono ?_
  rintro e w2 ⟨v, zs, rfl, hV, hg⟩
  have HV : Hid (VecQ w2 v zs) := hV
  have HB : Hid (Below w.heap.size w w2) := below_grown6 hq1.below hg hp hq1.below.size
  clear hV hg hq1
  go_wp2
  go_ret
  exact ⟨v, zs, rfl, HV.out, HB.out⟩
end Go.Proofs.Ytmgfcemjoaepiaa
