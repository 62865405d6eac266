/-
  Several texts in one: Dq0.
-/
import Derived.Test.YthlaaldicmfcnaaKp
import Derived.Test.YthlaaldicmfcnaaIw
import Derived.Test.YthlaaldicmfcnaaGt
import Derived.Deep.Cut
/-
  The draw of a list of blocks (l11Draw).
-/
namespace Go.Proofs.Ythlaaldicmfcnaa
set_option linter.unusedVariables false
set_option linter.unusedSimpArgs false
open Go.RowKit Go.Sort

theorem grown_blb {w w' : World} (h : Below w.heap.size w w') (r : Option Nat) : w.grownBy w' r := ⟨h.os, h.tape, h.output, h.size, fun k hk _ => h.block k hk⟩
theorem grown_nw {w w1 w2 : World} {r r2 : Option Nat} (h : w.grownBy w1 r) (k : w1.grownBy w2 r2) (hr : ∀ b, r2 = some b → w.heap.size ≤ b) : w.grownBy w2 r :=
  ⟨k.os.trans h.os, k.tape.trans h.tape, k.output.trans h.output, Nat.le_trans h.size k.size, fun b hb hn => (k.block b (Nat.lt_of_lt_of_le hb h.size) (fun e => by have := hr b e.symm; omega)).trans (h.block b hb hn)⟩
theorem textC (most : Nat) (n : Int) (hn : n = (most : Int)) (hm : most ≤ 1000) {w X : World} {p : Nat} {a : Option Addr} {len cap : Nat} {bs : Nat → Int} (h : Cc w X p a len cap bs) :
    Calls Try.prog 63 #[.pointer (some ⟨p, 0, none⟩), .int .i64 n] X fun e w' => ∃ l : List UInt8, e = .returned (.string (sv l)) ∧ l.length ≤ most ∧ Cc w w' p a len cap bs ∧ X.grownBy w' (some p) := by
  subst hn
  refine (drawText_any p a len cap bs most X h.cur h.bvec h.off h.hl hm).mono ?_
  rintro e w' ⟨l, h1, rfl, hc, hg⟩
  exact ⟨l, rfl, h1, h.drawn hg hc, hg⟩
/-- What a drawn list of blocks is like. -/
def SmB (L : List Blk) : Prop := L.length ≤ 14 ∧ ∀ b ∈ L, (-1000 ≤ b.1 ∧ b.1 ≤ 1000) ∧ (-1000 ≤ b.2.1 ∧ b.2.1 ≤ 1000) ∧ b.2.2.length ≤ 100
theorem SmB.fits {L : List Blk} (h : SmB L) : FitsB L := fun i hi => by
  have := h.2 _ (bat_mem hi)
  exact ⟨⟨by omega, by omega⟩, ⟨by omega, by omega⟩⟩
theorem SmB.short {L : List Blk} (h : SmB L) : ShortB L := fun i hi => by
  have := (h.2 _ (bat_mem hi)).2.2
  omega
theorem SmB.set {L : List Blk} (h : SmB L) (k : Nat) {b : Blk} (hb : (-1000 ≤ b.1 ∧ b.1 ≤ 1000) ∧ (-1000 ≤ b.2.1 ∧ b.2.1 ≤ 1000) ∧ b.2.2.length ≤ 100) : SmB (L.set k b) := by
  refine ⟨by rw [List.length_set]; exact h.1, fun c hc => ?_⟩
  rcases List.mem_or_eq_of_mem_set hc with h1 | rfl
  · exact h.2 c h1
  · exact hb
theorem split_sm (s : List UInt8) (size : Int) : (splitL s size).length ≤ 12 ∧ SmB (splitL s size) := by
  have hl := splitL_len s size
  refine ⟨hl, by omega, fun b hb => ?_⟩
  unfold splitL at hb
  split at hb
  · rename_i h
    simp only [Bool.and_eq_true, decide_eq_true_eq, inB7] at h
    simp only [spl, List.mem_map, List.mem_range] at hb
    obtain ⟨i, hi, rfl⟩ := hb
    have := pt11_len s size.toNat i
    simp only
    omega
  · simp at hb
/-- What l11Draw holds. -/
structure D11 (w X wr : World) (p : Nat) (a : Option Addr) (len cap : Nat) (bs : Nat → Int) (g off c : Nat) (L : List Blk) : Prop where
  cu : Cc w wr p a len cap bs
  gr : X.grownBy wr (some p)
  ob : OB wr g off L.length c L
  hg : X.heap.size ≤ g
  pX : p < X.heap.size
  wX : w.heap.size ≤ X.heap.size
  sm : SmB L
theorem D11.drawn {w X wr w' : World} {p : Nat} {a : Option Addr} {len cap : Nat} {bs : Nat → Int} {g off c : Nat} {L : List Blk} (h : D11 w X wr p a len cap bs g off c L) (hg : wr.grownBy w' (some p)) (hc : Cc w w' p a len cap bs) : D11 w X w' p a len cap bs g off c L :=
  ⟨hc, grown_trans h.gr hg, OSl.grown h.ob hg (by have := h.hg; have := h.pX; simp; omega), h.hg, h.pX, h.wX, h.sm⟩
theorem D11.step {w X wr w' : World} {p : Nat} {a : Option Addr} {len cap : Nat} {bs : Nat → Int} {g off c : Nat} {L : List Blk} (h : D11 w X wr p a len cap bs g off c L) (hb : Below wr.heap.size wr w') : D11 w X w' p a len cap bs g off c L :=
  ⟨h.cu.step hb, grown_trans h.gr (grown_blb hb _), OSl.below h.ob hb h.ob.blk, h.hg, h.pX, h.wX, h.sm⟩
theorem D11.put {w X wr : World} {p : Nat} {a : Option Addr} {len cap : Nat} {bs : Nat → Int} {g off c : Nat} {L : List Blk} (h : D11 w X wr p a len cap bs g off c L) {k : Nat} (hk : k < L.length) (b : Blk) (hb : (-1000 ≤ b.1 ∧ b.1 ≤ 1000) ∧ (-1000 ≤ b.2.1 ∧ b.2.1 ≤ 1000) ∧ b.2.2.length ≤ 100) :
    D11 w X (((wr.setCell ⟨g, off + k * 3, none⟩ (.int .i64 b.1)).setCell ⟨g, off + k * 3 + 1, none⟩ (.int .i64 b.2.1)).setCell ⟨g, off + k * 3 + 2, none⟩ (.string (sv b.2.2))) p a len cap bs g off c (L.set k b) := by
  have hg := h.hg
  have hp := h.pX
  have hw := h.wX
  refine ⟨((h.cu.set (by omega) (by omega) _ _).set (by omega) (by omega) _ _).set (by omega) (by omega) _ _, ?_, ?_, h.hg, h.pX, h.wX, h.sm.set k hb⟩
  · exact grown_nw (grown_nw (grown_nw h.gr (grown_set (grown_refl _ (some g)) _ _) (fun x e => by cases e; exact hg)) (grown_set (grown_refl _ (some g)) _ _) (fun x e => by cases e; exact hg)) (grown_set (grown_refl _ (some g)) _ _) (fun x e => by cases e; exact hg)
  · rw [List.length_set]
    exact OB.put h.ob hk b
theorem D11.cells {w X wr : World} {p : Nat} {a : Option Addr} {len cap : Nat} {bs : Nat → Int} {g off c : Nat} {L : List Blk} (h : D11 w X wr p a len cap bs g off c L) {k : Nat} (hk : k < L.length) :
    (wr.cell? ⟨g, off + k * 3, none⟩ = some (.int .i64 (bat L k).1) ∧ wr.cell? ⟨g, off + k * 3 + 1, none⟩ = some (.int .i64 (bat L k).2.1) ∧ wr.cell? ⟨g, off + k * 3 + 2, none⟩ = some (.string (sv (bat L k).2.2))) ∧ wr.frozen? ⟨g, off + k * 3, none⟩ = false ∧ wr.frozen? ⟨g, off + k * 3 + 1, none⟩ = false ∧ wr.frozen? ⟨g, off + k * 3 + 2, none⟩ = false := by
  have hle := h.ob.le
  have f1 := h.ob.free (k * 3 + 1) (by omega)
  have f2 := h.ob.free (k * 3 + 2) (by omega)
  rw [← Nat.add_assoc] at f1 f2
  exact ⟨⟨h.ob.c0 hk, h.ob.c1 hk, h.ob.c2 hk⟩, h.ob.free (k * 3) (by omega), f1, f2⟩
theorem Bx.setOther {w : World} {B g i : Nat} {T : TypeId} {cs : Array Value} {v : Value} (h : Bx w B T cs) (hne : g ≠ B) : Bx (w.setCell ⟨g, i, none⟩ v) B T cs := h.grown (grown_set (grown_refl w (some g)) i v) (by simpa using hne.symm)
theorem bat_set {L : List Blk} {k j : Nat} {b : Blk} (hk : k < L.length) : bat (L.set k b) j = if j = k then b else bat L j := by
  unfold bat
  rw [List.getD_eq_getElem?_getD, List.getD_eq_getElem?_getD, List.getElem?_set]
  by_cases e : k = j
  · subst e; simp [hk]
  · rw [if_neg e, if_neg (fun h => e h.symm)]
theorem bvs_set0 : ∀ {L : List Blk} {k : Nat} (x : Int), k < L.length → (bvs L).set (k * 3) (.int .i64 x) = bvs (L.set k (x, (bat L k).2.1, (bat L k).2.2))
  | [], k, x, h => by simp at h
  | c :: L, 0, x, h => by simp [bvs, bat]
  | c :: L, k + 1, x, h => by
    have ih := bvs_set0 (L := L) (k := k) x (by simpa using h)
    have e1 : ∀ (c : Blk) (L : List Blk), bvs (c :: L) = .int .i64 c.1 :: .int .i64 c.2.1 :: .string (sv c.2.2) :: bvs L := fun c L => by simp [bvs]
    have e2 : bat (c :: L) (k + 1) = bat L k := by simp [bat]
    rw [List.set_cons_succ, e1, e1, e2, ← ih, show (k + 1) * 3 = k * 3 + 1 + 1 + 1 by omega]
    simp only [List.set_cons_succ]
theorem bvs_set1 : ∀ {L : List Blk} {k : Nat} (x : Int), k < L.length → (bvs L).set (k * 3 + 1) (.int .i64 x) = bvs (L.set k ((bat L k).1, x, (bat L k).2.2))
  | [], k, x, h => by simp at h
  | c :: L, 0, x, h => by simp [bvs, bat]
  | c :: L, k + 1, x, h => by
    have ih := bvs_set1 (L := L) (k := k) x (by simpa using h)
    have e1 : ∀ (c : Blk) (L : List Blk), bvs (c :: L) = .int .i64 c.1 :: .int .i64 c.2.1 :: .string (sv c.2.2) :: bvs L := fun c L => by simp [bvs]
    have e2 : bat (c :: L) (k + 1) = bat L k := by simp [bat]
    rw [List.set_cons_succ, e1, e1, e2, ← ih, show (k + 1) * 3 + 1 = k * 3 + 1 + 1 + 1 + 1 by omega]
    simp only [List.set_cons_succ]
theorem D11.one {w X wr : World} {p : Nat} {a : Option Addr} {len cap : Nat} {bs : Nat → Int} {g off c : Nat} {L L' : List Blk} (h : D11 w X wr p a len cap bs g off c L) {i : Nat} {v : Value} (hi : i < L.length * 3) (he : (bvs L).set i v = bvs L') (hl : L'.length = L.length) (hs : SmB L') :
    D11 w X (wr.setCell ⟨g, off + i, none⟩ v) p a len cap bs g off c L' := by
  have hg := h.hg
  have hp := h.pX
  have hw := h.wX
  refine ⟨h.cu.set (by omega) (by omega) _ _, grown_nw h.gr (grown_set (grown_refl _ (some g)) _ _) (fun x e => by cases e; exact hg), ?_, h.hg, h.pX, h.wX, hs⟩
  have := osl_put (j := i) h.ob hi v
  rw [he] at this
  rw [hl]
  exact this
/-- The list without its first block. -/
theorem ob_tail {w : World} {g off c : Nat} {b : Blk} {L : List Blk} (h : OB w g off (b :: L).length c (b :: L)) (hc : 1 < c) : OB w g (off + 3) L.length (c - 1) L := by
  have hb : bvs (b :: L) = .int .i64 b.1 :: .int .i64 b.2.1 :: .string (sv b.2.2) :: bvs L := by simp [bvs]
  have hle := h.le
  simp only [List.length_cons] at hle
  refine ⟨bvs_len L, by omega, by have := h.max; omega, h.blk, fun i hi => ?_, fun i hi => ?_, fun i hi => ?_⟩
  · have := h.cell (i + 3) (by rw [List.length_cons]; omega)
    rw [show off + 3 + i = off + (i + 3) by omega, this, hb]
    simp
  · have := h.some (i + 3) (by omega)
    rwa [show off + 3 + i = off + (i + 3) by omega]
  · have := h.free (i + 3) (by omega)
    rwa [show off + 3 + i = off + (i + 3) by omega]
theorem ob_none {w : World} {g off n c : Nat} {L : List Blk} (h : OB w g off n c L) : OB w g off 0 0 [] := ⟨rfl, Nat.le_refl _, Nat.zero_le _, h.blk, fun i hi => by omega, fun i hi => by omega, fun i hi => by omega⟩
/-- What l11Draw answers. -/
def Ans11 (w X w' : World) (p : Nat) (a : Option Addr) (len cap : Nat) (bs : Nat → Int) (e : Ending) : Prop := ∃ g off c L, e = .returned (.slice (some ⟨g, off, none⟩) (List.length L) c) ∧ D11 w X w' p a len cap bs g off c L
attribute [local irreducible] sv
set_option maxRecDepth 100000 in
set_option maxHeartbeats 3200000 in
theorem l11Draw_any (p : Nat) (a : Option Addr) (len cap : Nat) (bs : Nat → Int) (w X : World) (hC : Cc w X p a len cap bs) :
    Calls Try.prog 65 #[.pointer (some ⟨p, 0, none⟩)] X fun e w' => Ans11 w X w' p a len cap bs e := by
  obtain ⟨i0, hi0, hz0, hz1, hz2⟩ := info_parts2n infoBlock
  have hpX := hC.lt
  have hwX := hC.below.size
  go_enter Try.func65, Try.ntmps65
  go_wp2_with fail
  refine (textC 14 14 rfl (by omega) hC).mono ?_
  rintro e X1 ⟨s, rfl, hs, C1, g1⟩
  go_wp2_with fail
  refine (belowC 4 4 rfl C1 (by omega) (by omega)).mono ?_
  rintro e X2 ⟨y, rfl, hy, C2, g2⟩
  have o1 : (1 : Int) + (y : Int) ≤ 9223372036854775807 := by omega
  have hS := splS_any s (1 + (y : Int)) X2 (by omega)
  obtain ⟨hl12, hsm⟩ := split_sm s (1 + (y : Int))
  generalize splitL s (1 + (y : Int)) = L0 at *
  go_wp2_with fail
  refine hS.mono ?_
  rintro e X3 ⟨g0, off0, c0, rfl, hg0, ho0, hb3⟩
  have D3 : Hid (D11 w X X3 p a len cap bs g0 off0 c0 L0) := ⟨C2.step hb3, grown_trans (grown_trans g1 g2) (grown_blb hb3 _), ho0, by have := g1.size; have := g2.size; omega, hpX, hwX, hsm⟩
  clear C1 C2 g1 g2 hS ho0 hb3 hg0 hsm
  have hl0 : -9223372036854775808 ≤ (L0.length : Int) - 1 := by omega
  go_wp2_with fail
  go_loopw [4] (fun i wr => ∃ (k : Nat) (L : List Blk), L.length = L0.length ∧ k ≤ L.length ∧ i = .int .i64 ((k : Int) - 1) ∧ D11 w X wr p a len cap bs g0 off0 c0 L) (fun i _ => (intOf i + 1).toNat)
  case atStart => exact ⟨L0.length, L0, rfl, Nat.le_refl _, rfl, D3.out⟩
  case round =>
    obtain ⟨k, L, hLL, hk, rfl, hD⟩ := hrel
    have HLL : Hid (L.length = L0.length) := hLL
    have hL12 : L.length ≤ 12 := by omega
    have D : Hid (D11 w X wr p a len cap bs g0 off0 c0 L) := hD
    clear hD hLL D3
    by_cases hk1 : 1 < k
    · obtain ⟨j, rfl⟩ : ∃ j, k = j + 2 := ⟨k - 2, by omega⟩
      have e1 : ((j + 2 : Nat) : Int) - 1 = ((j + 1 : Nat) : Int) := by omega
      have e2 : (0 : Int) < ((j + 1 : Nat) : Int) := by omega
      have e3 : ((j + 1 : Nat) : Int) + 1 = ((j + 2 : Nat) : Int) := by omega
      have e4 : ((j + 1 : Nat) : Int) - 1 = (j : Int) := by omega
      rw [e1]
      clear e1
      go_wp2_with fail
      refine (belowC (j + 2) _ (by omega) D.out.cu (by omega) (by omega)).mono ?_
      rintro e W1 ⟨t, rfl, ht, C1, g1⟩
      have D1 := D.out.drawn g1 C1
      clear C1 g1 D
      have bL : ((j + 1 : Nat) : Int) < (L0.length : Int) := by rw [← HLL.out]; omega
      have bt0 : (0 : Int) ≤ (t : Int) := by omega
      have btL : (t : Int) < (L0.length : Int) := by rw [← HLL.out]; omega
      have hsI := D1.sm.2 _ (bat_mem (L := L) (i := j + 1) (by omega))
      have hsT := D1.sm.2 _ (bat_mem (L := L) (i := t) (by omega))
      obtain ⟨⟨a0, a1, a2⟩, _⟩ := D1.cells (k := j + 1) (by omega)
      have hb2 := one_alloc10 W1 (.cells #[.int .i64 (bat L (j + 1)).1, .int .i64 (bat L (j + 1)).2.1, .string (sv (bat L (j + 1)).2.2)] 46)
      have D2 := D1.step hb2
      have Q2 := Bx.new W1 46 #[.int .i64 (bat L (j + 1)).1, .int .i64 (bat L (j + 1)).2.1, .string (sv (bat L (j + 1)).2.2)]
      have hgb := D1.ob.blk
      go_upto_region 7 with fail
      generalize hW2 : W1.alloc (.cells #[.int .i64 (bat L (j + 1)).1, .int .i64 (bat L (j + 1)).2.1, .string (sv (bat L (j + 1)).2.2)] 46) = W2 at *
      clear a0 a1 a2 D1 hb2 hW2
      obtain ⟨⟨a0, a1, a2⟩, f0, f1, f2⟩ := D2.cells (k := j + 1) (by omega)
      obtain ⟨⟨c0', c1', c2'⟩, _⟩ := D2.cells (k := t) (by omega)
      have D4 := D2.put (k := j + 1) (by omega) (bat L t) hsT
      have Q4 := ((Q2.setOther (g := g0) (i := off0 + (j + 1) * 3) (v := .int .i64 (bat L t).1) (by omega)).setOther (g := g0) (i := off0 + (j + 1) * 3 + 1) (v := .int .i64 (bat L t).2.1) (by omega)).setOther (g := g0) (i := off0 + (j + 1) * 3 + 2) (v := .string (sv (bat L t).2.2)) (by omega)
      go_upto_region 8 with fail
      generalize ((W2.setCell ⟨g0, off0 + (j + 1) * 3, none⟩ (.int .i64 (bat L t).1)).setCell ⟨g0, off0 + (j + 1) * 3 + 1, none⟩ (.int .i64 (bat L t).2.1)).setCell ⟨g0, off0 + (j + 1) * 3 + 2, none⟩ (.string (sv (bat L t).2.2)) = W4 at *
      clear a0 a1 a2 f0 f1 f2 c0' c1' c2' D2 Q2
      have hl4 : (L.set (j + 1) (bat L t)).length = L.length := List.length_set
      obtain ⟨⟨a0, a1, a2⟩, f0, f1, f2⟩ := D4.cells (k := t) (by omega)
      have D5 : Hid (D11 w X _ p a len cap bs g0 off0 c0 ((L.set (j + 1) (bat L t)).set t (bat L (j + 1)))) := D4.put (k := t) (by omega) (bat L (j + 1)) hsI
      have q0 := Q4.at 0 rfl
      have q1 := Q4.at 1 rfl
      have q2 := Q4.at 2 rfl
      have HL5 : Hid (((L.set (j + 1) (bat L t)).set t (bat L (j + 1))).length = L0.length) := by rw [Hid, List.length_set, List.length_set]; exact HLL.out
      clear D4 Q4 hl4
      go_wp2
      go_roundw
      case rel => exact ⟨j + 1, (L.set (j + 1) (bat L t)).set t (bat L (j + 1)), HL5.out, by rw [List.length_set, List.length_set]; omega, by go_num, D5.out⟩
      case measure => simp [intOf]; omega
    · have k1 : ¬ ((0 : Int) < (k : Int) - 1) := by omega
      go_wp2_with fail
      refine (onceC 3 D.out.cu (by omega)).mono ?_
      rintro e W1 ⟨t, rfl, C1, g1⟩
      have D1 := D.out.drawn g1 C1
      clear C1 g1 D hk hk1 k1
      cases t
      · have HE : Hid (Ans11 w X W1 p a len cap bs (.returned (.slice (some ⟨g0, off0, none⟩) L0.length c0))) := ⟨g0, off0, c0, L, by rw [HLL.out], D1⟩
        clear D1
        go_wp2
        go_ret
        exact HE.out
      · by_cases hz : 0 < L.length
        · have z1 : (0 : Int) < (L0.length : Int) := by rw [← HLL.out]; omega
          go_wp2_with fail
          refine (belowC 4 4 rfl D1.cu (by omega) (by omega)).mono ?_
          rintro e W2 ⟨y4, rfl, hy4, C2, g2⟩
          have D2 := D1.drawn g2 C2
          clear C2 g2 D1
          obtain ⟨⟨a0, a1, a2⟩, f0, f1, f2⟩ := D2.cells (k := 0) hz
          simp only [Nat.zero_mul, Nat.add_zero] at a0 a1 a2 f0 f1 f2
          have hs0 := D2.sm.2 _ (bat_mem (L := L) (i := 0) hz)
          have hgb := D2.ob.blk
          have hgX := D2.hg
          have hpX2 := D2.pX
          have hwX2 := D2.wX
          obtain rfl | rfl | rfl | rfl : y4 = 0 ∨ y4 = 1 ∨ y4 = 2 ∨ y4 = 3 := by omega
          · have hbA := one_alloc10 W2 (.cells #[.int .i64 (bat L 0).1, .int .i64 (bat L 0).2.1, .string (sv (bat L 0).2.2)] 46)
            have D3 := D2.step hbA
            have hO2 : OSl (W2.alloc (.cells #[.int .i64 (bat L 0).1, .int .i64 (bat L 0).2.1, .string (sv (bat L 0).2.2)] 46)) 3 g0 off0 L0.length c0 (bvs L) := by rw [← HLL.out]; exact D3.ob
            have HS : Hid (SmB (L ++ [bat L 0])) := ⟨by simp; omega, fun b hb => by
              rcases List.mem_append.1 hb with h | h
              · exact D2.sm.2 b h
              · rw [List.mem_singleton] at h; rw [h]; exact hs0⟩
            go_wp2_with (at_builtin; refine wpList_append_os _ rfl _ _ _ rfl 46 i0 _ 3 32 Try.underlying35 hi0 hz0 hz1 hz2 rfl (by omega) g0 off0 L0.length c0 _ rfl hO2 ⟨W2.heap.size, 0, none⟩ 1 1 [.int .i64 (bat L 0).1, .int .i64 (bat L 0).2.1, .string (sv (bat L 0).2.2)] rfl rfl (World.news_of_block (cs := #[.int .i64 (bat L 0).1, .int .i64 (bat L 0).2.1, .string (sv (bat L 0).2.2)]) (t := 46) (fr := (0, 0)) (heap_alloc_new _ _)) (by simp [Value.oneCell']) (by unfold maxLen; omega) (by omega) ?_; intro g6 o6 c6 w6 hO6 hg6 hat6)
            have hsA : (W2.alloc (.cells #[.int .i64 (bat L 0).1, .int .i64 (bat L 0).2.1, .string (sv (bat L 0).2.2)] 46)).heap.size = W2.heap.size + 1 := by simp
            have s2 := D2.gr.size
            have HE : Hid (Ans11 w X w6 p a len cap bs (.returned (.slice (some ⟨g6, o6, none⟩) (L0.length + 1) c6))) := by
              refine ⟨g6, o6, c6, L ++ [bat L 0], by rw [List.length_append, List.length_singleton, HLL.out], D3.cu.grown hg6 (by omega) (by omega), grown_nw D3.gr hg6 (fun x e => by cases e; exact hgX), ?_, by rcases hat6 with h | h <;> omega, hpX2, hwX2, HS.out⟩
              rw [List.length_append, List.length_singleton, OB, bvs_snoc, HLL.out]
              exact hO6
            clear hO6 hg6 hat6 hO2 D3 D2
            go_ret
            exact HE.out
          · obtain ⟨b, R, hbR⟩ : ∃ b R, L = b :: R := by
              cases L with
              | nil => simp at hz
              | cons b R => exact ⟨b, R, rfl⟩
            have hR : L0.length = R.length + 1 := by rw [← HLL.out, hbR]; rfl
            have HSR : Hid (SmB R) := by
              have h := D2.sm
              rw [hbR] at h
              exact ⟨by have := h.1; simp at this; omega, fun x hx => h.2 x (List.mem_cons_of_mem _ hx)⟩
            have hob := D2.ob
            have hle := hob.le
            rw [hbR] at hob
            have n1 : (1 : Int) ≤ ((R.length + 1 : Nat) : Int) := by omega
            rw [hR] at z1 ⊢
            have hc1 : R.length + 1 ≤ c0 := by have := hob.le; simpa using this
            by_cases hc : c0 = 1
            · have hR0 : R = [] := List.eq_nil_of_length_eq_zero (by omega)
              subst hR0 hc
              have HE : Hid (Ans11 w X W2 p a len cap bs (.returned (.slice (some ⟨g0, off0, none⟩) 0 0))) := ⟨g0, off0, 0, [], rfl, D2.cu, D2.gr, ob_none hob, hgX, hpX2, hwX2, HSR.out⟩
              clear D2 hob HSR
              go_wp2
              go_ret
              exact HE.out
            · have HE : Hid (Ans11 w X W2 p a len cap bs (.returned (.slice (some ⟨g0, off0 + 3, none⟩) R.length (c0 - 1)))) := ⟨g0, off0 + 3, c0 - 1, R, rfl, D2.cu, D2.gr, ob_tail hob (by omega), hgX, hpX2, hwX2, HSR.out⟩
              clear D2 hob HSR
              go_wp2
              go_ret
              exact HE.out
          · go_wp2_with fail
            refine (fromC (-1) 14 (by omega) (by omega) (by omega) D2.cu).mono ?_
            rintro e W3 ⟨x, rfl, hx0, hx1, C3, g3⟩
            have D3 := D2.drawn g3 C3
            clear a0 a1 a2 f0 f1 f2 C3 g3 D2
            obtain ⟨⟨a0, a1, a2⟩, f0, f1, f2⟩ := D3.cells (k := 0) hz
            simp only [Nat.zero_mul, Nat.add_zero] at a0 a1 a2 f0 f1 f2
            have D4 := D3.one (L' := L.set 0 (x, (bat L 0).2.1, (bat L 0).2.2)) (i := 0) (v := .int .i64 x) (by omega) (by have := bvs_set0 (L := L) (k := 0) x hz; simpa using this) List.length_set (D3.sm.set 0 ⟨⟨by omega, by omega⟩, hs0.2.1, hs0.2.2⟩)
            rw [Nat.add_zero] at D4
            have HE : Hid (Ans11 w X _ p a len cap bs (.returned (.slice (some ⟨g0, off0, none⟩) L0.length c0))) := ⟨g0, off0, c0, _, by rw [List.length_set, HLL.out], D4⟩
            clear D4 D3
            go_wp2
            go_ret
            exact HE.out
          · go_wp2_with fail
            refine (fromC (-1) 15 (by omega) (by omega) (by omega) D2.cu).mono ?_
            rintro e W3 ⟨x, rfl, hx0, hx1, C3, g3⟩
            have D3 := D2.drawn g3 C3
            clear a0 a1 a2 f0 f1 f2 C3 g3 D2
            obtain ⟨⟨a0, a1, a2⟩, f0, f1, f2⟩ := D3.cells (k := 0) hz
            simp only [Nat.zero_mul, Nat.add_zero] at a0 a1 a2 f0 f1 f2
            have D4 := D3.one (L' := L.set 0 ((bat L 0).1, x, (bat L 0).2.2)) (i := 1) (v := .int .i64 x) (by omega) (by have := bvs_set1 (L := L) (k := 0) x hz; simpa using this) List.length_set (D3.sm.set 0 ⟨hs0.1, ⟨show (-1000 : Int) ≤ x by omega, show x ≤ 1000 by omega⟩, hs0.2.2⟩)
            have HE : Hid (Ans11 w X _ p a len cap bs (.returned (.slice (some ⟨g0, off0, none⟩) L0.length c0))) := ⟨g0, off0, c0, _, by rw [List.length_set, HLL.out], D4⟩
            clear D4 D3
            go_wp2
            go_ret
            exact HE.out
        · have z1 : ¬ ((0 : Int) < (L0.length : Int)) := by rw [← HLL.out]; omega
          have HE : Hid (Ans11 w X W1 p a len cap bs (.returned (.slice (some ⟨g0, off0, none⟩) L0.length c0))) := ⟨g0, off0, c0, L, by rw [HLL.out], D1⟩
          clear D1
          go_wp2
          go_ret
          exact HE.out
end Go.Proofs.Ythlaaldicmfcnaa
