/-
  Several texts in one: Dt0 Dt1.
-/
import Derived.Test.YtdniajogojlmdaaKd
/-
  The draws of stage 10: a relay, numbers for a new one, a relay and passes.
-/
namespace Go.Proofs.Ytdniajogojlmdaa
set_option linter.unusedVariables false
set_option linter.unusedSimpArgs false
open Go.RowKit Go.Sort

/-- A drawn relay, to be read. -/
structure Rd (w : World) (N B : Int) (a' : Option Addr) (c : Nat) (H : List (List Int)) : Prop where
  vv : VV w a' H.length c H
  sm : SmR N B H
theorem Rd.below {w w' : World} {N B : Int} {a' : Option Addr} {c : Nat} {H : List (List Int)} (h : Rd w N B a' c H) (hb : Below w.heap.size w w') : Rd w' N B a' c H := ⟨h.vv.below hb, h.sm⟩
theorem rd_put {X : World} {N B : Int} {a' : Option Addr} {c : Nat} {H : List (List Int)} {f : Fp} {g : Nat} (ho : Cel.ow X (iicl H) (.slice a' H.length c) f) (hf : ∀ b, f b → b ≠ g) (hs : SmR N B H) {x y z : Value} : Rd (((X.setCell ⟨g, 0, none⟩ x).setCell ⟨g, 1, none⟩ y).setCell ⟨g, 2, none⟩ z) N B a' c H :=
  ⟨vv_of_vw (Cel.ow_vw (Cel.ow_wrt ho (wrt3 X g) (fun b hb e => hf b hb e))) hs.2.2.1, hs⟩

set_option maxRecDepth 100000 in
set_option maxHeartbeats 1600000 in
theorem drawRok_any (a : Option Addr) (len cap : Nat) (bs : Nat → Int) (w : World) (hv : BVec w a len bs) (hl : len ≤ 4096) :
    Calls Try.prog 80 #[.slice a len cap] w fun e w' => ∃ N B a' c H, e = .returned (rlV N B a' (List.length H) c) ∧ Rd w' N B a' c H ∧ Below w.heap.size w w' := by
  have hb1 := one_alloc10 w (.cells #[.int .i64 0, .int .i64 0, .slice none 0 0] 35)
  have R1 := Bx.new w 35 #[.int .i64 0, .int .i64 0, .slice none 0 0]
  have l1 := R1.lt
  generalize hW1 : w.alloc (.cells #[.int .i64 0, .int .i64 0, .slice none 0 0] 35) = X1 at *
  go_enter Try.func80, Try.ntmps80
  go_wp2_with fail
  refine (newC a len cap bs X1 X1 (Below.refl _ _) (hv.below hb1 (Nat.le_refl _)) hl).mono ?_
  rintro e X2 ⟨p, rfl, hp, C2, hb2⟩
  have R2 := R1.below hb2
  go_wp2_with fail
  refine (l10Draw_any p a len cap bs X1 X2 C2).mono ?_
  rintro e X3 ⟨N, B, a', c, H, rfl, ⟨f, ho, hf⟩, hs, C3, g3⟩
  have R3 := R2.grown g3 (by simp; omega)
  have r0 := R3.at 0 rfl
  have r1 := R3.at 1 rfl
  have r2 := R3.at 2 rfl
  have f0 := R3.f 0
  have f1 := R3.f 1
  have f2 := R3.f 2
  have s12 := hb2.size
  have HR : Hid (Rd (((X3.setCell ⟨w.heap.size, 0, none⟩ (.int .i64 N)).setCell ⟨w.heap.size, 1, none⟩ (.int .i64 B)).setCell ⟨w.heap.size, 2, none⟩ (.slice a' H.length c)) N B a' c H) := rd_put ho (fun b hb => by have := hf b hb; omega) hs
  have HB : Hid (Below w.heap.size w (((X3.setCell ⟨w.heap.size, 0, none⟩ (.int .i64 N)).setCell ⟨w.heap.size, 1, none⟩ (.int .i64 B)).setCell ⟨w.heap.size, 2, none⟩ (.slice a' H.length c))) := below3 (hb1.trans (C3.below.mono hb1.size)) (Nat.le_refl _)
  clear ho hf C3 g3 R1 R2 R3 C2 hb1 hb2
  unfold rlV
  go_wp2
  refine bodyPost_ret (v := .agg #[.int .i64 N, .int .i64 B, .slice a' H.length c]) (by simp [results, Try.results80, go_sem, r0, r1, r2]) rfl ?_
  exact ⟨N, B, a', c, H, rfl, HR.out, HB.out⟩

set_option maxRecDepth 100000 in
set_option maxHeartbeats 1600000 in
theorem drawRokO_any (a : Option Addr) (len cap : Nat) (bs : Nat → Int) (w : World) (hv : BVec w a len bs) (hl : len ≤ 4096) :
    Calls Try.prog 80 #[.slice a len cap] w fun e w' => ∃ N B a' c H, e = .returned (rlV N B a' (List.length H) c) ∧ (∃ f, Cel.ow w' (iicl H) (.slice a' H.length c) f ∧ ∀ b, f b → w.heap.size ≤ b) ∧ SmR N B H ∧ Below w.heap.size w w' := by
  have hb1 := one_alloc10 w (.cells #[.int .i64 0, .int .i64 0, .slice none 0 0] 35)
  have R1 := Bx.new w 35 #[.int .i64 0, .int .i64 0, .slice none 0 0]
  have l1 := R1.lt
  generalize hW1 : w.alloc (.cells #[.int .i64 0, .int .i64 0, .slice none 0 0] 35) = X1 at *
  go_enter Try.func80, Try.ntmps80
  go_wp2_with fail
  refine (newC a len cap bs X1 X1 (Below.refl _ _) (hv.below hb1 (Nat.le_refl _)) hl).mono ?_
  rintro e X2 ⟨p, rfl, hp, C2, hb2⟩
  have R2 := R1.below hb2
  go_wp2_with fail
  refine (l10Draw_any p a len cap bs X1 X2 C2).mono ?_
  rintro e X3 ⟨N, B, a', c, H, rfl, ⟨f, ho, hf⟩, hs, C3, g3⟩
  have R3 := R2.grown g3 (by simp; omega)
  have r0 := R3.at 0 rfl
  have r1 := R3.at 1 rfl
  have r2 := R3.at 2 rfl
  have f0 := R3.f 0
  have f1 := R3.f 1
  have f2 := R3.f 2
  have s12 := hb2.size
  have HR : Hid (∃ f, Cel.ow (((X3.setCell ⟨w.heap.size, 0, none⟩ (.int .i64 N)).setCell ⟨w.heap.size, 1, none⟩ (.int .i64 B)).setCell ⟨w.heap.size, 2, none⟩ (.slice a' H.length c)) (iicl H) (.slice a' H.length c) f ∧ ∀ b, f b → w.heap.size ≤ b) := ⟨f, Cel.ow_wrt ho (wrt3 X3 w.heap.size) (fun b hb e => by have := hf b hb; omega), fun b hb => by have := hf b hb; omega⟩
  have HB : Hid (Below w.heap.size w (((X3.setCell ⟨w.heap.size, 0, none⟩ (.int .i64 N)).setCell ⟨w.heap.size, 1, none⟩ (.int .i64 B)).setCell ⟨w.heap.size, 2, none⟩ (.slice a' H.length c))) := below3 (hb1.trans (C3.below.mono hb1.size)) (Nat.le_refl _)
  clear ho hf C3 g3 R1 R2 R3 C2 hb1 hb2
  unfold rlV
  go_wp2
  refine bodyPost_ret (v := .agg #[.int .i64 N, .int .i64 B, .slice a' H.length c]) (by simp [results, Try.results80, go_sem, r0, r1, r2]) rfl ?_
  exact ⟨N, B, a', c, H, rfl, HR.out, hs, HB.out⟩

set_option maxRecDepth 100000 in
set_option maxHeartbeats 1600000 in
theorem drawChn_any (a : Option Addr) (len cap : Nat) (bs : Nat → Int) (w : World) (hv : BVec w a len bs) (hl : len ≤ 4096) :
    Calls Try.prog 30 #[.slice a len cap] w fun e w' => ∃ N B a' c H, e = .returned (rlV N B a' (List.length H) c) ∧ Rd w' N B a' c H ∧ Below w.heap.size w w' := by
  have hb1 := one_alloc10 w (.cells #[.int .i64 0, .int .i64 0, .slice none 0 0] 35)
  have R1 := Bx.new w 35 #[.int .i64 0, .int .i64 0, .slice none 0 0]
  have l1 := R1.lt
  generalize hW1 : w.alloc (.cells #[.int .i64 0, .int .i64 0, .slice none 0 0] 35) = X1 at *
  have hD := drawRokO_any a len cap bs X1 (hv.below hb1 (Nat.le_refl _)) hl
  go_enter Try.func30, Try.ntmps30
  go_wp2_with fail
  refine hD.mono ?_
  rintro e X3 ⟨N, B, a', c, H, rfl, ⟨f, ho, hf⟩, hs, hb3⟩
  have R3 := R1.below hb3
  have r0 := R3.at 0 rfl
  have r1 := R3.at 1 rfl
  have r2 := R3.at 2 rfl
  have f0 := R3.f 0
  have f1 := R3.f 1
  have f2 := R3.f 2
  have HR : Hid (Rd (((X3.setCell ⟨w.heap.size, 0, none⟩ (.int .i64 N)).setCell ⟨w.heap.size, 1, none⟩ (.int .i64 B)).setCell ⟨w.heap.size, 2, none⟩ (.slice a' H.length c)) N B a' c H) := rd_put ho (fun b hb => by have := hf b hb; omega) hs
  have HB : Hid (Below w.heap.size w (((X3.setCell ⟨w.heap.size, 0, none⟩ (.int .i64 N)).setCell ⟨w.heap.size, 1, none⟩ (.int .i64 B)).setCell ⟨w.heap.size, 2, none⟩ (.slice a' H.length c))) := below3 (hb1.trans (hb3.mono hb1.size)) (Nat.le_refl _)
  clear ho hf R1 R3 hb1 hb3 hD
  unfold rlV
  go_wp2
  refine bodyPost_ret (v := .agg #[.int .i64 N, .int .i64 B, .slice a' H.length c]) (by simp [results, Try.results30, go_sem, r0, r1, r2]) rfl ?_
  exact ⟨N, B, a', c, H, rfl, HR.out, HB.out⟩

def lit10a : List Int := [0, 1, 3, 12, 13, -1]
def lit10b : List Int := [0, 1, 4, 12, 13, 2]
theorem lit10a_bd {i : Nat} (h : i < 6) : -1 ≤ el lit10a i ∧ el lit10a i ≤ 13 := by
  obtain rfl | rfl | rfl | rfl | rfl | rfl : i = 0 ∨ i = 1 ∨ i = 2 ∨ i = 3 ∨ i = 4 ∨ i = 5 := by omega
  all_goals decide
theorem lit10b_bd {i : Nat} (h : i < 6) : -1 ≤ el lit10b i ∧ el lit10b i ≤ 13 := by
  obtain rfl | rfl | rfl | rfl | rfl | rfl : i = 0 ∨ i = 1 ∨ i = 2 ∨ i = 3 ∨ i = 4 ∨ i = 5 := by omega
  all_goals decide
set_option maxRecDepth 100000 in
set_option maxHeartbeats 1600000 in
theorem drawNew_any (a : Option Addr) (len cap : Nat) (bs : Nat → Int) (w : World) (hv : BVec w a len bs) (hl : len ≤ 4096) :
    Calls Try.prog 32 #[.slice a len cap] w fun e w' => ∃ A B : Int, e = .returned (.tuple #[.int .i64 A, .int .i64 B]) ∧ (-1 ≤ A ∧ A ≤ 13) ∧ (-1 ≤ B ∧ B ≤ 13) ∧ Below w.heap.size w w' := by
  have hmix := mixedR
  go_enter Try.func32, Try.ntmps32
  go_wp2_with fail
  refine (newC a len cap bs w w (Below.refl _ _) hv hl).mono ?_
  rintro e X1 ⟨p, rfl, hp, C1, hb1⟩
  have hb2 := one_alloc10 X1 (.cells #[.int .i64 0, .int .i64 1, .int .i64 3, .int .i64 12, .int .i64 13, .int .i64 (-1)] 2)
  have L2 : Bx (X1.alloc (.cells #[.int .i64 0, .int .i64 1, .int .i64 3, .int .i64 12, .int .i64 13, .int .i64 (-1)] 2)) X1.heap.size 2 (arC lit10a) := Bx.new X1 2 _
  have C2 := C1.step hb2
  have lp := C1.lt
  generalize hW : X1.alloc (.cells #[.int .i64 0, .int .i64 1, .int .i64 3, .int .i64 12, .int .i64 13, .int .i64 (-1)] 2) = X2 at *
  go_wp2_with fail
  refine (belowC 6 6 rfl C2 (by omega) (by omega)).mono ?_
  rintro e X3 ⟨Y, rfl, hY, C3, hg3⟩
  have m1 := cell_arC (L2.grown hg3 (by simp; omega)) (i := Y) hY
  have hz := lit10a_bd hY
  have i1 : (Y : Int) < 6 := by omega
  have i0 : (0 : Int) ≤ (Y : Int) := by omega
  generalize el lit10a Y = A at *
  clear C1 C2 L2 hg3 hb1 hb2
  have hBB : ∀ V, Cc w V p a len cap bs → Calls Try.prog 57 #[.pointer (some ⟨p, 0, none⟩), .int .i64 6] V fun e w' => ∃ y : Nat, e = .returned (.int .i64 (y : Int)) ∧ y < 6 ∧ Cc w w' p a len cap bs ∧ V.grownBy w' (some p) := fun V h => belowC 6 6 rfl h (by omega) (by omega)
  have lp3 := C3.lt
  have L0 : ∀ V : World, Bx (V.alloc (.cells #[.int .i64 0, .int .i64 1, .int .i64 4, .int .i64 12, .int .i64 13, .int .i64 2] 2)) V.heap.size 2 (arC lit10b) := fun V => Bx.new V 2 _
  have L1 : ∀ V : World, Bx (V.alloc (.cells #[.int .i64 0, .int .i64 1, .int .i64 4, .int .i64 12, .int .i64 13, .int .i64 2] 2)).drew V.heap.size 2 (arC lit10b) := fun V => Bx.new V 2 _
  go_wp2_with fail
  clear m1 i0 i1
  go_region_law
    (go_simp; go_at_call 57; refine (hBB _ (by first | exact C3.step (Same.drewN X3 1).below | exact (C3.step (Same.drewN X3 1).below).step (one_alloc10 _ _) | exact (C3.step (one_alloc10 _ _)).step (Same.drewN _ 1).below)).mono ?_; rintro e V4 ⟨y, rfl, hy, C4, g4⟩; have j1 : (y : Int) < 6 := (by omega); have j0 : (0 : Int) ≤ (y : Int) := (by omega); have hzb := lit10b_bd hy;
      (try have n1 := cell_arC ((L1 X3).grown g4 (by simp; omega)) (i := y) hy); (try have n2 := cell_arC ((L0 X3.drew).grown g4 (by simp; omega)) (i := y) hy); have n3 := cell_arC (L0 V4) (i := y) hy; have C5 := C4.step (one_alloc10 V4 (.cells #[.int .i64 0, .int .i64 1, .int .i64 4, .int .i64 12, .int .i64 13, .int .i64 2] 2)); generalize el lit10b y = Bq at *)
  all_goals
    go_wp2
    refine bodyPost_ret (v := .tuple #[.int .i64 A, .int .i64 Bq]) (by simp [results, Try.results32, go_sem]) rfl ?_
    first
      | exact ⟨A, Bq, rfl, hz, hzb, C4.below⟩
      | exact ⟨A, Bq, rfl, hz, hzb, C5.below⟩

theorem pass_fits {N B : Int} {H : List (List Int)} (h : SmR N B H) : FitsP (chainL N B H) := by
  intro i hi
  by_cases hk : okRel N B H
  · have h1 := chain_turn hk i hi
    have h2 := hk.1
    have h3 := (okRel_small hk).1 (pat (chainL N B H) i).1.toNat (by have := hk.2.2.1; have := h1.1; omega) _ h1.2.2.1
    unfold Fits at *
    unfold I64r
    have := h1.1
    have := h1.2.1
    exact ⟨by omega, by omega, by omega, by omega⟩
  · rw [chainL, if_neg hk] at hi
    simp at hi
theorem fits_snoc {L : List Ps} {c : Ps} (h : FitsP L) (h1 : I64r c.1 ∧ I64r c.2.1 ∧ I64r c.2.2) : FitsP (L ++ [c]) := by
  intro i hi
  rw [List.length_append, List.length_singleton] at hi
  by_cases e : i < L.length
  · rw [pat_left e]; exact h i e
  · rw [pat_right (by omega), show i - L.length = 0 by omega]
    exact h1
theorem i64s (q : Int) (h1 : -1 ≤ q) (h2 : q ≤ 6) : I64r q := ⟨by omega, by omega⟩
/-- What DrawTurn holds. -/
structure DT (X1 X : World) (p r0 B3 : Nat) (a : Option Addr) (len cap : Nat) (bs : Nat → Int) (N B : Int) (a' : Option Addr) (c : Nat) (H : List (List Int)) (f : Fp) (gc oc cc : Nat) (cs : List Ps) : Prop where
  cu : Cc X1 X p a len cap bs
  res : Bx X r0 35 #[.int .i64 0, .int .i64 0, .slice none 0 0]
  box : Bx X B3 35 #[.int .i64 N, .int .i64 B, .slice a' H.length c]
  own : Cel.ow X (iicl H) (.slice a' H.length c) f
  ps : OP X gc oc cs.length cc cs
  ne : (p ≠ r0 ∧ p ≠ B3 ∧ p ≠ gc) ∧ (gc ≠ r0 ∧ gc ≠ B3 ∧ X1.heap.size ≤ gc) ∧ r0 < X1.heap.size
  fn : ∀ b, f b → b ≠ p ∧ b ≠ r0 ∧ b ≠ gc
theorem DT.drawn {X1 X X' : World} {p r0 B3 : Nat} {a : Option Addr} {len cap : Nat} {bs : Nat → Int} {N B : Int} {a' : Option Addr} {c : Nat} {H : List (List Int)} {f : Fp} {gc oc cc : Nat} {cs : List Ps} (h : DT X1 X p r0 B3 a len cap bs N B a' c H f gc oc cc cs) (hg : X.grownBy X' (some p)) (hc : Cc X1 X' p a len cap bs) : DT X1 X' p r0 B3 a len cap bs N B a' c H f gc oc cc cs :=
  ⟨hc, h.res.grown hg (by simpa using h.ne.1.1.symm), h.box.grown hg (by simpa using h.ne.1.2.1.symm), Cel.ow_wrt h.own (Wrt.of_grown hg) (fun b hb e => by cases e; exact (h.fn _ hb).1 rfl), OSl.grown h.ps hg (by simpa using h.ne.1.2.2), h.ne, h.fn⟩
theorem DT.fin {w X1 X : World} {p B3 : Nat} {a : Option Addr} {len cap : Nat} {bs : Nat → Int} {N B : Int} {a' : Option Addr} {c : Nat} {H : List (List Int)} {f : Fp} {gc oc cc : Nat} {cs : List Ps} (h : DT X1 X p w.heap.size B3 a len cap bs N B a' c H f gc oc cc cs) (hb1 : Below w.heap.size w X1) (hs : SmR N B H) {x y z : Value} :
    Rd (((X.setCell ⟨w.heap.size, 0, none⟩ x).setCell ⟨w.heap.size, 1, none⟩ y).setCell ⟨w.heap.size, 2, none⟩ z) N B a' c H ∧ PsS (((X.setCell ⟨w.heap.size, 0, none⟩ x).setCell ⟨w.heap.size, 1, none⟩ y).setCell ⟨w.heap.size, 2, none⟩ z) (some ⟨gc, oc, none⟩) cs.length cs ∧ (cs.length ≤ cc ∧ cc ≤ maxLen) ∧ Below w.heap.size w (((X.setCell ⟨w.heap.size, 0, none⟩ x).setCell ⟨w.heap.size, 1, none⟩ y).setCell ⟨w.heap.size, 2, none⟩ z) := by
  have ho : OP (((X.setCell ⟨w.heap.size, 0, none⟩ x).setCell ⟨w.heap.size, 1, none⟩ y).setCell ⟨w.heap.size, 2, none⟩ z) gc oc cs.length cc cs := osl_wrt h.ps (wrt3 X w.heap.size) (fun e => h.ne.2.1.1 e)
  exact ⟨rd_put h.own (fun b hb => (h.fn b hb).2.1) hs, it_ps (it_op (lo := gc) (hi := gc + 1) ho rfl ⟨Nat.le_refl _, by omega⟩), ⟨h.ps.le, h.ps.max⟩, below3 (hb1.trans (h.cu.below.mono hb1.size)) (Nat.le_refl _)⟩
theorem DT.app {X1 X : World} {p r0 B3 : Nat} {a : Option Addr} {len cap : Nat} {bs : Nat → Int} {N B : Int} {a' : Option Addr} {c : Nat} {H : List (List Int)} {f : Fp} {gc oc cc : Nat} {cs : List Ps} (D9 : DT X1 X p r0 B3 a len cap bs N B a' c H f gc oc cc cs) {x y z : Int} {T : TypeId} {g6 o6 c6 : Nat} {w6 : World}
    (hO6 : OSl w6 3 g6 o6 (cs.length + 1) c6 (pvs cs ++ [.int .i64 x, .int .i64 y, .int .i64 z])) (hg6 : (X.alloc (.cells #[.int .i64 x, .int .i64 y, .int .i64 z] T)).grownBy w6 (some gc)) (hat6 : g6 = gc ∨ g6 = (X.alloc (.cells #[.int .i64 x, .int .i64 y, .int .i64 z] T)).heap.size) :
    DT X1 w6 p r0 B3 a len cap bs N B a' c H f g6 o6 c6 (cs ++ [(x, y, z)]) := by
  have hbA := one_alloc10 X (.cells #[.int .i64 x, .int .i64 y, .int .i64 z] T)
  have hAs : (X.alloc (.cells #[.int .i64 x, .int .i64 y, .int .i64 z] T)).heap.size = X.heap.size + 1 := by simp
  have l9p := D9.cu.lt
  have l9r := D9.res.lt
  have l9b := D9.box.lt
  have l9s := D9.cu.below.size
  have hne := D9.ne
  exact ⟨(D9.cu.step hbA).grown hg6 (fun e => hne.1.2.2 e.symm) hne.2.1.2.2, (D9.res.below hbA).grown hg6 (by simpa using fun e : r0 = gc => hne.2.1.1 e.symm), (D9.box.below hbA).grown hg6 (by simpa using fun e : B3 = gc => hne.2.1.2.1 e.symm),
        Cel.ow_wrt (Cel.ow_below D9.own hbA) (Wrt.of_grown hg6) (fun b hb e => by cases e; exact (D9.fn _ hb).2.2 rfl),
        by rw [OP, List.length_append, List.length_singleton, pvs_snoc]; exact hO6,
        ⟨⟨hne.1.1, hne.1.2.1, by rcases hat6 with h | h <;> omega⟩, ⟨by rcases hat6 with h | h <;> omega, by rcases hat6 with h | h <;> omega, by rcases hat6 with h | h <;> omega⟩, hne.2.2⟩,
        fun b hb => ⟨(D9.fn b hb).1, (D9.fn b hb).2.1, by have := (D9.fn b hb).2.2; have := Cel.ow_lt D9.own b hb; rcases hat6 with h | h <;> omega⟩⟩
set_option maxRecDepth 100000 in
set_option maxHeartbeats 3200000 in
theorem drawTurn_any (a : Option Addr) (len cap : Nat) (bs : Nat → Int) (w : World) (hv : BVec w a len bs) (hl : len ≤ 4096) :
    Calls Try.prog 28 #[.slice a len cap] w fun e w' => ∃ N B a' c H pa pc cs, e = .returned (.tuple #[rlV N B a' (List.length H) c, .slice pa (List.length cs) pc]) ∧ Rd w' N B a' c H ∧ PsS w' pa (List.length cs) cs ∧ FitsP cs ∧ (List.length cs ≤ pc ∧ pc ≤ maxLen) ∧ List.length cs ≤ 20 ∧ Below w.heap.size w w' := by
  obtain ⟨i0, hi0, hz0, hz1, hz2⟩ := info_parts2n infoPass
  have hb1 := one_alloc10 w (.cells #[.int .i64 0, .int .i64 0, .slice none 0 0] 35)
  have R1 := Bx.new w 35 #[.int .i64 0, .int .i64 0, .slice none 0 0]
  have l1 := R1.lt
  generalize hW1 : w.alloc (.cells #[.int .i64 0, .int .i64 0, .slice none 0 0] 35) = X1 at *
  go_enter Try.func28, Try.ntmps28
  go_wp2_with fail
  refine (newC a len cap bs X1 X1 (Below.refl _ _) (hv.below hb1 (Nat.le_refl _)) hl).mono ?_
  rintro e X2 ⟨p, rfl, hp, C2, hb2⟩
  have R2 := R1.below hb2
  go_wp2_with fail
  refine (l10Draw_any p a len cap bs X1 X2 C2).mono ?_
  rintro e X3 ⟨N, B, a', c, H, rfl, ⟨f, ho, hf⟩, hs, C3, g3⟩
  have R3 := R2.grown g3 (by simp; omega)
  have hpX2 := C2.lt
  have s12 := hb2.size
  have s23 := g3.size
  have hb4 := one_alloc10 X3 (.cells #[.int .i64 N, .int .i64 B, .slice a' H.length c] 35)
  have Q4 := Bx.new X3 35 #[.int .i64 N, .int .i64 B, .slice a' H.length c]
  have R4 := R3.below hb4
  have C4 := C3.step hb4
  have ho4 := Cel.ow_below ho hb4
  have hlt4 : X3.heap.size < (X3.alloc (.cells #[.int .i64 N, .int .i64 B, .slice a' H.length c] 35)).heap.size := by simp
  unfold rlV
  go_wp2_with fail
  generalize hW4 : X3.alloc (.cells #[.int .i64 N, .int .i64 B, .slice a' H.length c] 35) = X4 at *
  generalize hB3 : X3.heap.size = B3 at *
  have hCh := chnS_any N B a' H.length c H X4 (vv_of_vw (Cel.ow_vw ho4) hs.2.2.1)
  have HFP := pass_fits hs
  have HLP := chainL_len N B H
  unfold rlV at hCh
  generalize chainL N B H = cs at *
  clear hW4 hW1 ho hb4 R1 R2 R3 C2 C3 hb2 hB3
  refine hCh.mono ?_
  rintro e X5 ⟨gc, oc, cc, rfl, hgc, hoc, hb5⟩
  have hp4 := C4.lt
  have hB3l := Q4.lt
  have hB3p : p < B3 := by have := C4.hp; omega
  have D5 : DT X1 X5 p w.heap.size B3 a len cap bs N B a' c H f gc oc cc cs :=
    ⟨C4.step hb5, R4.below hb5, Q4.below hb5, Cel.ow_below ho4 hb5, hoc, ⟨⟨by omega, by omega, by omega⟩, ⟨by omega, by omega, by omega⟩, l1⟩, fun b hb => by
      have := hf b hb
      have := Cel.ow_lt ho4 b hb
      have := hpX2
      exact ⟨by omega, by omega, by omega⟩⟩
  clear hCh C4 R4 Q4 ho4 hoc hb5 hf
  go_wp2_with fail
  refine (onceC 3 D5.cu (by omega)).mono ?_
  rintro e X6 ⟨t, rfl, C6, g6⟩
  have D6 := D5.drawn g6 C6
  clear D5 g6 C6
  cases t
  · skip
    obtain ⟨q0, q1, q2⟩ := D6.box.r3
    have r0 := D6.res.at 0 rfl
    have r1 := D6.res.at 1 rfl
    have r2 := D6.res.at 2 rfl
    have f0 := D6.res.f 0
    have f1 := D6.res.f 1
    have f2 := D6.res.f 2
    obtain ⟨e1, e2, e3, e4⟩ := D6.fin (x := .int .i64 N) (y := .int .i64 B) (z := .slice a' H.length c) hb1 hs
    have HE : Hid (Rd _ N B a' c H ∧ PsS _ (some ⟨gc, oc, none⟩) cs.length cs ∧ (cs.length ≤ cc ∧ cc ≤ maxLen) ∧ Below w.heap.size w _) := ⟨e1, e2, e3, e4⟩
    clear e1 e2 e3 e4
    go_wp2
    refine bodyPost_ret (v := .tuple #[.agg #[.int .i64 N, .int .i64 B, .slice a' H.length c], .slice (some ⟨gc, oc, none⟩) cs.length cc]) (by simp [results, Try.results28, go_sem, r0, r1, r2]) rfl ?_
    exact ⟨N, B, a', c, H, some ⟨gc, oc, none⟩, cc, cs, rfl, HE.out.1, HE.out.2.1, HFP, HE.out.2.2.1, by omega, HE.out.2.2.2⟩
  · go_wp2_with fail
    refine (fromC (-1) 6 (by omega) (by omega) (by omega) D6.cu).mono ?_
    rintro e X7 ⟨x, rfl, hx0, hx1, C7, g7⟩
    have D7 := D6.drawn g7 C7
    clear D6 g7 C7
    go_wp2_with fail
    refine (fromC (-1) 6 (by omega) (by omega) (by omega) D7.cu).mono ?_
    rintro e X8 ⟨y, rfl, hy0, hy1, C8, g8⟩
    have D8 := D7.drawn g8 C8
    clear D7 g8 C8
    go_wp2_with fail
    refine (belowC 5 5 rfl D8.cu (by omega) (by omega)).mono ?_
    rintro e X9 ⟨z, rfl, hz, C9, g9⟩
    have D9 := D8.drawn g9 C9
    clear D8 g9 C9
    have hbA := one_alloc10 X9 (.cells #[.int .i64 x, .int .i64 y, .int .i64 (z : Int)] 79)
    have hO2 : OSl (X9.alloc (.cells #[.int .i64 x, .int .i64 y, .int .i64 (z : Int)] 79)) 3 gc oc cs.length cc (pvs cs) := OSl.below D9.ps hbA D9.ps.blk
    go_wp2_with (at_builtin; refine wpList_append_os _ rfl _ _ _ rfl 79 i0 _ 3 24 Try.underlying36 hi0 hz0 hz1 hz2 rfl (by omega) gc oc cs.length cc _ rfl hO2 ⟨X9.heap.size, 0, none⟩ 1 1 [.int .i64 x, .int .i64 y, .int .i64 (z : Int)] rfl rfl (World.news_of_block (cs := #[.int .i64 x, .int .i64 y, .int .i64 (z : Int)]) (t := 79) (fr := (0, 0)) (heap_alloc_new _ _)) (by simp [Value.oneCell']) (by unfold maxLen; omega) (by omega) ?_; intro g6 o6 c6 w6 hO6 hg6 hat6; have D6 := D9.app hO6 hg6 hat6; obtain ⟨q0, q1, q2⟩ := D6.box.r3; have r0 := D6.res.at 0 rfl; have r1 := D6.res.at 1 rfl; have r2 := D6.res.at 2 rfl; have f0 := D6.res.f 0; have f1 := D6.res.f 1; have f2 := D6.res.f 2)
    have hFP2 : FitsP (cs ++ [(x, y, (z : Int))]) := fits_snoc HFP ⟨i64s x hx0 hx1, i64s y hy0 hy1, i64s (z : Int) (by omega) (by omega)⟩
    have hl2 : (cs ++ [(x, y, (z : Int))]).length ≤ 20 := by simp; omega
    have HL3 : Hid (cs.length + 1 = (cs ++ [(x, y, (z : Int))]).length) := by simp [Hid]
    generalize cs ++ [(x, y, (z : Int))] = ds at *
    clear D9 hO6 hg6 hat6 hO2 hbA
    obtain ⟨e1, e2, e3, e4⟩ := D6.fin (x := .int .i64 N) (y := .int .i64 B) (z := .slice a' H.length c) hb1 hs
    have HE : Hid (Rd _ N B a' c H ∧ PsS _ (some ⟨g6, o6, none⟩) ds.length ds ∧ (ds.length ≤ c6 ∧ c6 ≤ maxLen) ∧ Below w.heap.size w _) := ⟨e1, e2, e3, e4⟩
    clear e1 e2 e3 e4
    try go_wp2
    refine bodyPost_ret (v := .tuple #[.agg #[.int .i64 N, .int .i64 B, .slice a' H.length c], .slice (some ⟨g6, o6, none⟩) (cs.length + 1) c6]) (by simp [results, Try.results28, go_sem, r0, r1, r2]) rfl ?_
    exact ⟨N, B, a', c, H, some ⟨g6, o6, none⟩, c6, ds, by rw [← HL3.out]; rfl, HE.out.1, HE.out.2.1, hFP2, HE.out.2.2.1, by omega, HE.out.2.2.2⟩
end Go.Proofs.Ytdniajogojlmdaa

/-
  The draw DrawFull of stage 10.
-/
namespace Go.Proofs.Ytdniajogojlmdaa
set_option linter.unusedVariables false
set_option linter.unusedSimpArgs false
open Go.RowKit Go.Sort

theorem grown_blw2 {w w' : World} {r : Option Nat} (h : Below w.heap.size w w') : w.grownBy w' r := grown_blw h r
theorem fin10f {w wr : World} {p B3 : Nat} {a : Option Addr} {len cap : Nat} {bs : Nat → Int} {N B : Int} {a' : Option Addr} {c : Nat} {H : List (List Int)} {M : Nat} (h : D10 w w wr p w.heap.size B3 a len cap bs N B a' c H M) (hs : SmR N B H) {x y z : Value} :
    Rd (((wr.setCell ⟨w.heap.size, 0, none⟩ x).setCell ⟨w.heap.size, 1, none⟩ y).setCell ⟨w.heap.size, 2, none⟩ z) N B a' c H ∧ Below w.heap.size w (((wr.setCell ⟨w.heap.size, 0, none⟩ x).setCell ⟨w.heap.size, 1, none⟩ y).setCell ⟨w.heap.size, 2, none⟩ z) := by
  obtain ⟨f, h1, h2⟩ := h.own
  exact ⟨rd_put h1 (fun b hb => by have := h2 b hb; omega) hs, below3 h.cc.below (Nat.le_refl _)⟩
theorem chain_ok {N B : Int} {H : List (List Int)} (h : 0 < (chainL N B H).length) : okRel N B H := by
  by_cases hk : okRel N B H
  · exact hk
  · rw [chainL, if_neg hk] at h
    simp at h
set_option maxRecDepth 100000 in
set_option maxHeartbeats 3200000 in
theorem drawFull_any (a : Option Addr) (len cap : Nat) (bs : Nat → Int) (w : World) (hv : BVec w a len bs) (hl : len ≤ 4096) :
    Calls Try.prog 31 #[.slice a len cap] w fun e w' => ∃ N B a' c H, e = .returned (rlV N B a' (List.length H) c) ∧ Rd w' N B a' c H ∧ Below w.heap.size w w' := by
  have hb1 := one_alloc10 w (.cells #[.int .i64 0, .int .i64 0, .slice none 0 0] 35)
  have R1 := Bx.new w 35 #[.int .i64 0, .int .i64 0, .slice none 0 0]
  have l1 := R1.lt
  have hmix := mixedR
  generalize hW1 : w.alloc (.cells #[.int .i64 0, .int .i64 0, .slice none 0 0] 35) = X1 at *
  go_enter Try.func31, Try.ntmps31
  go_wp2_with fail
  refine (newC a len cap bs w X1 hb1 hv hl).mono ?_
  rintro e X2 ⟨p, rfl, hp, C2, hb2⟩
  have R2 := R1.below hb2
  go_wp2_with fail
  refine (l10Draw_any p a len cap bs w X2 C2).mono ?_
  rintro e X3 ⟨N, B, a', c, H, rfl, ⟨f, ho, hf⟩, hs, C3, g3⟩
  have R3 := R2.grown g3 (by simp; omega)
  have hpX2 := C2.lt
  have s12 := hb2.size
  have s23 := g3.size
  have hb4 := one_alloc10 X3 (.cells #[.int .i64 N, .int .i64 B, .slice a' H.length c] 35)
  have Q4 := Bx.new X3 35 #[.int .i64 N, .int .i64 B, .slice a' H.length c]
  have hs4 : (X3.alloc (.cells #[.int .i64 N, .int .i64 B, .slice a' H.length c] 35)).heap.size = X3.heap.size + 1 := by simp
  have D4 : D10 w w (X3.alloc (.cells #[.int .i64 N, .int .i64 B, .slice a' H.length c] 35)) p w.heap.size X3.heap.size a len cap bs N B a' c H (X3.heap.size + 1) :=
    ⟨C3.step hb4, grown_blw2 (C3.step hb4).below, R3.below hb4, Q4, ⟨f, Cel.ow_below ho hb4, fun b hb => by
      have := hf b hb
      have := Cel.ow_lt ho b hb
      exact ⟨by omega, by omega, by omega, by omega⟩⟩, ⟨.inr ⟨by omega, by omega⟩, by omega, by omega⟩, by omega, Nat.le_refl _, Nat.le_refl _⟩
  unfold rlV
  go_wp2_with fail
  generalize hW4 : X3.alloc (.cells #[.int .i64 N, .int .i64 B, .slice a' H.length c] 35) = X4 at *
  generalize hB3 : X3.heap.size = B3 at *
  refine (onceC 2 D4.cc (by omega)).mono ?_
  rintro e X5 ⟨t, rfl, C5, g5⟩
  have D5 := D4.drawn g5 C5
  clear hW4 hW1 ho hf hb4 R1 R2 R3 C2 C3 hb2 hB3 D4 g5 C5 Q4
  cases t
  · skip
    obtain ⟨q0, q1, q2⟩ := D5.box.r3
    have r0 := D5.res.at 0 rfl
    have r1 := D5.res.at 1 rfl
    have r2 := D5.res.at 2 rfl
    have f0 := D5.res.f 0
    have f1 := D5.res.f 1
    have f2 := D5.res.f 2
    have HE : Hid (Rd _ N B a' c H ∧ Below w.heap.size w _) := fin10f (x := .int .i64 N) (y := .int .i64 B) (z := .slice a' H.length c) D5 hs
    go_wp2
    refine bodyPost_ret (v := .agg #[.int .i64 N, .int .i64 B, .slice a' H.length c]) (by simp [results, Try.results31, go_sem, r0, r1, r2]) rfl ?_
    exact ⟨N, B, a', c, H, rfl, HE.out.1, HE.out.2⟩
  · have DS : Hid (D10 w w X5 p w.heap.size B3 a len cap bs N B a' c H (B3 + 1) ∧ SmR N B H) := ⟨D5, hs⟩
    clear D5 hs
    go_wp2_with fail
    go_loopw [5] (fun n wr => ∃ (k : Nat) (N B : Int) (a' : Option Addr) (c : Nat) (H : List (List Int)) (M : Nat), k ≤ 12 ∧ n = .int .i64 (k : Int) ∧ D10 w w wr p w.heap.size B3 a len cap bs N B a' c H M ∧ SmR N B H) (fun n _ => 12 - (intOf n).toNat)
    case atStart => exact ⟨0, _, _, _, _, _, _, by omega, rfl, DS.out.1, DS.out.2⟩
    case round =>
      clear DS
      obtain ⟨k, N, B, a', c, H, M, hk, rfl, hD, hs⟩ := hrel
      by_cases hk12 : k < 12
      · have hkI : (k : Int) < 12 := by omega
        have hCh := chnS_any N B a' H.length c H wr (hD.vv hs.2.2.1)
        have hcl := chainL_len N B H
        have HOK : Hid (0 < (chainL N B H).length → okRel N B H) := chain_ok
        have HT : Hid (okRel N B H → ∀ Y ca cc, Below wr.heap.size wr Y → PsS Y ca (chainL N B H).length (chainL N B H) → Calls Try.prog 34 #[.agg #[.int .i64 N, .int .i64 B, .slice a' H.length c], .slice ca (chainL N B H).length cc] Y fun e w' => ∃ a5 c5, e = .returned (.tuple #[.agg #[.int .i64 N, .int .i64 B, .slice a5 (outs H (chainL N B H) (chainL N B H).length).length c5], .bool true]) ∧ NewO Y w' (iicl (outs H (chainL N B H) (chainL N B H).length)) (.slice a5 (outs H (chainL N B H) (chainL N B H).length).length c5)) := fun hok Y ca cc hY hp => by
          have := turnS_any N B a' H.length c H ca (chainL N B H).length cc (chainL N B H) Y ((hD.step hY).vv hs.2.2.1) hp (by omega)
          rw [turnL, if_pos ⟨hok, chain_turn hok⟩] at this
          exact this
        have HK2 : Hid (okRel N B H → okRel N B (outs H (chainL N B H) (chainL N B H).length)) := fun hok => outs_ok hok (chain_turn hok) _ (Nat.le_refl _)
        have hCh2 : ∀ Y, Below wr.heap.size wr Y → Calls Try.prog 38 #[.agg #[.int .i64 N, .int .i64 B, .slice a' H.length c]] Y fun e w' => AnsP Y w' e (chainL N B H) := fun Y hY => chnS_any N B a' H.length c H Y ((hD.step hY).vv hs.2.2.1)
        unfold rlV at hCh
        generalize chainL N B H = cs at *
        generalize outs H cs cs.length = H2 at *
        obtain ⟨d0, d1, d2⟩ := hD.box.r3
        go_wp2_with fail
        refine hCh.mono ?_
        rintro e W1 ⟨gq, oq, cq, rfl, hgq, hoq, hbq⟩
        have D1 := hD.step hbq
        have W1s := hbq.size
        clear d0 d1 d2 hCh hoq hgq
        by_cases h0 : 0 < cs.length
        · have h0I : (0 : Int) < (cs.length : Int) := by omega
          have hok := HOK.out h0
          have hTu := HT.out hok
          have hok2 := HK2.out hok
          clear HT HK2 HOK hD
          obtain ⟨q0, q1, q2⟩ := D1.box.r3
          go_wp2_with fail
          refine gt_begin (S := fun X : World => X.cell? ⟨B3, 0, none⟩ = some (.int .i64 N) ∧ X.cell? ⟨B3, 1, none⟩ = some (.int .i64 B) ∧ X.cell? ⟨B3, 2, none⟩ = some (.slice a' H.length c)) 7 hmix (by kernel_rfl) ?_
          have hHeld : (fun X : World => X.cell? ⟨B3, 0, none⟩ = some (.int .i64 N) ∧ X.cell? ⟨B3, 1, none⟩ = some (.int .i64 B) ∧ X.cell? ⟨B3, 2, none⟩ = some (.slice a' H.length c)) W1.drew := ⟨q0, q1, q2⟩
          refine gt_take (i := 0) (v := ?_) rfl (by kernel_rfl) (by kernel_rfl) (by kernel_rfl) (by kernel_rfl) (fun _ _ _ h => h) (Or.inl ⟨by rfl, ?_⟩) hHeld ?_
          rotate_left
          · (intro X hSX; (try dsimp only at hSX); obtain ⟨g0, g1, g2⟩ := hSX; go_simp; try with_reducible rfl)
          try simp only [Act.put, List.setIfInBounds_toArray, List.set_cons_zero, List.set_cons_succ]
          refine gt_take (i := 1) (v := ?_) rfl (by kernel_rfl) (by kernel_rfl) (by kernel_rfl) (by kernel_rfl) (fun _ _ _ h => h) (Or.inl ⟨by rfl, ?_⟩) hHeld ?_
          rotate_left
          · (intro X hSX; (try dsimp only at hSX); obtain ⟨g0, g1, g2⟩ := hSX; go_simp; try with_reducible rfl)
          try simp only [Act.put, List.setIfInBounds_toArray, List.set_cons_zero, List.set_cons_succ]
          refine gt_one (i := 2) rfl (by kernel_rfl) (by kernel_rfl) (fun K hK => ?_)
          go_simp
          go_at_call 38
          refine (hCh2 W1.drew (hbq.trans ((Same.drewN W1 1).below.mono W1s))).mono ?_
          rintro e V2 ⟨g2, o2, c2, rfl, hg2, ho2, hb2⟩
          have bV2 : Below W1.heap.size W1 V2 := (Same.drewN W1 1).below.trans (hb2.mono (Nat.le_refl _))
          have D2 := D1.step bV2
          refine hK.out _ _ D2.box.r3 (fun hHeld2 => ?_)
          clear hK hHeld
          have hHeld := hHeld2
          try simp only [Act.put, List.setIfInBounds_toArray, List.set_cons_zero, List.set_cons_succ]
          have hPs : PsS V2 (some ⟨g2, o2, none⟩) cs.length cs := it_ps (it_op (lo := g2) (hi := g2 + 1) ho2 rfl ⟨Nat.le_refl _, by omega⟩)
          refine gt_one (i := 3) rfl (by kernel_rfl) (by kernel_rfl) (fun K hK => ?_)
          go_simp
          go_at_call 34
          refine (hTu V2 _ c2 (hbq.trans (bV2.mono W1s)) hPs).mono ?_
          rintro e V3 ⟨a5, c5, rfl, f5, ho5, hf5, hb5⟩
          have bV3 : Below W1.heap.size W1 V3 := bV2.trans (hb5.mono bV2.size)
          have D3 := D1.step bV3
          refine hK.out _ _ D3.box.r3 (fun hHeld3 => ?_)
          clear hK hHeld hHeld2
          have hHeld := hHeld3
          try simp only [Act.put, List.setIfInBounds_toArray, List.set_cons_zero, List.set_cons_succ]
          refine gt_pure (i := 4) (v := ?_) rfl (by kernel_rfl) (by kernel_rfl) (by kernel_rfl) (fun _ _ _ h => h) (Or.inl ⟨by rfl, ?_⟩) ?_
          rotate_left
          · (intro X; go_simp; try with_reducible rfl)
          try simp only [Act.put, List.setIfInBounds_toArray, List.set_cons_zero, List.set_cons_succ]
          refine gt_pure (i := 5) (v := ?_) rfl (by kernel_rfl) (by kernel_rfl) (by kernel_rfl) (fun _ _ _ h => h) (Or.inl ⟨by rfl, ?_⟩) ?_
          rotate_left
          · (intro X; go_simp; try with_reducible rfl)
          try simp only [Act.put, List.setIfInBounds_toArray, List.set_cons_zero, List.set_cons_succ]
          refine gt_pure (i := 6) (v := ?_) rfl (by kernel_rfl) (by kernel_rfl) (by kernel_rfl) (fun _ _ _ h => h) (Or.inl ⟨by rfl, ?_⟩) ?_
          rotate_left
          · (intro X; go_simp; try with_reducible rfl)
          try simp only [Act.put, List.setIfInBounds_toArray, List.set_cons_zero, List.set_cons_succ]
          have tf0 := D3.box.f 0
          have tf1 := D3.box.f 1
          have tf2 := D3.box.f 2
          obtain ⟨t0, t1, t2⟩ := D3.box.r3
          have s2 := bV2.size
          have DN : Hid (D10 w w (((V3.setCell ⟨B3, 0, none⟩ (.int .i64 N)).setCell ⟨B3, 1, none⟩ (.int .i64 B)).setCell ⟨B3, 2, none⟩ (.slice a5 H2.length c5)) p w.heap.size B3 a len cap bs N B a5 c5 H2 V3.heap.size) := D1.put bV3 ho5 (fun b hb => by have := hf5 b hb; omega)
          refine gt_last rfl (by kernel_rfl) (by kernel_rfl) (fun K hK => ?_)
          go_simp
          refine hK.out _ _ ?_
          clear hHeld hHeld3 t0 t1 t2 tf0 tf1 tf2 hCh2 hTu D2 D3 hb2 hb5 ho2 ho5 q0 q1 q2 D1
          go_wp2
          go_roundw
          case rel => exact ⟨k + 1, N, B, a5, c5, H2, _, by omega, by go_num, DN.out, okRel_sm hok2⟩
          case measure => simp [intOf]; omega
        · have h0I : ¬ ((0 : Int) < (cs.length : Int)) := by omega
          clear HT HK2 HOK hCh2 hD
          obtain ⟨q0, q1, q2⟩ := D1.box.r3
          have r0 := D1.res.at 0 rfl
          have r1 := D1.res.at 1 rfl
          have r2 := D1.res.at 2 rfl
          have f0 := D1.res.f 0
          have f1 := D1.res.f 1
          have f2 := D1.res.f 2
          have HE : Hid (Rd _ N B a' c H ∧ Below w.heap.size w _) := fin10f (x := .int .i64 N) (y := .int .i64 B) (z := .slice a' H.length c) D1 hs
          go_wp2
          refine bodyPost_ret (v := .agg #[.int .i64 N, .int .i64 B, .slice a' H.length c]) (by simp [results, Try.results31, go_sem, r0, r1, r2]) rfl ?_
          exact ⟨N, B, a', c, H, rfl, HE.out.1, HE.out.2⟩
      · have hkI : ¬ ((k : Int) < 12) := by omega
        obtain ⟨q0, q1, q2⟩ := hD.box.r3
        have r0 := hD.res.at 0 rfl
        have r1 := hD.res.at 1 rfl
        have r2 := hD.res.at 2 rfl
        have f0 := hD.res.f 0
        have f1 := hD.res.f 1
        have f2 := hD.res.f 2
        have HE : Hid (Rd _ N B a' c H ∧ Below w.heap.size w _) := fin10f (x := .int .i64 N) (y := .int .i64 B) (z := .slice a' H.length c) hD hs
        go_wp2
        refine bodyPost_ret (v := .agg #[.int .i64 N, .int .i64 B, .slice a' H.length c]) (by simp [results, Try.results31, go_sem, r0, r1, r2]) rfl ?_
        exact ⟨N, B, a', c, H, rfl, HE.out.1, HE.out.2⟩
end Go.Proofs.Ytdniajogojlmdaa
