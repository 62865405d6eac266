/-
  Several texts in one: Dq1.
-/
import Derived.Test.YthlaaldicmfcnaaKr
import Derived.Deep.RegionHeld3
/-
  The draws DrawJoined, DrawLacking and DrawSplit of stage 11.
-/
namespace Go.Proofs.Ythlaaldicmfcnaa
set_option linter.unusedVariables false
set_option linter.unusedSimpArgs false
open Go.RowKit Go.Sort

/-- A drawn list of blocks, to be read. -/
structure Rd11 (w : World) (a : Option Addr) (c : Nat) (L : List Blk) : Prop where
  bs : BkS w a L.length L
  cp : L.length ≤ c ∧ c ≤ maxLen
  sm : SmB L
theorem Rd11.below {w w' : World} {a : Option Addr} {c : Nat} {L : List Blk} (h : Rd11 w a c L) (hb : Below w.heap.size w w') : Rd11 w' a c L := ⟨h.bs.below hb, h.cp, h.sm⟩
theorem D11.rd {w X wr : World} {p : Nat} {a : Option Addr} {len cap : Nat} {bs : Nat → Int} {g off c : Nat} {L : List Blk} (h : D11 w X wr p a len cap bs g off c L) : Rd11 wr (some ⟨g, off, none⟩) c L :=
  ⟨it_bs (it_ob (lo := g) (hi := g + 1) h.ob rfl ⟨Nat.le_refl _, by omega⟩), ⟨h.ob.le, h.ob.max⟩, h.sm⟩
attribute [local irreducible] sv
set_option maxHeartbeats 800000 in
theorem drawJoi_any (a : Option Addr) (len cap : Nat) (bs : Nat → Int) (w : World) (hv : BVec w a len bs) (hl : len ≤ 4096) :
    Calls Try.prog 28 #[.slice a len cap] w fun e w' => ∃ a' c L, e = .returned (.slice a' (List.length L) c) ∧ Rd11 w' a' c L ∧ Below w.heap.size w w' := by
  go_enter Try.func28, Try.ntmps28
  go_wp2_with fail
  refine (newC a len cap bs w w (Below.refl _ _) hv hl).mono ?_
  rintro e X1 ⟨p, rfl, hp, C1, hb1⟩
  go_wp2_with fail
  refine (l11Draw_any p a len cap bs w X1 C1).mono ?_
  rintro e X2 ⟨g, off, c, L, rfl, D⟩
  have HE : Hid (Rd11 X2 (some ⟨g, off, none⟩) c L ∧ Below w.heap.size w X2) := ⟨D.rd, D.cu.below⟩
  clear D C1 hb1
  go_wp2
  go_ret
  exact ⟨_, c, L, rfl, HE.out.1, HE.out.2⟩
def lit11 : List Int := [0, 1, 5, 12, 13]
theorem lit11_bd {i : Nat} (h : i < 5) : 0 ≤ el lit11 i ∧ el lit11 i ≤ 13 := by
  obtain rfl | rfl | rfl | rfl | rfl : i = 0 ∨ i = 1 ∨ i = 2 ∨ i = 3 ∨ i = 4 := by omega
  all_goals decide
set_option maxRecDepth 100000 in
set_option maxHeartbeats 1600000 in
theorem drawLac_any (a : Option Addr) (len cap : Nat) (bs : Nat → Int) (w : World) (hv : BVec w a len bs) (hl : len ≤ 4096) :
    Calls Try.prog 30 #[.slice a len cap] w fun e w' => ∃ a' c L T, e = .returned (.tuple #[.slice a' (List.length L) c, .int .i64 T]) ∧ Rd11 w' a' c L ∧ (-1000 ≤ T ∧ T ≤ 1000) ∧ Below w.heap.size w w' := by
  have hmix := mixed11
  go_enter Try.func30, Try.ntmps30
  go_wp2_with fail
  refine (newC a len cap bs w w (Below.refl _ _) hv hl).mono ?_
  rintro e X1 ⟨p, rfl, hp, C1, hb1⟩
  go_wp2_with fail
  refine (l11Draw_any p a len cap bs w X1 C1).mono ?_
  rintro e X2 ⟨g, off, c, L, rfl, D⟩
  clear C1 hb1
  have hL14 := D.sm.1
  have TAIL : ∀ X3, D11 w X1 X3 p a len cap bs g off c L → Hid (D11 w X1 X3 p a len cap bs g off c L) := fun _ h => h
  by_cases hz : 0 < L.length
  · have z1 : (0 : Int) < (L.length : Int) := by omega
    go_wp2_with fail
    refine (onceC 4 D.cu (by omega)).mono ?_
    rintro e X3 ⟨t, rfl, C3, g3⟩
    have D3 := D.drawn g3 C3
    clear D g3
    cases t
    · obtain ⟨⟨a0, a1, a2⟩, _⟩ := D3.cells (k := 0) hz
      simp only [Nat.zero_mul, Nat.add_zero] at a1
      have hs0 := (D3.sm.2 _ (bat_mem (L := L) (i := 0) hz)).2.1
      have HE : Hid (∀ m, Rd11 (X3.drewN m) (some ⟨g, off, none⟩) c L ∧ Below w.heap.size w (X3.drewN m)) := fun m => ⟨D3.rd.below (belowN (Below.refl _ _)), belowN D3.cu.below⟩
      generalize (bat L 0).2.1 = T at *
      clear D3 C3 a0 a2
      go_wp2_with fail
      go_quiet (fail)
      go_wp2
      refine bodyPost_ret (v := .tuple #[.slice (some ⟨g, off, none⟩) L.length c, .int .i64 T]) (by simp [results, Try.results30, go_sem]) rfl ?_
      exact ⟨_, c, L, T, rfl, (HE.out _).1, hs0, (HE.out _).2⟩
    · have lp3 := C3.lt
      have hBB : ∀ V, Cc w V p a len cap bs → Calls Try.prog 46 #[.pointer (some ⟨p, 0, none⟩), .int .i64 5] V fun e w' => ∃ y : Nat, e = .returned (.int .i64 (y : Int)) ∧ y < 5 ∧ Cc w w' p a len cap bs ∧ V.grownBy w' (some p) := fun V h => belowC 5 5 rfl h (by omega) (by omega)
      have L0 : ∀ V : World, Bx (V.alloc (.cells #[.int .i64 0, .int .i64 1, .int .i64 5, .int .i64 12, .int .i64 13] 2)) V.heap.size 2 (arC lit11) := fun V => Bx.new V 2 _
      have L1 : ∀ V : World, Bx (V.alloc (.cells #[.int .i64 0, .int .i64 1, .int .i64 5, .int .i64 12, .int .i64 13] 2)).drew V.heap.size 2 (arC lit11) := fun V => Bx.new V 2 _
      have LD : Hid (D11 w X1 X3 p a len cap bs g off c L) := D3
      have RD : ∀ V, X3.grownBy V (some p) → Cc w V p a len cap bs → Hid (Rd11 V (some ⟨g, off, none⟩) c L) := fun V h1 h2 => (LD.out.drawn h1 h2).rd
      have gd : X3.grownBy X3.drew (some p) := grown_drewN (grown_refl _ _) 1
      clear D3
      go_wp2_with fail
      go_region_law
        (go_simp; go_at_call 46; refine (hBB _ (by first | exact C3.step (Same.drewN X3 1).below | exact (C3.step (Same.drewN X3 1).below).step (one_alloc10 _ _) | exact (C3.step (one_alloc10 _ _)).step (Same.drewN _ 1).below)).mono ?_; rintro e V4 ⟨y, rfl, hy, C4, g4⟩; have j1 : (y : Int) < 5 := (by omega); have j0 : (0 : Int) ≤ (y : Int) := (by omega); have hzb := lit11_bd hy;
          (try have n1 := cell_arC ((L1 X3).grown g4 (by simp; omega)) (i := y) hy); (try have n2 := cell_arC ((L0 X3.drew).grown g4 (by simp; omega)) (i := y) hy); have n3 := cell_arC (L0 V4) (i := y) hy; have C5 := C4.step (one_alloc10 V4 (.cells #[.int .i64 0, .int .i64 1, .int .i64 5, .int .i64 12, .int .i64 13] 2)); (try have rA := RD _ (grown_trans gd g4) C4); (try have rA := RD _ (grown_trans (grown_trans gd (World.grownBy_alloc _ _ _)) g4) C4); (try have rA := RD _ (grown_trans (grown_drewN (World.grownBy_alloc X3 _ _) 1) g4) C4); have rB := rA.out.below (one_alloc10 V4 (.cells #[.int .i64 0, .int .i64 1, .int .i64 5, .int .i64 12, .int .i64 13] 2)); generalize el lit11 y = Bq at *)
      all_goals
        go_wp2
        refine bodyPost_ret (v := .tuple #[.slice (some ⟨g, off, none⟩) L.length c, .int .i64 Bq]) (by simp [results, Try.results30, go_sem]) rfl ?_
        first
          | exact ⟨_, c, L, Bq, rfl, rA.out, ⟨by omega, by omega⟩, C4.below⟩
          | exact ⟨_, c, L, Bq, rfl, rB, ⟨by omega, by omega⟩, C5.below⟩
  · have z1 : ¬ ((0 : Int) < (L.length : Int)) := by omega
    have D3 := D
    have C3 := D.cu
    clear D
    generalize X2 = X3 at *
    have lp3 := C3.lt
    have hBB : ∀ V, Cc w V p a len cap bs → Calls Try.prog 46 #[.pointer (some ⟨p, 0, none⟩), .int .i64 5] V fun e w' => ∃ y : Nat, e = .returned (.int .i64 (y : Int)) ∧ y < 5 ∧ Cc w w' p a len cap bs ∧ V.grownBy w' (some p) := fun V h => belowC 5 5 rfl h (by omega) (by omega)
    have L0 : ∀ V : World, Bx (V.alloc (.cells #[.int .i64 0, .int .i64 1, .int .i64 5, .int .i64 12, .int .i64 13] 2)) V.heap.size 2 (arC lit11) := fun V => Bx.new V 2 _
    have L1 : ∀ V : World, Bx (V.alloc (.cells #[.int .i64 0, .int .i64 1, .int .i64 5, .int .i64 12, .int .i64 13] 2)).drew V.heap.size 2 (arC lit11) := fun V => Bx.new V 2 _
    have LD : Hid (D11 w X1 X3 p a len cap bs g off c L) := D3
    have RD : ∀ V, X3.grownBy V (some p) → Cc w V p a len cap bs → Hid (Rd11 V (some ⟨g, off, none⟩) c L) := fun V h1 h2 => (LD.out.drawn h1 h2).rd
    have gd : X3.grownBy X3.drew (some p) := grown_drewN (grown_refl _ _) 1
    clear D3
    go_wp2_with fail
    go_region_law
      (go_simp; go_at_call 46; refine (hBB _ (by first | exact C3.step (Same.drewN X3 1).below | exact (C3.step (Same.drewN X3 1).below).step (one_alloc10 _ _) | exact (C3.step (one_alloc10 _ _)).step (Same.drewN _ 1).below)).mono ?_; rintro e V4 ⟨y, rfl, hy, C4, g4⟩; have j1 : (y : Int) < 5 := (by omega); have j0 : (0 : Int) ≤ (y : Int) := (by omega); have hzb := lit11_bd hy;
        (try have n1 := cell_arC ((L1 X3).grown g4 (by simp; omega)) (i := y) hy); (try have n2 := cell_arC ((L0 X3.drew).grown g4 (by simp; omega)) (i := y) hy); have n3 := cell_arC (L0 V4) (i := y) hy; have C5 := C4.step (one_alloc10 V4 (.cells #[.int .i64 0, .int .i64 1, .int .i64 5, .int .i64 12, .int .i64 13] 2)); (try have rA := RD _ (grown_trans gd g4) C4); (try have rA := RD _ (grown_trans (grown_trans gd (World.grownBy_alloc _ _ _)) g4) C4); (try have rA := RD _ (grown_trans (grown_drewN (World.grownBy_alloc X3 _ _) 1) g4) C4); have rB := rA.out.below (one_alloc10 V4 (.cells #[.int .i64 0, .int .i64 1, .int .i64 5, .int .i64 12, .int .i64 13] 2)); generalize el lit11 y = Bq at *)
    all_goals
      go_wp2
      refine bodyPost_ret (v := .tuple #[.slice (some ⟨g, off, none⟩) L.length c, .int .i64 Bq]) (by simp [results, Try.results30, go_sem]) rfl ?_
      first
        | exact ⟨_, c, L, Bq, rfl, rA.out, ⟨by omega, by omega⟩, C4.below⟩
        | exact ⟨_, c, L, Bq, rfl, rB, ⟨by omega, by omega⟩, C5.below⟩
def lit11s : List Int := [0, 1, 2, 3, 5, 100, 101, -1]
theorem lit11s_bd {i : Nat} (h : i < 8) : -1 ≤ el lit11s i ∧ el lit11s i ≤ 101 := by
  obtain rfl | rfl | rfl | rfl | rfl | rfl | rfl | rfl : i = 0 ∨ i = 1 ∨ i = 2 ∨ i = 3 ∨ i = 4 ∨ i = 5 ∨ i = 6 ∨ i = 7 := by omega
  all_goals decide
theorem make_by (n : Nat) (hn : n ≤ 1048576) (w : World) :
    (Instr.makeSlice 22 (.int .i64 (n : Int)) (.int .i64 (n : Int))).run Try.prog w = .ok (.slice (some ⟨w.heap.size, 0, none⟩) n n) (w.alloc (.cells (madeCells #[.int .u8 0] n) 5)) := by
  obtain ⟨i, hi, hz, hs, hb⟩ := info_parts Try.info5
  have hr := run_make (P := Try.prog) w 22 5 i _ Try.underlying22 hi hz .i64 .i64 n n (by omega) (Int.le_refl _) (by rw [hb]; omega) (by omega)
  simp only [Int.toNat_natCast, hs, Nat.mul_one] at hr
  exact hr
theorem by_made (w : World) (n : Nat) (hn : n ≤ 1048576) : OBy (w.alloc (.cells (madeCells #[.int .u8 0] n) 5)) w.heap.size 0 n n (List.replicate n 0) := by
  have h := osl_made w #[.int .u8 0] 1 n 5 rfl (by omega) (by unfold maxLen; omega)
  have e : bys (List.replicate n 0) = (List.replicate n (#[Value.int .u8 0] : Array Value).toList).flatten := by
    simp only [bys, List.map_replicate]
    clear h hn
    induction n with
    | zero => rfl
    | succ n ih => rw [List.replicate_succ, List.replicate_succ, List.flatten_cons, ← ih]; rfl
  unfold OBy
  rw [e]
  rw [Nat.mul_one] at h
  exact h
set_option maxRecDepth 100000 in
set_option maxHeartbeats 1600000 in
theorem drawSpl_any (a : Option Addr) (len cap : Nat) (bs : Nat → Int) (w : World) (hv : BVec w a len bs) (hl : len ≤ 4096) :
    Calls Try.prog 26 #[.slice a len cap] w fun e w' => ∃ (l : List UInt8) (z : Int), e = .returned (.tuple #[.string (sv l), .int .i64 z]) ∧ l.length ≤ 2000 ∧ (-1 ≤ z ∧ z ≤ 101) ∧ Below w.heap.size w w' := by
  have hmix := mixed11
  go_enter Try.func26, Try.ntmps26
  go_wp2_with fail
  refine (newC a len cap bs w w (Below.refl _ _) hv hl).mono ?_
  rintro e X1 ⟨p, rfl, hp, C1, hb1⟩
  clear hb1
  go_wp2_with fail
  refine (onceC 10 C1 (by omega)).mono ?_
  rintro e X3 ⟨t, rfl, C3, g3⟩
  clear g3 C1
  have lp3 := C3.lt
  cases t
  · have hTx : ∀ V, Cc w V p a len cap bs → Calls Try.prog 63 #[.pointer (some ⟨p, 0, none⟩), .int .i64 16] V fun e w' => ∃ l : List UInt8, e = .returned (.string (sv l)) ∧ l.length ≤ 16 ∧ Cc w w' p a len cap bs ∧ V.grownBy w' (some p) := fun V h => textC 16 16 rfl (by omega) h
    have hBB : ∀ V, Cc w V p a len cap bs → Calls Try.prog 46 #[.pointer (some ⟨p, 0, none⟩), .int .i64 8] V fun e w' => ∃ y : Nat, e = .returned (.int .i64 (y : Int)) ∧ y < 8 ∧ Cc w w' p a len cap bs ∧ V.grownBy w' (some p) := fun V h => belowC 8 8 rfl h (by omega) (by omega)
    have L0 : ∀ V : World, Bx (V.alloc (.cells #[.int .i64 0, .int .i64 1, .int .i64 2, .int .i64 3, .int .i64 5, .int .i64 100, .int .i64 101, .int .i64 (-1)] 2)) V.heap.size 2 (arC lit11s) := fun V => Bx.new V 2 _
    have L1 : ∀ V : World, Bx (V.alloc (.cells #[.int .i64 0, .int .i64 1, .int .i64 2, .int .i64 3, .int .i64 5, .int .i64 100, .int .i64 101, .int .i64 (-1)] 2)).drew V.heap.size 2 (arC lit11s) := fun V => Bx.new V 2 _
    go_wp2_with fail
    go_region_law
      (first
        | (go_simp; go_at_call 63; refine (hTx _ (by first | exact C3.step (Same.drewN X3 1).below | exact (C3.step (Same.drewN X3 1).below).step (one_alloc10 _ _) | exact (C3.step (one_alloc10 _ _)).step (Same.drewN _ 1).below)).mono ?_; rintro e V1 ⟨tx, rfl, htx, C1, g1⟩; have v1 := g1.size; have lp1 := C1.lt; (first | have n1 := (L1 X3).grown g1 (by simp; omega) | skip))
        | (go_simp; go_at_call 46; have tx9 := htx; refine (hBB _ (by first | exact C1 | exact C1.step (one_alloc10 _ _))).mono ?_; rintro e V2 ⟨y, rfl, hy, C2, g2⟩; have j1 : (y : Int) < 8 := (by omega); have j0 : (0 : Int) ≤ (y : Int) := (by omega); have hzb := lit11s_bd hy; (try have m1 := cell_arC (n1.grown g2 (by simp; omega)) (i := y) hy); (try have m2 := cell_arC ((L0 V1).grown g2 (by simp; omega)) (i := y) hy); have m3 := cell_arC (L0 V2) (i := y) hy; have C5 := C2.step (one_alloc10 V2 (.cells #[.int .i64 0, .int .i64 1, .int .i64 2, .int .i64 3, .int .i64 5, .int .i64 100, .int .i64 101, .int .i64 (-1)] 2)); generalize el lit11s y = Bq at *))
    all_goals
      go_wp2
      refine bodyPost_ret (v := .tuple #[.string (sv tx), .int .i64 Bq]) (by simp [results, Try.results26, go_sem]) rfl ?_
      first
        | exact ⟨tx, Bq, rfl, by omega, hzb, C2.below⟩
        | exact ⟨tx, Bq, rfl, by omega, hzb, C5.below⟩
  · go_wp2_with fail
    refine (belowC 2 2 rfl C3 (by omega) (by omega)).mono ?_
    rintro e X4 ⟨y, rfl, hy, C4, g4⟩
    have hM : (1200 : Int) + (y : Int) = ((1200 + y : Nat) : Int) := by omega
    have hM9 : 1200 + y ≤ 2000 := by omega
    generalize 1200 + y = M at *
    have hmk := make_by M (by omega)
    have hOB := by_made X4 M (by omega)
    have hst : (convert 22 9 (.slice (some ⟨X4.heap.size, 0, none⟩) M M)).run Try.prog (X4.alloc (.cells (madeCells #[.int .u8 0] M) 5)) = .ok (.string (sv (List.replicate M 0))) (X4.alloc (.cells (madeCells #[.int .u8 0] M) 5)) := by
      have h2 : OBy (X4.alloc (.cells (madeCells #[.int .u8 0] M) 5)) X4.heap.size 0 (List.replicate M (0 : UInt8)).length M (List.replicate M 0) := by rw [List.length_replicate]; exact hOB
      have h3 := h2.str
      rw [List.length_replicate] at h3
      exact h3
    have HB : Hid (Below w.heap.size w (X4.alloc (.cells (madeCells #[.int .u8 0] M) 5))) := (C4.step (one_alloc10 _ _)).below
    have HL : Hid ((List.replicate M (0 : UInt8)).length ≤ 2000) := by rw [Hid, List.length_replicate]; exact hM9
    generalize List.replicate M (0 : UInt8) = zs at *
    clear hOB C4 C3 g4
    go_wp2
    refine bodyPost_ret (v := .tuple #[.string (sv zs), .int .i64 100]) (by simp [results, Try.results26, go_sem]) rfl ?_
    exact ⟨zs, 100, rfl, HL.out, ⟨by omega, by omega⟩, HB.out⟩
end Go.Proofs.Ythlaaldicmfcnaa
