/-
  The walk of the law FnLattice: at every code it returns true, and nothing that was there is written.
-/
import Derived.Test.YtnkomlboeodgjaaLat
namespace Go.Proofs.Ytnkomlboeodgjaa
open Go.RowKit

/-- The rows that the law still reads, in the world as it stands. -/
def Alive (w0 w : World) (a : Option Addr) (len : Nat) (bs : Nat → Int) (L : List (Option Addr × List Int)) : Prop :=
  Below w0.heap.size w0 w ∧ BVec w a len bs ∧ ∀ r ∈ L, Vec w r.1 r.2.length r.2
theorem Alive.step {w0 w w' : World} {a : Option Addr} {len : Nat} {bs : Nat → Int} {L : List (Option Addr × List Int)} (h : Alive w0 w a len bs L) (hb : Below w.heap.size w w') : Alive w0 w' a len bs L :=
  ⟨h.1.trans (hb.mono h.1.size), h.2.1.below hb (Nat.le_refl _), fun r hr => (h.2.2 r hr).below hb (Nat.le_refl _)⟩
theorem Alive.add {w0 w : World} {a : Option Addr} {len : Nat} {bs : Nat → Int} {L : List (Option Addr × List Int)} (h : Alive w0 w a len bs L) {x : Option Addr} {zs : List Int} (hv : Vec w x zs.length zs) : Alive w0 w a len bs ((x, zs) :: L) :=
  ⟨h.1, h.2.1, fun r hr => (List.mem_cons.1 hr).elim (fun h0 => by rw [h0]; exact hv) (fun hr => h.2.2 r hr)⟩
theorem Alive.head {w0 w : World} {a : Option Addr} {len : Nat} {bs : Nat → Int} {L : List (Option Addr × List Int)} {x : Option Addr} {zs : List Int} (h : Alive w0 w a len bs ((x, zs) :: L)) : Vec w x zs.length zs := h.2.2 _ (List.mem_cons_self ..)
theorem Alive.tail {w0 w : World} {a : Option Addr} {len : Nat} {bs : Nat → Int} {L : List (Option Addr × List Int)} {r : Option Addr × List Int} (h : Alive w0 w a len bs (r :: L)) : Alive w0 w a len bs L := ⟨h.1, h.2.1, fun s hs => h.2.2 s (List.mem_cons_of_mem _ hs)⟩
theorem Alive.drewN {w0 w : World} {a : Option Addr} {len : Nat} {bs : Nat → Int} {L : List (Option Addr × List Int)} (h : Alive w0 w a len bs L) (n : Nat) : Alive w0 (w.drewN n) a len bs L := ⟨belowN h.1, h.2.1, h.2.2⟩
theorem Alive.stepN {w0 w w' : World} {a : Option Addr} {len n : Nat} {bs : Nat → Int} {L : List (Option Addr × List Int)} (h : Alive w0 w a len bs L) (hb : Below (w.drewN n).heap.size (w.drewN n) w') : Alive w0 w' a len bs L := h.step (belowN' hb)

theorem joinI (a a' : Option Addr) (cap cap' : Nat) (xs ys : List Int) (w : World) (hv : Vec w a xs.length xs) (hv' : Vec w a' ys.length ys) (hc : xs.length ≤ cap) (hc' : ys.length ≤ cap') (hm : cap ≤ maxLen) (hm' : cap' ≤ maxLen) :
    Calls Try.prog 12 #[.slice a xs.length cap, .slice a' ys.length cap'] w fun e w' => ∃ x c, e = .returned (.slice x (pairB max xs ys).length c) ∧ Vec w' x (pairB max xs ys).length (pairB max xs ys) ∧ (pairB max xs ys).length ≤ c ∧ c ≤ maxLen ∧ Below w.heap.size w w' := by
  refine (implJoin_any a a' _ cap _ cap' xs ys w hv hv' hc hc' hm hm').mono ?_
  rintro e w' ⟨g, c, rfl, hg, ho, hb⟩
  exact ⟨_, c, rfl, ho.vec (pairB_fits max max_or xs ys), ho.1, ho.2.1, hb⟩

theorem meetI (a a' : Option Addr) (cap cap' : Nat) (xs ys : List Int) (w : World) (hv : Vec w a xs.length xs) (hv' : Vec w a' ys.length ys) (hc : xs.length ≤ cap) (hc' : ys.length ≤ cap') (hm : cap ≤ maxLen) (hm' : cap' ≤ maxLen) :
    Calls Try.prog 13 #[.slice a xs.length cap, .slice a' ys.length cap'] w fun e w' => ∃ x c, e = .returned (.slice x (pairB min xs ys).length c) ∧ Vec w' x (pairB min xs ys).length (pairB min xs ys) ∧ (pairB min xs ys).length ≤ c ∧ c ≤ maxLen ∧ Below w.heap.size w w' := by
  refine (implMeet_any a a' _ cap _ cap' xs ys w hv hv' hc hc' hm hm').mono ?_
  rintro e w' ⟨g, c, rfl, hg, ho, hb⟩
  exact ⟨_, c, rfl, ho.vec (pairB_fits min min_or xs ys), ho.1, ho.2.1, hb⟩

theorem joinS (a a' : Option Addr) (cap cap' : Nat) (xs ys : List Int) (w : World) (hv : Vec w a xs.length xs) (hv' : Vec w a' ys.length ys) (hm : xs.length ≤ maxLen) (hm' : ys.length ≤ maxLen) :
    Calls Try.prog 17 #[.slice a xs.length cap, .slice a' ys.length cap'] w fun e w' => ∃ x c, e = .returned (.slice x (pairB max xs ys).length c) ∧ Vec w' x (pairB max xs ys).length (pairB max xs ys) ∧ (pairB max xs ys).length ≤ c ∧ c ≤ maxLen ∧ Below w.heap.size w w' := by
  refine (specJoin_any a a' _ cap _ cap' xs ys w hv hv' hm hm').mono ?_
  rintro e w' ⟨g, c, rfl, hg, ho, hb⟩
  exact ⟨_, c, rfl, ho.vec (pairB_fits max max_or xs ys), ho.1, ho.2.1, hb⟩

theorem meetS (a a' : Option Addr) (cap cap' : Nat) (xs ys : List Int) (w : World) (hv : Vec w a xs.length xs) (hv' : Vec w a' ys.length ys) (hm : xs.length ≤ maxLen) (hm' : ys.length ≤ maxLen) :
    Calls Try.prog 18 #[.slice a xs.length cap, .slice a' ys.length cap'] w fun e w' => ∃ x c, e = .returned (.slice x (pairB min xs ys).length c) ∧ Vec w' x (pairB min xs ys).length (pairB min xs ys) ∧ (pairB min xs ys).length ≤ c ∧ c ≤ maxLen ∧ Below w.heap.size w w' := by
  refine (specMeet_any a a' _ cap _ cap' xs ys w hv hv' hm hm').mono ?_
  rintro e w' ⟨g, c, rfl, hg, ho, hb⟩
  exact ⟨_, c, rfl, ho.vec (pairB_fits min min_or xs ys), ho.1, ho.2.1, hb⟩

theorem IsRow.bvec {w : World} {a : Option Addr} {len cap : Nat} {zs : List Int} (h : IsRow .u8 w a len cap zs) : BVec w a len (fun i => zs.getD i 0) := by
  rcases h with ⟨rfl, rfl, rfl, rfl⟩ | ⟨x, rfl, hl, hm, hz, hcell, hwz⟩
  · exact ⟨fun i hi => absurd hi (Nat.not_lt_zero _), .inl rfl⟩
  · refine ⟨fun i hi => ?_, ?_⟩
    · have := bounds_u8 (hwz (zs.getD i 0) (by
        have hi' : i < zs.length := by omega
        simp [hi']))
      omega
    · by_cases h0 : len = 0
      · exact .inl h0
      · obtain ⟨b, off, spot⟩ := x
        have hc := hcell 0 (by omega)
        have hspot : spot = none := by simpa [Addr.add] using World.cell?_spot hc
        subst hspot
        refine .inr ⟨b, off, rfl, fun i hi => ?_⟩
        have := hcell i (by omega)
        by_cases hi0 : i = 0
        · subst hi0; simpa [Addr.add] using this
        · simpa [Addr.add, hi0] using this

set_option maxRecDepth 100000 in
set_option maxHeartbeats 6400000 in
/-- The law FnLattice. -/
theorem lawLattice (a : Option Addr) (len cap : Nat) (bs : Nat → Int) (w : World) (hv : BVec w a len bs) :
    Calls Try.prog 3 #[.slice a len cap] w fun e w' => e = .returned (.bool true) ∧ Below w.heap.size w w' := by
  by_cases hbig : (4096 : Int) < (len : Int)
  · have hd : decide ((4096 : Int) < (len : Int)) = true := by simpa using hbig
    go_enter Try.func3, Try.ntmps3
    go_wp2_with fail
    refine (big_any a len cap w).mono ?_
    rintro e w1 ⟨rfl, rfl⟩
    go_wp2
    go_ret
    exact ⟨rfl, Below.refl _ _⟩
  · have hd : decide ((4096 : Int) < (len : Int)) = false := by simpa using hbig
    have hl : len ≤ 4096 := by omega
    go_enter Try.func3, Try.ntmps3
    go_wp2_with fail
    refine (big_any a len cap w).mono ?_
    rintro e w0 ⟨rfl, hw0⟩
    have HW : Hid (w0 = w) := hw0
    have hv0 : BVec w0 a len bs := by rw [hw0]; exact hv
    have hb0 : Below w.heap.size w w0 := by rw [hw0]; exact Below.refl _ _
    clear hw0
    go_wp2_with fail
    refine (drawJoin_any a len cap bs w0 hv0 hl).mono ?_
    rintro e w1 ⟨a_A, m1, c_A, A, a_B, m2, c_B, B, rfl, vA, k_A, m_A, q_A, vB, k_B, m_B, q_B, hb1, _, _⟩
    have hA := vA.1
    have hB := vB.1
    subst hA hB
    have L1 : Alive w w1 a len bs [(a_A, A), (a_B, B)] := (Alive.add (Alive.add (L := []) ⟨hb0.trans (hb1.mono hb0.size), hv0.below hb1 (Nat.le_refl _), fun r hr => by simp at hr⟩ vB) vA)
    clear vA vB hb1 hv0 hb0
    go_wp2_with fail
    refine (joinI _ _ _ _ A B _ L1.head L1.tail.head k_A k_B m_A m_B).mono ?_
    rintro e w2 ⟨a_J, c_J, rfl, v_J, k_J, m_J, b2⟩
    have L2 := (L1.step b2).add v_J
    clear L1 b2 v_J
    go_wp2_with fail
    refine (meetI _ _ _ _ A B _ L2.tail.head L2.tail.tail.head k_A k_B m_A m_B).mono ?_
    rintro e w3 ⟨a_M, c_M, rfl, v_M, k_M, m_M, b3⟩
    have L3 := (L2.step b3).add v_M
    clear L2 b3 v_M
    go_wp2_with fail
    refine (drawUnder_any a len cap bs w3 L3.2.1 hl).mono ?_
    rintro e w4 ⟨a_X, m1, c_X, X, a_Y, m2, c_Y, Y, rfl, vX, k_X, m_X, q_X, vY, k_Y, m_Y, q_Y, b4⟩
    have hX := vX.1
    have hY := vY.1
    subst hX hY
    have L4 := ((L3.step b4).add vY).add vX
    clear L3 b4 vX vY
    go_wp2_with fail
    refine (drawSum_any a len cap bs w4 L4.2.1 hl).mono ?_
    rintro e w5 ⟨a_V, m1, c_V, V, rfl, vV, k_V, m_V, q_V, b5⟩
    have hV := vV.1
    subst hV
    have L5 := (L4.step b5).add vV
    clear L4 b5 vV
    have sJ := sameB_self (pairB max A B)
    have sM := sameB_self (pairB min A B)
    go_wp2_with fail
    refine (joinS _ _ _ _ A B _ L5.tail.tail.tail.tail.tail.head L5.tail.tail.tail.tail.tail.tail.head (Nat.le_trans k_A m_A) (Nat.le_trans k_B m_B)).mono ?_
    rintro e w6 ⟨a_J2, c_J2, rfl, v_J2, k_J2, m_J2, b6⟩
    have L6 := (L5.step b6).add v_J2
    clear L5 b6 v_J2
    go_wp2_with fail
    refine (like_any _ _ _ _ _ _ (pairB max A B) (pairB max A B) _ L6.tail.tail.tail.tail.tail.head L6.head (Nat.le_trans k_J m_J)).mono ?_
    rintro e w7 ⟨rfl, n7, rfl⟩
    go_wp2_with fail
    refine (meetS _ _ _ _ A B _ (L6.drewN _).tail.tail.tail.tail.tail.tail.head (L6.drewN _).tail.tail.tail.tail.tail.tail.tail.head (Nat.le_trans k_A m_A) (Nat.le_trans k_B m_B)).mono ?_
    rintro e w8 ⟨a_M2, c_M2, rfl, v_M2, k_M2, m_M2, b8⟩
    have L8 := (L6.stepN b8).add v_M2
    clear L6 b8 v_M2
    go_wp2_with fail
    refine (like_any _ _ _ _ _ _ (pairB min A B) (pairB min A B) _ L8.tail.tail.tail.tail.tail.head L8.head (Nat.le_trans k_M m_M)).mono ?_
    rintro e w9 ⟨rfl, n9, rfl⟩
    go_wp2_with fail
    refine (implUnder_any _ _ _ _ _ _ X Y _ (L8.drewN _).tail.tail.tail.head (L8.drewN _).tail.tail.tail.tail.head k_X k_Y m_X m_Y).mono ?_
    rintro e w10 ⟨rfl, n10, rfl⟩
    go_wp2_with fail
    refine (specUnder_any _ _ _ _ _ _ X Y _ (L8.drewN _).tail.tail.tail.head (L8.drewN _).tail.tail.tail.tail.head (Nat.le_trans k_X m_X) (Nat.le_trans k_Y m_Y)).mono ?_
    rintro e w11 ⟨rfl, n11, rfl⟩
    go_wp2_with fail
    refine (implSum_any _ _ _ V _ (L8.drewN _).tail.tail.head k_V m_V).mono ?_
    rintro e w12 ⟨rfl, n12, rfl⟩
    go_wp2_with fail
    refine (specSum_any _ _ _ V _ (L8.drewN _).tail.tail.head (Nat.le_trans k_V m_V)).mono ?_
    rintro e w13 ⟨rfl, hw13⟩
    have L13 : Alive w w13 a len bs [(a_M2, (pairB min A B)), (a_J2, (pairB max A B)), (a_V, V), (a_X, X), (a_Y, Y), (a_M, (pairB min A B)), (a_J, (pairB max A B)), (a_A, A), (a_B, B)] := by rw [hw13]; exact (L8.drewN _)
    clear hw13 L8
    go_wp2_with fail
    refine (implLeast_any _ _ _ V _ L13.tail.tail.head k_V m_V).mono ?_
    rintro e w14 ⟨rfl, n14, rfl⟩
    go_wp2_with fail
    refine (specLeast_any _ _ _ V _ (L13.drewN _).tail.tail.head (Nat.le_trans k_V m_V)).mono ?_
    rintro e w15 ⟨rfl, hw15⟩
    have L15 : Alive w w15 a len bs [(a_M2, (pairB min A B)), (a_J2, (pairB max A B)), (a_V, V), (a_X, X), (a_Y, Y), (a_M, (pairB min A B)), (a_J, (pairB max A B)), (a_A, A), (a_B, B)] := by rw [hw15]; exact (L13.drewN _)
    clear hw15 L13
    go_wp2_with fail
    refine (implOk_any _ _ _ V _ L15.tail.tail.head k_V m_V).mono ?_
    rintro e w16 ⟨rfl, n16, rfl⟩
    go_wp2_with fail
    refine (specOk_any _ _ _ V _ (L15.drewN _).tail.tail.head (Nat.le_trans k_V m_V)).mono ?_
    rintro e w17 ⟨rfl, hw17⟩
    have L17 : Alive w w17 a len bs [(a_M2, (pairB min A B)), (a_J2, (pairB max A B)), (a_V, V), (a_X, X), (a_Y, Y), (a_M, (pairB min A B)), (a_J, (pairB max A B)), (a_A, A), (a_B, B)] := by rw [hw17]; exact (L15.drewN _)
    clear hw17 L15
    have L0 := L17.tail.tail.tail.tail.tail
    clear L17 sJ sM
    cases h2 : twoB A B
    · have eJ : pairB max A B = [] := by rw [pairB, h2]; rfl
      have eM : pairB min A B = [] := by rw [pairB, h2]; rfl
      have lJ : (((pairB max A B).length : Int) == 0) = true := by rw [eJ]; rfl
      have lM : (((pairB min A B).length : Int) == 0) = true := by rw [eM]; rfl
      have hu : underB A B = false := by unfold underB; rw [h2]; rfl
      clear eJ eM
      go_wp2_with fail
      refine (implUnder_any _ _ _ _ _ _ A B _ L0.tail.tail.head L0.tail.tail.tail.head k_A k_B m_A m_B).mono ?_
      rintro e w18 ⟨rfl, n18, rfl⟩
      go_wp2
      go_ret
      exact ⟨rfl, (L0.drewN _).1⟩
    · obtain ⟨okA, okB', hAB⟩ := twoB_true h2
      have hA1 := (okB_len okA).1
      have hA8 := (okB_len okA).2
      have lJ : (((pairB max A B).length : Int) == 0) = false := by rw [pair_len h2, beq_eq_false_iff_ne]; omega
      have HT : Hid (twoB A B = true) := h2
      clear okA okB' hAB h2
      go_wp2_with fail
      refine (vector_any a len cap bs 9 _ A.length rfl _ L0.2.1 hl (by omega) (by omega) (by omega)).mono ?_
      rintro e w50 ⟨a_C, c_C, C, he, hC, hsm, v_C, k_C, m_C, b50⟩
      rw [← hC] at he
      subst he
      have T := lattice HT.out (small_ok hsm (by omega) (by omega)) hC.symm
      rw [← hC] at v_C k_C
      have L50 := (L0.step b50).add v_C
      have HC : Hid (C.length = A.length) := hC
      have t1 := T.u1
      have t2 := T.u2
      have t3 := T.u3
      have t4 := T.u4
      have t5 := T.o1
      have t6 := T.o2
      have t7 := T.l1
      have t8 := T.l2
      have t9 := T.l3
      have t10 := T.l4
      have t11 := T.l5
      have t12 := T.s
      have d1 := sumB_bd (pairB max A B)
      have d2 := sumB_bd (pairB min A B)
      have d3 := sumB_bd A
      have d4 := sumB_bd B
      clear L0 b50 v_C hC hsm T
      go_wp2_with fail
      refine (implUnder_any _ _ _ _ _ _ A (pairB max A B) _ L50.tail.tail.tail.head L50.tail.tail.head k_A k_J m_A m_J).mono ?_
      rintro e w51 ⟨rfl, n51, rfl⟩
      go_wp2_with fail
      refine (implUnder_any _ _ _ _ _ _ B (pairB max A B) _ (L50.drewN _).tail.tail.tail.tail.head (L50.drewN _).tail.tail.head k_B k_J m_B m_J).mono ?_
      rintro e w52 ⟨rfl, n52, rfl⟩
      go_wp2_with fail
      refine (implUnder_any _ _ _ _ _ _ (pairB min A B) A _ (L50.drewN _).tail.head (L50.drewN _).tail.tail.tail.head k_M k_A m_M m_A).mono ?_
      rintro e w53 ⟨rfl, n53, rfl⟩
      go_wp2_with fail
      refine (implUnder_any _ _ _ _ _ _ (pairB min A B) B _ (L50.drewN _).tail.head (L50.drewN _).tail.tail.tail.tail.head k_M k_B m_M m_B).mono ?_
      rintro e w54 ⟨rfl, n54, rfl⟩
      go_wp2_with fail
      refine (implUnder_any _ _ _ _ _ _ A B _ (L50.drewN _).tail.tail.tail.head (L50.drewN _).tail.tail.tail.tail.head k_A k_B m_A m_B).mono ?_
      rintro e w55 ⟨rfl, n55, rfl⟩
      go_wp2_with fail
      refine (like_any _ _ _ _ _ _ (pairB max A B) B _ (L50.drewN _).tail.tail.head (L50.drewN _).tail.tail.tail.tail.head (Nat.le_trans k_J m_J)).mono ?_
      rintro e w56 ⟨rfl, n56, rfl⟩
      go_wp2_with fail
      refine (implUnder_any _ _ _ _ _ _ A B _ (L50.drewN _).tail.tail.tail.head (L50.drewN _).tail.tail.tail.tail.head k_A k_B m_A m_B).mono ?_
      rintro e w57 ⟨rfl, n57, rfl⟩
      go_wp2_with fail
      refine (like_any _ _ _ _ _ _ (pairB min A B) A _ (L50.drewN _).tail.head (L50.drewN _).tail.tail.tail.head (Nat.le_trans k_M m_M)).mono ?_
      rintro e w58 ⟨rfl, n58, rfl⟩
      go_wp2_with fail
      refine (joinI _ _ _ _ B A _ (L50.drewN _).tail.tail.tail.tail.head (L50.drewN _).tail.tail.tail.head k_B k_A m_B m_A).mono ?_
      rintro e w59 ⟨a_T1, c_T1, rfl, v_T1, k_T1, m_T1, b59⟩
      have L59 := (L50.stepN b59).add v_T1
      clear L50 b59 v_T1
      go_wp2_with fail
      refine (like_any _ _ _ _ _ _ (pairB max B A) (pairB max A B) _ L59.head L59.tail.tail.tail.head (Nat.le_trans k_T1 m_T1)).mono ?_
      rintro e w60 ⟨rfl, n60, rfl⟩
      go_wp2_with fail
      refine (joinI _ _ _ _ A B _ (L59.drewN _).tail.tail.tail.tail.head (L59.drewN _).tail.tail.tail.tail.tail.head k_A k_B m_A m_B).mono ?_
      rintro e w61 ⟨a_T2, c_T2, rfl, v_T2, k_T2, m_T2, b61⟩
      have L61 := (L59.stepN b61).add v_T2
      clear L59 b61 v_T2
      go_wp2_with fail
      refine (joinI _ _ _ _ (pairB max A B) C _ L61.head L61.tail.tail.head k_T2 k_C m_T2 m_C).mono ?_
      rintro e w62 ⟨a_T3, c_T3, rfl, v_T3, k_T3, m_T3, b62⟩
      have L62 := (L61.step b62).add v_T3
      clear L61 b62 v_T3
      go_wp2_with fail
      refine (joinI _ _ _ _ B C _ L62.tail.tail.tail.tail.tail.tail.tail.head L62.tail.tail.tail.head k_B k_C m_B m_C).mono ?_
      rintro e w63 ⟨a_T4, c_T4, rfl, v_T4, k_T4, m_T4, b63⟩
      have L63 := (L62.step b63).add v_T4
      clear L62 b63 v_T4
      go_wp2_with fail
      refine (joinI _ _ _ _ A (pairB max B C) _ L63.tail.tail.tail.tail.tail.tail.tail.head L63.head k_A k_T4 m_A m_T4).mono ?_
      rintro e w64 ⟨a_T5, c_T5, rfl, v_T5, k_T5, m_T5, b64⟩
      have L64 := (L63.step b64).add v_T5
      clear L63 b64 v_T5
      go_wp2_with fail
      refine (like_any _ _ _ _ _ _ (pairB max (pairB max A B) C) (pairB max A (pairB max B C)) _ L64.tail.tail.head L64.head (Nat.le_trans k_T3 m_T3)).mono ?_
      rintro e w65 ⟨rfl, n65, rfl⟩
      go_wp2_with fail
      refine (meetI _ _ _ _ A (pairB max A B) _ (L64.drewN _).tail.tail.tail.tail.tail.tail.tail.tail.head (L64.drewN _).tail.tail.tail.tail.tail.tail.tail.head k_A k_J m_A m_J).mono ?_
      rintro e w66 ⟨a_T6, c_T6, rfl, v_T6, k_T6, m_T6, b66⟩
      have L66 := (L64.stepN b66).add v_T6
      clear L64 b66 v_T6
      go_wp2_with fail
      refine (like_any _ _ _ _ _ _ (pairB min A (pairB max A B)) A _ L66.head L66.tail.tail.tail.tail.tail.tail.tail.tail.tail.head (Nat.le_trans k_T6 m_T6)).mono ?_
      rintro e w67 ⟨rfl, n67, rfl⟩
      go_wp2_with fail
      refine (joinI _ _ _ _ A (pairB min A B) _ (L66.drewN _).tail.tail.tail.tail.tail.tail.tail.tail.tail.head (L66.drewN _).tail.tail.tail.tail.tail.tail.tail.head k_A k_M m_A m_M).mono ?_
      rintro e w68 ⟨a_T7, c_T7, rfl, v_T7, k_T7, m_T7, b68⟩
      have L68 := (L66.stepN b68).add v_T7
      clear L66 b68 v_T7
      go_wp2_with fail
      refine (like_any _ _ _ _ _ _ (pairB max A (pairB min A B)) A _ L68.head L68.tail.tail.tail.tail.tail.tail.tail.tail.tail.tail.head (Nat.le_trans k_T7 m_T7)).mono ?_
      rintro e w69 ⟨rfl, n69, rfl⟩
      go_wp2_with fail
      refine (joinI _ _ _ _ B C _ (L68.drewN _).tail.tail.tail.tail.tail.tail.tail.tail.tail.tail.tail.head (L68.drewN _).tail.tail.tail.tail.tail.tail.tail.head k_B k_C m_B m_C).mono ?_
      rintro e w70 ⟨a_T8, c_T8, rfl, v_T8, k_T8, m_T8, b70⟩
      have L70 := (L68.stepN b70).add v_T8
      clear L68 b70 v_T8
      go_wp2_with fail
      refine (meetI _ _ _ _ A (pairB max B C) _ L70.tail.tail.tail.tail.tail.tail.tail.tail.tail.tail.tail.head L70.head k_A k_T8 m_A m_T8).mono ?_
      rintro e w71 ⟨a_T9, c_T9, rfl, v_T9, k_T9, m_T9, b71⟩
      have L71 := (L70.step b71).add v_T9
      clear L70 b71 v_T9
      go_wp2_with fail
      refine (meetI _ _ _ _ A C _ L71.tail.tail.tail.tail.tail.tail.tail.tail.tail.tail.tail.tail.head L71.tail.tail.tail.tail.tail.tail.tail.tail.tail.head k_A k_C m_A m_C).mono ?_
      rintro e w72 ⟨a_T10, c_T10, rfl, v_T10, k_T10, m_T10, b72⟩
      have L72 := (L71.step b72).add v_T10
      clear L71 b72 v_T10
      go_wp2_with fail
      refine (joinI _ _ _ _ (pairB min A B) (pairB min A C) _ L72.tail.tail.tail.tail.tail.tail.tail.tail.tail.tail.tail.head L72.head k_M k_T10 m_M m_T10).mono ?_
      rintro e w73 ⟨a_T11, c_T11, rfl, v_T11, k_T11, m_T11, b73⟩
      have L73 := (L72.step b73).add v_T11
      clear L72 b73 v_T11
      go_wp2_with fail
      refine (like_any _ _ _ _ _ _ (pairB min A (pairB max B C)) (pairB max (pairB min A B) (pairB min A C)) _ L73.tail.tail.head L73.head (Nat.le_trans k_T9 m_T9)).mono ?_
      rintro e w74 ⟨rfl, n74, rfl⟩
      go_wp2_with fail
      refine (implSum_any _ _ _ (pairB max A B) _ (L73.drewN _).tail.tail.tail.tail.tail.tail.tail.tail.tail.tail.tail.tail.tail.head k_J m_J).mono ?_
      rintro e w75 ⟨rfl, n75, rfl⟩
      go_wp2_with fail
      refine (implSum_any _ _ _ (pairB min A B) _ (L73.drewN _).tail.tail.tail.tail.tail.tail.tail.tail.tail.tail.tail.tail.head k_M m_M).mono ?_
      rintro e w76 ⟨rfl, n76, rfl⟩
      go_wp2_with fail
      refine (implSum_any _ _ _ A _ (L73.drewN _).tail.tail.tail.tail.tail.tail.tail.tail.tail.tail.tail.tail.tail.tail.head k_A m_A).mono ?_
      rintro e w77 ⟨rfl, n77, rfl⟩
      go_wp2_with fail
      refine (implSum_any _ _ _ B _ (L73.drewN _).tail.tail.tail.tail.tail.tail.tail.tail.tail.tail.tail.tail.tail.tail.tail.head k_B m_B).mono ?_
      rintro e w78 ⟨rfl, n78, rfl⟩
      go_wp2
      go_ret
      exact ⟨rfl, (L73.drewN _).1⟩
end Go.Proofs.Ytnkomlboeodgjaa
