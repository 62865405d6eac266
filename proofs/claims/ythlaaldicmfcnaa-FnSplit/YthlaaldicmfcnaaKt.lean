/-
  Several texts in one: LawSp.
-/
import Derived.Test.YthlaaldicmfcnaaKs
import Derived.Test.YthlaaldicmfcnaaKm
import Derived.Test.YthlaaldicmfcnaaKp
import Derived.Test.YthlaaldicmfcnaaGb
import Derived.Deep.RegionHeld3
import Derived.Deep.CutRange
/-
  The law FnSplit FROM what the program's Split, Lacking and Joined answer.
-/
namespace Go.Proofs.Ythlaaldicmfcnaa
set_option linter.unusedVariables false
set_option linter.unusedSimpArgs false
open Go.RowKit Go.Sort

theorem bvs_drop (Z : List Blk) : ∀ k, bvs (Z.drop k) = (bvs Z).drop (k * 3) := by
  induction Z with
  | nil => intro k; simp [bvs]
  | cons b Z ih =>
    intro k
    cases k with
    | zero => simp
    | succ k =>
      have e1 : bvs (b :: Z) = .int .i64 b.1 :: .int .i64 b.2.1 :: .string (sv b.2.2) :: bvs Z := by simp [bvs]
      rw [List.drop_succ_cons, ih k, e1, show (k + 1) * 3 = k * 3 + 1 + 1 + 1 by omega]
      simp only [List.drop_succ_cons]
theorem bvs_take (Z : List Blk) : ∀ k, bvs (Z.take k) = (bvs Z).take (k * 3) := by
  induction Z with
  | nil => intro k; simp [bvs]
  | cons b Z ih =>
    intro k
    cases k with
    | zero => simp [bvs]
    | succ k =>
      have e1 : ∀ L : List Blk, bvs (b :: L) = .int .i64 b.1 :: .int .i64 b.2.1 :: .string (sv b.2.2) :: bvs L := fun L => by simp [bvs]
      rw [List.take_succ_cons, e1, ih k, e1, show (k + 1) * 3 = k * 3 + 1 + 1 + 1 by omega]
      simp only [List.take_succ_cons]
theorem bvs_app (A B : List Blk) : bvs (A ++ B) = bvs A ++ bvs B := by simp [bvs]
theorem bvs_one (Z : List Blk) : ∀ u ∈ bvs Z, u.oneCell' = true := by
  intro u hu
  simp only [bvs, List.mem_flatMap] at hu
  obtain ⟨c, _, hc⟩ := hu
  simp at hc
  rcases hc with rfl | rfl | rfl <;> rfl
/-- The cells of a list of blocks in one row. -/
def Flt (w : World) (g o : Nat) (Z : List Blk) : Prop := ∀ j, j < Z.length * 3 → w.cell? ⟨g, o + j, none⟩ = (bvs Z)[j]?
theorem newO_flt {w w' : World} {a : Option Addr} {c : Nat} {Z : List Blk} (h : NewO w w' (bcl Z) (.slice a Z.length c)) : (Z = [] ∨ ∃ g o, a = some ⟨g, o, none⟩ ∧ Flt w' g o Z) ∧ Z.length ≤ c ∧ c ≤ maxLen := by
  obtain ⟨f, h1, _, _⟩ := h
  obtain ⟨a0, c0, us, e0, h3, h4, h5, h6, hL⟩ := Cel.ow_vw h1
  cases e0
  have e := vwL_pl.1 hL
  subst e
  refine ⟨?_, h3, h4⟩
  rcases h6 with h6 | ⟨b, off, rfl, hc⟩
  · exact .inl (List.eq_nil_of_length_eq_zero h6)
  · exact .inr ⟨b, off, rfl, hc⟩
theorem Flt.below {w w' : World} {g o : Nat} {Z : List Blk} (h : Flt w g o Z) (hb : Below w.heap.size w w') : Flt w' g o Z := fun j hj => by
  have h1 := h j hj
  have hl : j < (bvs Z).length := by rw [bvs_len]; exact hj
  rw [List.getElem?_eq_getElem hl] at h1 ⊢
  exact (hb.cell (World.block_lt_of_cell? _ _ h1)).trans h1
theorem Flt.drop {w : World} {g o : Nat} {Z : List Blk} (h : Flt w g o Z) {k : Nat} : ∀ j u, (bvs (Z.drop k))[j]? = some u → w.cell? ((⟨g, o + k * 3, none⟩ : Addr).add j) = some u := fun j u hu => by
  rw [bvs_drop, List.getElem?_drop] at hu
  have hl := (List.getElem?_eq_some_iff.1 hu).1
  rw [bvs_len] at hl
  rw [add_lit0, Nat.add_assoc, h _ hl]
  exact hu
theorem Flt.take {w : World} {g o : Nat} {Z : List Blk} (h : Flt w g o Z) {k : Nat} : ∀ j u, (bvs (Z.take k))[j]? = some u → w.cell? ((⟨g, o, none⟩ : Addr).add j) = some u := fun j u hu => by
  rw [bvs_take] at hu
  rw [List.getElem?_take] at hu
  split at hu
  · have hl := (List.getElem?_eq_some_iff.1 hu).1
    rw [bvs_len] at hl
    rw [add_lit0, h _ hl]
    exact hu
  · cases hu
theorem Flt.bs {w : World} {g o : Nat} {Z : List Blk} (h : Flt w g o Z) : BkS w (some ⟨g, o, none⟩) Z.length Z := ⟨rfl, .inr ⟨g, o, rfl, fun i hi => by
  obtain ⟨x0, x1, x2⟩ := bvs_at Z i hi
  exact ⟨(h _ (by omega)).trans x0, by rw [Nat.add_assoc]; exact (h _ (by omega)).trans x1, by rw [Nat.add_assoc]; exact (h _ (by omega)).trans x2⟩⟩⟩
theorem oso_bs {w : World} {a : Option Addr} {n c : Nat} {Z : List Blk} {G : Option Nat} (h : OSo w 3 a n c (bvs Z) G) (hn : Z.length = n) : BkS w a Z.length Z ∧ Z.length ≤ c ∧ c ≤ maxLen := by
  have hle := h.le
  refine ⟨?_, by omega, hle.2⟩
  by_cases h0 : n = 0
  · exact ⟨rfl, .inl (by omega)⟩
  · obtain ⟨g, off, rfl, _, hc, _⟩ := h.cell (by omega)
    exact Flt.bs (fun j hj => hc j (by rw [← hn]; exact hj))
theorem oso_alloc {w : World} {s : Nat} {a : Option Addr} {n c : Nat} {xs : List Value} {G : Option Nat} (h : OSo w s a n c xs G) (o : Obj) : OSo (w.alloc o) s a n c xs G := h.wrt ((Wrt.refl (fun _ => False) w).alloc o) (fun _ _ h => h)
theorem zq1 {Y V : World} {T : TypeId} {C : Array Value} {o : Obj} {r : Option Nat} (g : (((Y.alloc (.cells C T)).alloc o).drew).grownBy V r) (hr : some Y.heap.size ≠ r) : Bx V Y.heap.size T C := Bx.grown (w := ((Y.alloc (.cells C T)).alloc o).drew) ((Bx.new Y T C).alloc o) g hr
theorem zq2 {Y V : World} {T : TypeId} {C : Array Value} {o : Obj} {r : Option Nat} (g : (((Y.alloc o).alloc (.cells C T)).drew).grownBy V r) (hr : some (Y.heap.size + 1) ≠ r) : Bx V (Y.heap.size + 1) T C := by
  have h := Bx.new (Y.alloc o) T C
  rw [show (Y.alloc o).heap.size = Y.heap.size + 1 by simp] at h
  exact Bx.grown (w := ((Y.alloc o).alloc (.cells C T)).drew) h g hr
theorem zq3 {Y V : World} {T : TypeId} {C : Array Value} {r : Option Nat} (g : (Y.alloc (.cells C T)).grownBy V r) (hr : some Y.heap.size ≠ r) : Bx V Y.heap.size T C := (Bx.new Y T C).grown g hr
theorem wrap12 {z : Int} (h : -1 ≤ z ∧ z ≤ 101) : wrap64 (12 * z) = 12 * z := by unfold wrap64; omega
theorem wrapK1 {K : Nat} (h : K ≤ 100) : wrap64 ((K : Int) + 1) = (K : Int) + 1 := by unfold wrap64; omega
theorem wrapKi {K : Nat} (h : K ≤ 100) : IntKind.i64.wrap ((K : Int) + 1) = (K : Int) + 1 := by rw [IntKind.wrap_i64]; omega
theorem natK1 (K : Nat) : ((K : Int) + 1).toNat = K + 1 := by omega
theorem fits_one {K : Nat} (h : K ≤ 100) : Fits [(K : Int)] := fun x hx => by
  rw [List.mem_singleton] at hx
  omega
theorem vec_new11 {K : Nat} (w : World) (h : Fits [(K : Int)]) : Vec (w.alloc (.cells #[.int .i64 (K : Int)] 2)) (some ⟨w.heap.size, 0, none⟩) 1 [(K : Int)] :=
  ⟨rfl, h, .inr ⟨w.heap.size, 0, rfl, fun i hi => by
    obtain rfl : i = 0 := by omega
    simp [el]⟩⟩
theorem one_new11 (w : World) (o : Obj) : Below w.heap.size w (w.alloc o) := (Below.refl _ _).alloc (Nat.le_refl _) _
theorem one_max11 : 1 ≤ maxLen := by unfold maxLen; omega
theorem zk1 {n K : Nat} (h : n ≤ K + 1) : (n : Int) ≤ (K : Int) + 1 := by omega
theorem none_one11 : ∀ u ∈ ([] : List Value), u.oneCell' = true := fun u h => by cases h
theorem same_refl (Z : List Int) : sameB Z Z = true := by simp [sameB]
theorem i64b_small {x : Int} (h : -1000 ≤ x ∧ x ≤ 1000) : I64b x := ⟨by omega, by omega⟩
theorem spl_fits (s : List UInt8) (z : Int) {L : List Blk} (h : ∀ b ∈ L, b ∈ splitL s z) : FitsB L ∧ ShortB L := by
  have hs := (split_sm s z).2
  have h2 : ∀ b ∈ L, (-1000 ≤ b.1 ∧ b.1 ≤ 1000) ∧ (-1000 ≤ b.2.1 ∧ b.2.1 ≤ 1000) ∧ b.2.2.length ≤ 100 := fun b hb => hs.2 b (h b hb)
  exact ⟨fun i hi => ⟨i64b_small (h2 _ (bat_mem hi)).1, i64b_small (h2 _ (bat_mem hi)).2.1⟩, fun i hi => by have := (h2 _ (bat_mem hi)).2.2; omega⟩
attribute [local irreducible] sv
set_option maxRecDepth 100000 in
set_option maxHeartbeats 6400000 in
/-- The law FnSplit. -/
theorem lawFnSplit (hSp : ImplSplit) (hLk : ImplLacking) (hJn : ImplJoined) (a : Option Addr) (len cap : Nat) (bs : Nat → Int) (w : World) (hv : BVec w a len bs) :
    Calls Try.prog 4 #[.slice a len cap] w fun e w' => e = .returned (.bool true) ∧ Below w.heap.size w w' := by
  have hmix := mixed11
  by_cases hbig : (4096 : Int) < (len : Int)
  · have hB := big_any a len cap w
    rw [decide_eq_true hbig] at hB
    go_enter Try.func4, Try.ntmps4
    go_wp2_with fail
    refine hB.mono ?_
    rintro e w1 ⟨rfl, hw1⟩
    have HW : Hid (w1 = w) := hw1
    clear hw1
    go_wp2
    go_ret
    exact ⟨rfl, by rw [HW.out]; exact Below.refl _ _⟩
  · have hB := big_any a len cap w
    rw [decide_eq_false hbig] at hB
    have hl : len ≤ 4096 := by omega
    obtain ⟨i0, hi0, hz0, hz1, hz2⟩ := info_parts2n infoBlock
    go_enter Try.func4, Try.ntmps4
    go_wp2_with fail
    refine hB.mono ?_
    rintro e w0 ⟨rfl, hw0⟩
    have BW : Below w.heap.size w w0 := by rw [hw0]; exact Below.refl _ _
    clear hw0 hB
    go_wp2_with fail
    refine (drawSpl_any a len cap bs w0 (hv.below BW (Nat.le_refl _)) hl).mono ?_
    rintro e w1 ⟨s, z, rfl, hs, hz, hb1⟩
    have BWn := BW.trans (hb1.mono BW.size)
    clear BW
    have BW := BWn
    clear BWn
    have hsz := sv_size s
    go_wp2_with fail
    refine (hSp s z w1 (by omega) ⟨by omega, by omega⟩).mono ?_
    rintro e w2 ⟨a2, c2, rfl, hO2⟩
    obtain ⟨hfl, hcp⟩ := newO_flt hO2
    have hb2 := newO_blw hO2
    have R2 : BkS w2 a2 (splitL s z).length (splitL s z) := it_bs (It.of_newO hO2)
    have HSP : Hid (∀ X, Calls Try.prog 33 #[.string (sv s), .int .i64 z] X fun e w' => AnsB X w' e (splitL s z)) := fun X => splS_any s z X (by omega)
    have HZN : Hid (splitL s z = [] → z < 1 ∨ 100 < z ∨ 12 * z < (s.length : Int)) := splitL_nil
    have HZY : Hid (splitL s z ≠ [] → ∃ zz m : Nat, (1 ≤ zz ∧ zz ≤ 100) ∧ (1 ≤ m ∧ m ≤ 12) ∧ s.length ≤ m * zz ∧ splitL s z = spl s zz m m) := splitL_is
    have HZF : Hid (∀ L : List Blk, (∀ b ∈ L, b ∈ splitL s z) → FitsB L ∧ ShortB L) := fun L h => spl_fits s z h
    have hZ12 := splitL_len s z
    clear hO2
    generalize splitL s z = Z at *
    have BWn := BW.trans (hb2.mono BW.size)
    clear BW
    have BW := BWn
    clear BWn
    go_wp2_with fail
    refine (drawJoi_any a len cap bs w2 (hv.below BW (Nat.le_refl _)) hl).mono ?_
    rintro e w3 ⟨a3, c3, J, rfl, RJ, hb3⟩
    have F3 : Hid (∀ X, Below w3.heap.size w3 X → ∀ g o, Flt w2 g o Z → Flt X g o Z) := fun X hX g o h => (h.below hb3).below hX
    have R2n := R2.below hb3
    have BWn := BW.trans (hb3.mono BW.size)
    clear R2 BW
    have R2 := R2n
    have BW := BWn
    clear R2n BWn
    have hJm := RJ.sm.1
    have cJ1 := hJn a3 c3 J w3 RJ.bs RJ.sm.fits RJ.sm.short RJ.cp.1 RJ.cp.2 (by omega)
    have HJS : Hid (∀ X, BkS X a3 J.length J → Calls Try.prog 31 #[.slice a3 J.length c3] X fun e w' => e = .returned (.tuple #[.string (sv (joinL J).1), .bool (joinL J).2]) ∧ Below X.heap.size X w') := fun X h => joiS_any a3 J.length c3 J X h RJ.sm.short (by omega)
    generalize (joinL J).1 = Jt at *
    generalize (joinL J).2 = Jb at *
    go_wp2_with fail
    refine cJ1.mono ?_
    rintro e w4 ⟨rfl, hb4⟩
    have K4 := hb4
    have R2n := R2.below hb4
    have RJn := RJ.below hb4
    have BWn := BW.trans (hb4.mono BW.size)
    clear R2 RJ BW
    have R2 := R2n
    have RJ := RJn
    have BW := BWn
    clear R2n RJn BWn
    clear cJ1
    go_wp2_with fail
    refine (drawLac_any a len cap bs w4 (hv.below BW (Nat.le_refl _)) hl).mono ?_
    rintro e w5 ⟨a5, c5, A, T, rfl, RA, hT, hb5⟩
    have K5 := K4.trans (hb5.mono K4.size)
    have R2n := R2.below hb5
    have RJn := RJ.below hb5
    have BWn := BW.trans (hb5.mono BW.size)
    clear R2 RJ BW
    have R2 := R2n
    have RJ := RJn
    have BW := BWn
    clear R2n RJn BWn
    go_wp2_with fail
    refine (HJS.out w5 RJ.bs).mono ?_
    rintro e w6 ⟨rfl, hb6⟩
    have K6 := K5.trans (hb6.mono K5.size)
    have R2n := R2.below hb6
    have RAn := RA.below hb6
    have BWn := BW.trans (hb6.mono BW.size)
    clear R2 RA BW
    have R2 := R2n
    have RA := RAn
    have BW := BWn
    clear R2n RAn BWn
    have nb : (Jb != Jb) = false := by simp
    have ns : ((sv Jt).toList == (sv Jt).toList) = true := by simp
    have hAm := RA.sm.1
    have hA1 := fun X (h : BkS X a5 A.length A) => hLk a5 c5 A T X h RA.sm.fits RA.sm.short RA.cp.1 RA.cp.2 (by omega) (i64b_small hT)
    have hA2 := fun X (h : BkS X a5 A.length A) => (lacS_any a5 A.length c5 A T X h RA.sm.short (by unfold maxLen; omega)).mono (fun e w' h => h.ns)
    obtain ⟨hfq, hq8⟩ := lackL_ok A T
    have sq : sameB (lackL A T) (lackL A T) = true := same_refl _
    generalize lackL A T = Q at *
    have hqm : Q.length ≤ maxLen := by unfold maxLen; omega
    go_wp2_with fail
    refine (HSP.out w6).mono ?_
    rintro e w7 h7
    obtain ⟨a7, c7, rfl, hO7⟩ := h7.bs
    have hb7 := newO_blw hO7
    have R7 : BkS w7 a7 Z.length Z := it_bs (It.of_newO hO7)
    have K7 := K6.trans (hb7.mono K6.size)
    clear hO7 h7
    have R2n := R2.below hb7
    have RAn := RA.below hb7
    have BWn := BW.trans (hb7.mono BW.size)
    clear R2 RA BW
    have R2 := R2n
    have RA := RAn
    have BW := BWn
    clear R2n RAn BWn
    go_wp2_with fail
    refine (likeBsV_any a2 a7 Z.length c2 c7 Z w7 R2 R7 (by unfold maxLen; omega)).mono ?_
    rintro e w8 ⟨rfl, g8⟩
    have hb8 := g8.1
    have K8 := K7.trans (hb8.mono K7.size)
    clear g8 R7
    have R2n := R2.below hb8
    have RAn := RA.below hb8
    have BWn := BW.trans (hb8.mono BW.size)
    clear R2 RA BW
    have R2 := R2n
    have RA := RAn
    have BW := BWn
    clear R2n RAn BWn
    go_wp2_with fail
    refine (hA1 w8 RA.bs).mono ?_
    rintro e w9 ⟨a9, c9, rfl, hO9⟩
    have hb9 := newO_blw hO9
    have i9 := It.of_newO hO9
    have K9 := K8.trans (hb9.mono K8.size)
    clear hO9
    have R2n := R2.below hb9
    have RAn := RA.below hb9
    have BWn := BW.trans (hb9.mono BW.size)
    clear R2 RA BW
    have R2 := R2n
    have RA := RAn
    have BW := BWn
    clear R2n RAn BWn
    go_wp2_with fail
    refine (hA2 w9 RA.bs).mono ?_
    rintro e wA ⟨aA, cA, rfl, hOA⟩
    have hbA := newO_blw hOA
    have jA := It.of_newO hOA
    have KA := K9.trans (hbA.mono K9.size)
    clear hOA
    have R2n := R2.below hbA
    have i9n := i9.below hbA
    have BWn := BW.trans (hbA.mono BW.size)
    clear R2 i9 BW
    have R2 := R2n
    have i9 := i9n
    have BW := BWn
    clear R2n i9n BWn
    go_wp2_with fail
    refine (like_any _ _ _ _ _ _ Q Q _ (it_vec i9 hfq) (it_vec jA hfq) hqm).mono ?_
    rintro e wB ⟨rfl, nB, rfl⟩
    rw [sq]
    have hbB : Below wA.heap.size wA (wA.drewN nB) := belowN (Below.refl _ _)
    have KB := KA.trans (hbB.mono KA.size)
    have R2n := R2.below hbB
    have BWn := BW.trans (hbB.mono BW.size)
    clear R2 BW
    have R2 := R2n
    have BW := BWn
    clear R2n BWn
    have FZ : Hid (∀ g o, Flt w2 g o Z → Flt (wA.drewN nB) g o Z) := fun g o h => F3.out _ KB g o h
    generalize wA.drewN nB = WE at *
    clear i9 jA hA1 hA2 sq K4 K5 K6 K7 K8 K9 KA KB HJS HSP RA
    rcases hfl with hZ0 | ⟨g, o, rfl, hflt⟩
    · subst hZ0
      have h3 := HZN.out rfl
      have HB : Hid (Below w.heap.size w WE) := BW
      have w12 := wrap12 hz
      clear R2 HZN HZY HZF BW
      by_cases z1 : z < 1
      · go_wp2
        go_ret
        exact ⟨rfl, HB.out⟩
      · by_cases z2 : 100 < z
        · go_wp2
          go_ret
          exact ⟨rfl, HB.out⟩
        · have z3 : 12 * z < (s.length : Int) := by omega
          go_wp2
          go_ret
          exact ⟨rfl, HB.out⟩
    · by_cases hZ0 : Z = []
      · subst hZ0
        have h3 := HZN.out rfl
        have HB : Hid (Below w.heap.size w WE) := BW
        have w12 := wrap12 hz
        clear R2 HZN HZY HZF BW
        by_cases z1 : z < 1
        · go_wp2
          go_ret
          exact ⟨rfl, HB.out⟩
        · by_cases z2 : 100 < z
          · go_wp2
            go_ret
            exact ⟨rfl, HB.out⟩
          · have z3 : 12 * z < (s.length : Int) := by omega
            go_wp2
            go_ret
            exact ⟨rfl, HB.out⟩
      · have hm0 : 0 < Z.length := List.length_pos_iff.2 hZ0
        have ne0 : ((Z.length : Int) == 0) = false := by simp; exact hZ0
        have FL := FZ.out g o hflt
        have HLAW : Hid (∀ K, K < Z.length → joinL (Z.drop K ++ Z.take K ++ [bat Z K]) = (s, true) ∧ joinL (Z.take K ++ Z.drop (K + 1)) = ([], false) ∧ lackL (Z.take K ++ Z.drop (K + 1)) (Z.length : Int) = [(K : Int)]) := fun K hK => by
          obtain ⟨zz, m, h1, h2, h3, h4⟩ := HZY.out hZ0
          have hm : Z.length = m := by rw [h4, spl_len]
          rw [hm] at hK ⊢
          rw [h4]
          exact split_law h1 h2 h3 hK
        clear HZN HZY FZ F3 hflt hZ0
        have hv9 := hv.below BW (Nat.le_refl _)
        go_wp2_with fail
        refine (pick_any a len cap bs 1 (Z.length : Int) WE hv9 hl (by omega) (by omega) (by omega) (by omega)).mono ?_
        rintro e w9 ⟨x1, rfl, hx0, hx1, hw9⟩
        rw [hw9]
        clear hw9
        obtain ⟨K, rfl⟩ : ∃ K : Nat, x1 = (K : Int) := ⟨x1.toNat, by omega⟩
        have hK : K < Z.length := by omega
        have hcp1 := hcp.1
        have hcp2 := hcp.2
        have k0 : (0 : Int) ≤ (K : Int) := by omega
        have k1 : (K : Int) ≤ (Z.length : Int) := by omega
        have k2 : (K : Int) < (Z.length : Int) := by omega
        have kc : K < c2 := by omega
        have k3 : (K : Int) ≤ (c2 : Int) := by omega
        have kc' : ¬ (c2 = K) := by omega
        have kc2 : ¬ (c2 - K = 0) := by omega
        obtain ⟨hJ1, hJ2, hL1⟩ := HLAW.out K hK
        have FLY : ∀ Y, Below WE.heap.size WE Y → Flt Y g o Z := fun Y h => FL.below h
        have SS : ∀ Y, Below WE.heap.size WE Y → (Y.cell? ⟨g, o + K * 3, none⟩ = some (.int .i64 (bat Z K).1) ∧ Y.cell? ⟨g, o + K * 3 + 1, none⟩ = some (.int .i64 (bat Z K).2.1) ∧ Y.cell? ⟨g, o + K * 3 + 2, none⟩ = some (.string (sv (bat Z K).2.2)) ∧ Below WE.heap.size WE Y) := fun Y h => by
          obtain ⟨_, h0 | ⟨g', o', e', hcs⟩⟩ := (FLY Y h).bs
          · omega
          · cases e'
            obtain ⟨x0, x1, x2⟩ := hcs K hK
            exact ⟨x0, x1, x2, h⟩
        have FS : ∀ Y, (Y.cell? ⟨g, o + K * 3, none⟩ = some (.int .i64 (bat Z K).1) ∧ Y.cell? ⟨g, o + K * 3 + 1, none⟩ = some (.int .i64 (bat Z K).2.1) ∧ Y.cell? ⟨g, o + K * 3 + 2, none⟩ = some (.string (sv (bat Z K).2.2)) ∧ Below WE.heap.size WE Y) → Flt Y g o Z := fun Y h => FLY Y h.2.2.2
        have SB : ∀ Y V G, (Y.cell? ⟨g, o + K * 3, none⟩ = some (.int .i64 (bat Z K).1) ∧ Y.cell? ⟨g, o + K * 3 + 1, none⟩ = some (.int .i64 (bat Z K).2.1) ∧ Y.cell? ⟨g, o + K * 3 + 2, none⟩ = some (.string (sv (bat Z K).2.2)) ∧ Below WE.heap.size WE Y) → Y.grownBy V G → (∀ b, G = some b → WE.heap.size ≤ b) → Below WE.heap.size WE V := fun Y V G h hg hG => below_of_grown h.2.2.2 hg hG h.2.2.2.size
        have GA : ∀ Y V G G1, (Y.cell? ⟨g, o + K * 3, none⟩ = some (.int .i64 (bat Z K).1) ∧ Y.cell? ⟨g, o + K * 3 + 1, none⟩ = some (.int .i64 (bat Z K).2.1) ∧ Y.cell? ⟨g, o + K * 3 + 2, none⟩ = some (.string (sv (bat Z K).2.2)) ∧ Below WE.heap.size WE Y) → Y.grownBy V G1 → (∀ b, G1 = some b → WE.heap.size ≤ b) → (G = G1 ∨ G = some Y.heap.size) → ∀ b, G = some b → WE.heap.size ≤ b := fun Y V G G1 h hg h1 h2 b hb => by
          rcases h2 with e | e
          · rw [e] at hb; exact h1 b hb
          · rw [e] at hb; cases hb; exact h.2.2.2.size
        have bAA : ∀ o1 o2, Below WE.heap.size WE ((WE.alloc o1).alloc o2).drew := fun o1 o2 => belowN (n := 1) (((Below.refl _ _).alloc (Nat.le_refl _) _).alloc (by simp) _)
        have bA1 : ∀ o1, Below WE.heap.size WE (WE.alloc o1).drew := fun o1 => belowN (n := 1) ((Below.refl _ _).alloc (Nat.le_refl _) _)
        have bE0 : Below WE.heap.size WE WE.drew := (Same.drewN WE 1).below
        have hld : (bvs (Z.drop K)).length = (Z.length - K) * 3 := by rw [bvs_len, List.length_drop]
        have hlt3 : (bvs (Z.take K)).length = K * 3 := by rw [bvs_len, List.length_take]; congr 1; omega
        generalize hXL : Z.drop K ++ Z.take K ++ [bat Z K] = XL at *
        have HXL : Hid (XL.length = Z.length - K + K + 1 ∧ bvs XL = bvs (Z.drop K) ++ bvs (Z.take K) ++ [.int .i64 (bat Z K).1, .int .i64 (bat Z K).2.1, .string (sv (bat Z K).2.2)]) := by
          rw [Hid, ← hXL, bvs_app, bvs_app]
          exact ⟨by simp; omega, by simp [bvs]⟩
        have HXM : Hid (∀ b ∈ XL, b ∈ Z) := by
          rw [Hid, ← hXL]
          intro b hb
          rcases List.mem_append.1 hb with hb | hb
          · rcases List.mem_append.1 hb with h | h
            · exact List.mem_of_mem_drop h
            · exact List.mem_of_mem_take h
          · rw [List.mem_singleton] at hb; rw [hb]; exact bat_mem hK
        clear hXL
        go_wp2_with fail
        go_cut [14] from 93 to 107 (fun v wx => ∃ (a14 : Option Addr) (c14 : Nat) (G : Option Nat), v = .slice a14 XL.length c14 ∧ OSo wx 3 a14 XL.length c14 (bvs XL) G ∧ Below WE.heap.size WE wx)
        case first =>
          go_region_held3 (fun Y : World => Y.cell? ⟨g, o + K * 3, none⟩ = some (.int .i64 (bat Z K).1) ∧ Y.cell? ⟨g, o + K * 3 + 1, none⟩ = some (.int .i64 (bat Z K).2.1) ∧ Y.cell? ⟨g, o + K * 3 + 2, none⟩ = some (.string (sv (bat Z K).2.2)) ∧ Below WE.heap.size WE Y)
            (first | (with_reducible exact SS _ D3) | (with_reducible exact SS _ D2) | (with_reducible exact SS _ D1) | exact SS _ (D2.alloc D2.size _) | exact SS _ (D1.alloc D1.size _) | exact SS _ (bAA _ _) | exact SS _ (bA1 _) | exact SS _ bE0)
            (first
              | (refine step_append_oo _ (by rfl) (.tmp 93) (.tmp 96) 35 (by rfl) 46 i0 _ 3 32 Try.underlying35 hi0 hz0 hz1 hz2 rfl (by omega) _ 0 0 [] none (by rfl) (OSo.nil _ _ (plainS _ _)) (some ⟨g, o + K * 3, none⟩) (Z.length - K) (c2 - K) (bvs (Z.drop K)) (by rfl) hld (.inr ⟨_, rfl, (FS _ (by assumption)).drop⟩) (bvs_one _) (by unfold maxLen; omega) (by omega) ?_; intro a1 c1 G1 V1 hO1 hG1 hA1; have D1 := SB _ _ _ (by assumption) hG1 (fun b e => by cases e); have y1 := hG1.size; have hO1b := hO1; simp only [Nat.zero_add, List.nil_append] at hO1; have gA1 := GA _ _ _ _ (by assumption) hG1 (fun b e => by cases e) hA1; (first | have z1 := zq1 (C := #[.int .i64 (bat Z K).1, .int .i64 (bat Z K).2.1, .string (sv (bat Z K).2.2)]) hG1 (by simp) | have z1 := zq2 (C := #[.int .i64 (bat Z K).1, .int .i64 (bat Z K).2.1, .string (sv (bat Z K).2.2)]) hG1 (by simp) | skip))
              | (refine step_append_oo _ (by rfl) (.tmp 97) (.tmp 100) 35 (by rfl) 46 i0 _ 3 32 Try.underlying35 hi0 hz0 hz1 hz2 rfl (by omega) a1 (0 + (Z.length - K)) c1 ([] ++ bvs (Z.drop K)) G1 (by rfl) (by first | exact hO1b | exact oso_alloc hO1b _) (some ⟨g, o, none⟩) K c2 (bvs (Z.take K)) (by rfl) hlt3 (.inr ⟨_, rfl, (FS _ (by assumption)).take⟩) (bvs_one _) (by unfold maxLen; omega) (by omega) ?_; intro a2' c2' G2 V2 hO2b hG2 hA2; have hO2' := hO2b; (try simp only [Nat.zero_add, List.nil_append] at hO2'); have D2 := SB _ _ _ (by assumption) hG2 gA1; have gA2 := GA _ _ _ _ (by assumption) hG2 gA1 hA2; (first | have z2 := z1.grown hG2 (by rcases hA1 with h | h <;> rw [h] <;> simp <;> omega) | have z2 := zq3 (C := #[.int .i64 (bat Z K).1, .int .i64 (bat Z K).2.1, .string (sv (bat Z K).2.2)]) hG2 (fun e => Nat.lt_irrefl _ (hO1.lt e.symm)) | skip))
              | (refine step_append_oo _ (by rfl) (.tmp 97) (.tmp 100) 35 (by rfl) 46 i0 _ 3 32 Try.underlying35 hi0 hz0 hz1 hz2 rfl (by omega) a1 (Z.length - K) c1 (bvs (Z.drop K)) G1 (by rfl) (by first | exact hO1 | exact oso_alloc hO1 _) (some ⟨g, o, none⟩) K c2 (bvs (Z.take K)) (by rfl) hlt3 (.inr ⟨_, rfl, (FS _ (by assumption)).take⟩) (bvs_one _) (by unfold maxLen; omega) (by omega) ?_; intro a2' c2' G2 V2 hO2b hG2 hA2; have hO2' := hO2b; (try simp only [Nat.zero_add, List.nil_append] at hO2'); have D2 := SB _ _ _ (by assumption) hG2 gA1; have gA2 := GA _ _ _ _ (by assumption) hG2 gA1 hA2; (first | have z2 := z1.grown hG2 (by rcases hA1 with h | h <;> rw [h] <;> simp <;> omega) | have z2 := zq3 (C := #[.int .i64 (bat Z K).1, .int .i64 (bat Z K).2.1, .string (sv (bat Z K).2.2)]) hG2 (fun e => Nat.lt_irrefl _ (hO1.lt e.symm)) | skip))
              | (refine step_append_oo _ (by rfl) (.tmp 101) (.tmp 106) 35 (by rfl) 46 i0 _ 3 32 Try.underlying35 hi0 hz0 hz1 hz2 rfl (by omega) a2' (0 + (Z.length - K) + K) c2' ([] ++ bvs (Z.drop K) ++ bvs (Z.take K)) G2 (by rfl) (by first | exact hO2b | exact oso_alloc hO2b _) _ 1 1 [.int .i64 (bat Z K).1, .int .i64 (bat Z K).2.1, .string (sv (bat Z K).2.2)] (by rfl) rfl (.inr ⟨_, rfl, World.news_of_block (by first | exact heap_alloc_new _ _ | exact z2)⟩) (by simp [Value.oneCell']) (by unfold maxLen; omega) (by omega) ?_; intro a3 c3' G3 V3 hO3 hG3 hA3; (try simp only [Nat.zero_add, List.nil_append] at hO3); have D3 := SB _ _ _ (by assumption) hG3 gA2)
              | (refine step_append_oo _ (by rfl) (.tmp 101) (.tmp 106) 35 (by rfl) 46 i0 _ 3 32 Try.underlying35 hi0 hz0 hz1 hz2 rfl (by omega) a2' (Z.length - K + K) c2' (bvs (Z.drop K) ++ bvs (Z.take K)) G2 (by rfl) (by first | exact hO2' | exact oso_alloc hO2' _) _ 1 1 [.int .i64 (bat Z K).1, .int .i64 (bat Z K).2.1, .string (sv (bat Z K).2.2)] (by rfl) rfl (.inr ⟨_, rfl, World.news_of_block (by first | exact heap_alloc_new _ _ | exact z2)⟩) (by simp [Value.oneCell']) (by unfold maxLen; omega) (by omega) ?_; intro a3 c3' G3 V3 hO3 hG3 hA3; (try simp only [Nat.zero_add, List.nil_append] at hO3); have D3 := SB _ _ _ (by assumption) hG3 gA2)
              | fail)
          all_goals (try go_wp2_with fail)
          all_goals go_meet
          all_goals exact ⟨a3, c3', G3, by rw [HXL.out.1], by rw [HXL.out.1, HXL.out.2]; exact hO3, D3⟩
        case rest =>
          obtain ⟨a14, c14, G14, rfl, hO14, B14⟩ := hcut
          rename_i KK hKK
          refine hKK _ _ ?_
          clear hKK
          clear KK
          obtain ⟨R14, hc14, hm14⟩ := oso_bs hO14 rfl
          have hXl : XL.length ≤ 13 := by have := HXL.out.1; omega
          have cX := hJn a14 c14 XL wc R14 (HZF.out XL HXM.out).1 (HZF.out XL HXM.out).2 hc14 hm14 (by omega)
          rw [show (joinL XL).1 = s by rw [hJ1], show (joinL XL).2 = true by rw [hJ1]] at cX
          clear hJ1 HXL HXM hO14 R14
          go_wp2_with fail
          refine cX.mono ?_
          rintro e wF ⟨rfl, hbF⟩
          have BF : Below WE.heap.size WE wF := B14.trans (hbF.mono B14.size)
          clear cX hbF B14 SS FS SB GA bAA bA1 bE0
          obtain ⟨YL, hYL'⟩ : ∃ YL, YL = Z.take K ++ Z.drop (K + 1) := ⟨_, rfl⟩
          have hYL := hYL'.symm
          rw [hYL] at hJ2 hL1
          clear hYL'
          have HYL : Hid (YL.length = K + (Z.length - (K + 1)) ∧ bvs YL = bvs (Z.take K) ++ bvs (Z.drop (K + 1))) := by
            rw [Hid, ← hYL, bvs_app]
            exact ⟨by simp; omega, rfl⟩
          have HYM : Hid (∀ b ∈ YL, b ∈ Z) := by
            rw [Hid, ← hYL]
            intro b hb
            rcases List.mem_append.1 hb with h | h
            · exact List.mem_of_mem_take h
            · exact List.mem_of_mem_drop h
          clear hYL
          have q0 : (0 : Int) ≤ (K : Int) + 1 := by omega
          have q1 : (K : Int) + 1 ≤ (Z.length : Int) := by omega
          have q3 : (K : Int) + 1 ≤ (c2 : Int) := by omega
          have hld1 : (bvs (Z.drop (K + 1))).length = (Z.length - (K + 1)) * 3 := by rw [bvs_len, List.length_drop]
          have SB : ∀ Y V G, Below WE.heap.size WE Y → Y.grownBy V G → (∀ b, G = some b → WE.heap.size ≤ b) → Below WE.heap.size WE V := fun Y V G h hg hG => below_of_grown h hg hG h.size
          have GA : ∀ Y V G G1, Below WE.heap.size WE Y → Y.grownBy V G1 → (∀ b, G1 = some b → WE.heap.size ≤ b) → (G = G1 ∨ G = some Y.heap.size) → ∀ b, G = some b → WE.heap.size ≤ b := fun Y V G G1 h hg h1 h2 b hb => by
            rcases h2 with e | e
            · rw [e] at hb; exact h1 b hb
            · rw [e] at hb; cases hb; exact h.size
          have hYl : YL.length ≤ 1048576 := by have := HYL.out.1; omega
          have hzb : I64b (Z.length : Int) := i64b_small ⟨by omega, by omega⟩
          have BA0 : Below WE.heap.size WE wF.drew := belowN (n := 1) BF
          have BA1 : ∀ o1, Below WE.heap.size WE (wF.alloc o1).drew := fun o1 => belowN (n := 1) (BF.alloc BF.size _)
          have hle1 : K + (Z.length - (K + 1)) = YL.length := HYL.out.1.symm
          have kc3 : c2 = K + 1 ∨ ¬ (c2 = K + 1) := by omega
          have x63a : 0 + K ≤ maxLen := by unfold maxLen; omega
          have x63b : 0 + K + (Z.length - (K + 1)) ≤ maxLen := by unfold maxLen; omega
          have x63c : K + (Z.length - (K + 1)) ≤ maxLen := by unfold maxLen; omega
          have xba : (0 + K) * 32 ≤ 140737488355328 := by omega
          have xbb : (0 + K + (Z.length - (K + 1))) * 32 ≤ 140737488355328 := by omega
          have xbc : (K + (Z.length - (K + 1))) * 32 ≤ 140737488355328 := by omega
          have x17 : c2 = K + 1 → Z.length - (K + 1) = 0 := fun h => by omega
          have hk100 : K ≤ 100 := by omega
          have x03 : 0 < 3 := by decide
          have x63d : K + 0 ≤ maxLen := by unfold maxLen; omega
          have xbd : (K + 0) * 32 ≤ 140737488355328 := by omega
          have k1c : (K : Int) ≤ (K : Int) + 1 := by omega
          have x18 : ¬ (c2 = K + 1) → ¬ (c2 - (K + 1) = 0) ∧ K + 1 < c2 := fun h => by omega
          have qn : ((K : Int) + 1).toNat = K + 1 := natK1 K
          have wK : IntKind.i64.wrap ((K : Int) + 1) = (K : Int) + 1 := wrapKi hk100
          go_wp2_with fail
          go_cut [17] from 113 to 122 (fun v wx => ∃ (a17 : Option Addr) (c17 : Nat) (G : Option Nat), v = .slice a17 YL.length c17 ∧ OSo wx 3 a17 YL.length c17 (bvs YL) G ∧ Below WE.heap.size WE wx)
          case first =>
            rcases kc3 with kc3 | kc3
            · have hz17 := x17 kc3
              have hd17 : bvs (Z.drop (K + 1)) = [] := List.eq_nil_of_length_eq_zero (by rw [hld1, hz17])
              have hYK : YL.length = K := by rw [← hle1, hz17]; rfl
              have hYB : bvs YL = bvs (Z.take K) := by rw [HYL.out.2, hd17, List.append_nil]
              subst kc3
              have q4 : (K : Int) ≤ (K : Int) + 1 := k1c
              have q5 : (Z.length : Int) ≤ (K : Int) + 1 := zk1 hcp1
              have kc4 : K + 1 - (K + 1) = 0 := Nat.sub_self _
              go_region_held3 (fun Y : World => Below WE.heap.size WE Y)
                (first | (with_reducible exact D2) | (with_reducible exact D1) | exact BA1 _ | exact BA0)
                (first
                  | (refine step_append_oo _ (by rfl) (.tmp 113) (.tmp 116) 35 (by rfl) 46 i0 _ 3 32 Try.underlying35 hi0 hz0 hz1 hz2 rfl x03 _ 0 0 [] none (by rfl) (OSo.nil _ _ (plainS _ _)) (some ⟨g, o, none⟩) K _ (bvs (Z.take K)) (by rfl) hlt3 (.inr ⟨_, rfl, (FLY _ (by assumption)).take⟩) (bvs_one _) x63a xba ?_; intro a1 c1 G1 V1 hO1 hG1 hA1; have D1 := SB _ _ _ (by assumption) hG1 (fun b e => by cases e); have hO1b := hO1; simp only [Nat.zero_add, List.nil_append] at hO1; have gA1 := GA _ _ _ _ (by assumption) hG1 (fun b e => by cases e) hA1)
                  | (refine step_append_oo _ (by rfl) (.tmp 117) (.tmp 121) 35 (by rfl) 46 i0 _ 3 32 Try.underlying35 hi0 hz0 hz1 hz2 rfl x03 a1 (0 + K) c1 ([] ++ bvs (Z.take K)) G1 (by rfl) hO1b _ 0 _ [] (by rfl) rfl (.inl rfl) none_one11 x63a xba ?_; intro a2' c2' G2 V2 hO2b hG2 hA2; have hO2' := hO2b; (try simp only [Nat.zero_add, List.nil_append, Nat.add_zero, List.append_nil] at hO2'); have D2 := SB _ _ _ (by assumption) hG2 gA1)
                  | (refine step_append_oo _ (by rfl) (.tmp 117) (.tmp 121) 35 (by rfl) 46 i0 _ 3 32 Try.underlying35 hi0 hz0 hz1 hz2 rfl x03 a1 K c1 (bvs (Z.take K)) G1 (by rfl) hO1 _ 0 _ [] (by rfl) rfl (.inl rfl) none_one11 x63d xbd ?_; intro a2' c2' G2 V2 hO2b hG2 hA2; have hO2' := hO2b; (try simp only [Nat.zero_add, List.nil_append, Nat.add_zero, List.append_nil] at hO2'); have D2 := SB _ _ _ (by assumption) hG2 gA1)
                  | fail)
              all_goals (try go_wp2_with fail)
              all_goals go_meet
              all_goals exact ⟨a2', c2', G2, by rw [hYK], by rw [hYK, hYB]; exact hO2', D2⟩
            · obtain ⟨kc4, kc5⟩ := x18 kc3
              go_region_held3 (fun Y : World => Below WE.heap.size WE Y)
                (first | (with_reducible exact D2) | (with_reducible exact D1) | exact BA1 _ | exact BA0)
                (first
                  | (refine step_append_oo _ (by rfl) (.tmp 113) (.tmp 116) 35 (by rfl) 46 i0 _ 3 32 Try.underlying35 hi0 hz0 hz1 hz2 rfl x03 _ 0 0 [] none (by rfl) (OSo.nil _ _ (plainS _ _)) (some ⟨g, o, none⟩) K c2 (bvs (Z.take K)) (by rfl) hlt3 (.inr ⟨_, rfl, (FLY _ (by assumption)).take⟩) (bvs_one _) x63a xba ?_; intro a1 c1 G1 V1 hO1 hG1 hA1; have D1 := SB _ _ _ (by assumption) hG1 (fun b e => by cases e); have hO1b := hO1; simp only [Nat.zero_add, List.nil_append] at hO1; have gA1 := GA _ _ _ _ (by assumption) hG1 (fun b e => by cases e) hA1)
                  | (refine step_append_oo _ (by rfl) (.tmp 117) (.tmp 121) 35 (by rfl) 46 i0 _ 3 32 Try.underlying35 hi0 hz0 hz1 hz2 rfl x03 a1 (0 + K) c1 ([] ++ bvs (Z.take K)) G1 (by rfl) hO1b (some ⟨g, o + (K + 1) * 3, none⟩) (Z.length - (K + 1)) (c2 - (K + 1)) (bvs (Z.drop (K + 1))) (by rfl) hld1 (.inr ⟨_, rfl, (FLY _ (by assumption)).drop⟩) (bvs_one _) x63b xbb ?_; intro a2' c2' G2 V2 hO2b hG2 hA2; have hO2' := hO2b; (try simp only [Nat.zero_add, List.nil_append] at hO2'); have D2 := SB _ _ _ (by assumption) hG2 gA1)
                  | (refine step_append_oo _ (by rfl) (.tmp 117) (.tmp 121) 35 (by rfl) 46 i0 _ 3 32 Try.underlying35 hi0 hz0 hz1 hz2 rfl x03 a1 K c1 (bvs (Z.take K)) G1 (by rfl) hO1 (some ⟨g, o + (K + 1) * 3, none⟩) (Z.length - (K + 1)) (c2 - (K + 1)) (bvs (Z.drop (K + 1))) (by rfl) hld1 (.inr ⟨_, rfl, (FLY _ (by assumption)).drop⟩) (bvs_one _) x63c xbc ?_; intro a2' c2' G2 V2 hO2b hG2 hA2; have hO2' := hO2b; (try simp only [Nat.zero_add, List.nil_append] at hO2'); have D2 := SB _ _ _ (by assumption) hG2 gA1)
                  | fail)
              all_goals (try go_wp2_with fail)
              all_goals go_meet
              all_goals exact ⟨a2', c2', G2, by rw [← hle1], by rw [← hle1, HYL.out.2]; exact hO2', D2⟩
          case rest =>
            obtain ⟨a17, c17, G17, rfl, hO17, B17⟩ := hcut
            rename_i KK hKK
            refine hKK _ _ ?_
            clear hKK
            clear KK
            obtain ⟨R17, hc17, hm17⟩ := oso_bs hO17 rfl
            have cY := hJn a17 c17 YL wc R17 (HZF.out YL HYM.out).1 (HZF.out YL HYM.out).2 hc17 hm17 hYl
            rw [show (joinL YL).1 = [] by rw [hJ2], show (joinL YL).2 = false by rw [hJ2]] at cY
            have cL := fun X (h : BkS X a17 YL.length YL) => hLk a17 c17 YL (Z.length : Int) X h (HZF.out YL HYM.out).1 (HZF.out YL HYM.out).2 hc17 hm17 hYl hzb
            rw [hL1] at cL
            clear hJ2 hL1 HYL HYM hO17 SB GA BA0 BA1
            go_wp2_with fail
            refine cY.mono ?_
            rintro e wG ⟨rfl, hbG⟩
            have BG : Below WE.heap.size WE wG := B17.trans (hbG.mono B17.size)
            have cL2 := cL wG (R17.below hbG)
            clear cY R17 hbG B17 cL
            have hfK := fits_one hk100
            have hsame := same_refl [(K : Int)]
            clear wK
            go_wp2_with fail
            refine cL2.mono ?_
            rintro e wH ⟨aH, cH, rfl, hOH⟩
            have hbH := newO_blw hOH
            have iH := It.of_newO hOH
            have BH : Below WE.heap.size WE wH := BG.trans (hbH.mono BG.size)
            have HBH : Hid (Below w.heap.size w wH) := BW.trans (BH.mono BW.size)
            have vH := (it_vec iH hfK).below (one_new11 wH (.cells #[.int .i64 (K : Int)] 2)) (Nat.le_refl _)
            have vN := vec_new11 wH hfK
            clear hOH hbH iH BH BG cL2
            go_wp2_with fail
            refine (like_any _ _ _ _ _ _ [(K : Int)] [(K : Int)] _ vH vN one_max11).mono ?_
            rintro e wI ⟨rfl, nI, rfl⟩
            rw [hsame]
            clear vH vN
            go_wp2
            go_ret
            exact ⟨rfl, belowN (HBH.out.trans ((one_new11 _ _).mono HBH.out.size))⟩
end Go.Proofs.Ythlaaldicmfcnaa
