/-
  Several texts in one: Lbj.
-/
import Derived.Test.YthlaaldicmfcnaaKp
/-
  The walks of the exact laws of Lacking and Joined FROM what the program's functions answer.
-/
namespace Go.Proofs.Ythlaaldicmfcnaa
set_option linter.unusedVariables false
set_option linter.unusedSimpArgs false
open Go.RowKit Go.Sort

attribute [local irreducible] sv
set_option maxHeartbeats 800000 in
theorem sz1_any (x y q : Int) (z : List UInt8) (w : World) (hq : 0 ≤ q ∧ q ≤ 1048576) (hz : z.length ≤ 9223372036854775807) : Calls Try.prog 73 #[.agg #[.int .i64 x, .int .i64 y, .string (sv z)], .int .i64 q] w fun e w' => e = .returned (.int .i64 (if (z.length : Int) ≤ q then q - (z.length : Int) else -1)) ∧ Below w.heap.size w w' := by
  have hsz := sv_size z
  have h1 : wrap64 (q - (z.length : Int)) = q - (z.length : Int) := by unfold wrap64; omega
  have HB : ∀ o, Hid (Below w.heap.size w (w.alloc o)) := fun o => one_alloc10 w o
  by_cases h : (z.length : Int) ≤ q
  · rw [if_pos h]
    have h2 : decide (q - (z.length : Int) < 0) = false := by simp; omega
    have h3 : ¬ (q - (z.length : Int) < 0) := by omega
    go_enter Try.func73, Try.ntmps73
    go_wp2
    go_ret
    exact ⟨rfl, (HB _).out⟩
  · rw [if_neg h]
    have h2 : decide (q - (z.length : Int) < 0) = true := by simp; omega
    have h3 : q - (z.length : Int) < 0 := by omega
    go_enter Try.func73, Try.ntmps73
    go_wp2
    go_ret
    exact ⟨rfl, (HB _).out⟩
/-- What a law may go on with. -/
def SzOk (L : List Blk) : Prop := L.length ≤ 1048576 ∧ ∀ i, i < L.length → (bat L i).2.2.length ≤ 1048576
theorem SzOk.short {L : List Blk} (h : SzOk L) : ShortB L := fun i hi => by have := h.2 i hi; omega
def LongB (L : List Blk) : Prop := ∀ i, i < L.length → (bat L i).2.2.length ≤ 9223372036854775807
set_option maxRecDepth 100000 in
set_option maxHeartbeats 1600000 in
theorem szBs_any (a : Option Addr) (n cap : Nat) (L : List Blk) (w : World) (hv : BkS w a n L) (hlg : LongB L) (hm : n ≤ maxLen) :
    Calls Try.prog 40 #[.slice a n cap, .int .i64 1048576] w fun e w' => (e = .returned (.int .i64 (-1)) ∨ ∃ q : Int, 0 ≤ q ∧ e = .returned (.int .i64 q) ∧ SzOk L) ∧ Below w.heap.size w w' := by
  unfold maxLen at hm
  have HN : Hid (L.length = n) := hv.1
  have HV : Hid (BkS w a n L) := hv
  have h1 : wrap64 ((1048576 : Int) - (n : Int)) = 1048576 - (n : Int) := by unfold wrap64; omega
  clear hv
  by_cases hn : n ≤ 1048576
  · have h3 : ¬ ((1048576 : Int) - (n : Int) < 0) := by omega
    go_enter Try.func40, Try.ntmps40
    go_wp2
    go_loopw [1, 5] (fun q i wr => ∃ (k : Nat) (Q : Int), k ≤ n ∧ i = .int .i64 (k : Int) ∧ q = .int .i64 Q ∧ (0 ≤ Q ∧ Q ≤ 1048576) ∧ (∀ j, j < k → (bat L j).2.2.length ≤ 1048576) ∧ Below w.heap.size w wr) (fun _ i _ => n - (intOf i).toNat)
    case atStart => exact ⟨0, _, Nat.zero_le _, rfl, rfl, ⟨by omega, by omega⟩, fun j hj => by omega, Below.refl _ _⟩
    case round =>
      obtain ⟨k, Q, hk, rfl, rfl, hQ, hall, hb⟩ := hrel
      have HA : Hid (∀ j, j < k → (bat L j).2.2.length ≤ 1048576) := hall
      have HB : Hid (Below w.heap.size w wr) := hb
      clear hall h1 h3
      by_cases hlt : k < n
      · have k1 : (k : Int) < (n : Int) := by omega
        have k0 : (0 : Int) ≤ (k : Int) := by omega
        obtain ⟨_, h0 | ⟨bb, bo, rfl, hcs⟩⟩ := HV.out.below hb
        · omega
        obtain ⟨c0, c1, c2⟩ := hcs k hlt
        have hzl := hlg k (by rw [HN.out]; exact hlt)
        have C := sz1_any (bat L k).1 (bat L k).2.1 Q (bat L k).2.2 wr hQ hzl
        have HNX : Hid (((bat L k).2.2.length : Int) ≤ Q → ∀ j, j < k + 1 → (bat L j).2.2.length ≤ 1048576) := fun h j hj => by
          rcases Nat.lt_succ_iff_lt_or_eq.1 hj with h' | h'
          · exact HA.out j h'
          · rw [h']; omega
        generalize (bat L k).1 = x at *
        generalize (bat L k).2.1 = y at *
        generalize (bat L k).2.2 = z at *
        clear hcs hb
        by_cases hz : (z.length : Int) ≤ Q
        · rw [if_pos hz] at C
          have z1 : ¬ (Q - (z.length : Int) < 0) := by omega
          have HX := HNX.out hz
          go_wp2_with fail
          refine C.mono ?_
          rintro e w1 ⟨rfl, hb1⟩
          have B1 : Hid (Below w.heap.size w w1) := HB.out.trans (hb1.mono HB.out.size)
          have HX2 : Hid (∀ j, j < k + 1 → (bat L j).2.2.length ≤ 1048576) := HX
          clear hb1 C HX
          go_wp2
          go_roundw
          case rel => exact ⟨k + 1, Q - (z.length : Int), by omega, by go_num, rfl, ⟨by omega, by omega⟩, HX2.out, B1.out⟩
          case measure => simp [intOf]; omega
        · rw [if_neg hz] at C
          go_wp2_with fail
          refine C.mono ?_
          rintro e w1 ⟨rfl, hb1⟩
          have B1 : Hid (Below w.heap.size w w1) := HB.out.trans (hb1.mono HB.out.size)
          clear hb1 C
          go_wp2
          go_ret
          exact ⟨.inl rfl, B1.out⟩
      · have k1 : ¬ ((k : Int) < (n : Int)) := by omega
        obtain rfl : k = n := by omega
        go_wp2
        go_ret
        exact ⟨.inr ⟨Q, hQ.1, rfl, by rw [SzOk, HN.out]; exact ⟨hn, HA.out⟩⟩, HB.out⟩
  · have h3 : (1048576 : Int) - (n : Int) < 0 := by omega
    go_enter Try.func40, Try.ntmps40
    go_wp2
    go_ret
    exact ⟨.inl rfl, Below.refl _ _⟩
theorem fitsB_of {L : List Blk} (h : FitsB L) : FitsB L := h
set_option maxRecDepth 100000 in
set_option maxHeartbeats 3200000 in
theorem lawJoined (hI : ImplJoined) (a : Option Addr) (cap : Nat) (L : List Blk) (w : World) (hv : BkS w a L.length L) (hf : FitsB L) (hlg : LongB L) (hc : L.length ≤ cap) (hm : cap ≤ maxLen) :
    Calls Try.prog 7 #[.slice a L.length cap] w fun e w' => e = .returned (.bool true) ∧ Below w.heap.size w w' := by
  have hSz := szBs_any a L.length cap L w hv hlg (by omega)
  go_enter Try.func7, Try.ntmps7
  go_wp2_with fail
  refine hSz.mono ?_
  rintro e w1 ⟨rfl | ⟨q, hq, rfl, hok⟩, b1⟩
  · have HB : Hid (Below w.heap.size w w1) := b1
    clear b1 hSz
    go_wp2
    go_ret
    exact ⟨rfl, HB.out⟩
  · have q1 : ¬ (q < 0) := by omega
    have hl := hok.1
    have hsh := hok.short
    have hTo : ∀ X, Below w.heap.size w X → Calls Try.prog 41 #[.slice a L.length cap] X fun e w' => e = .returned (.slice (some ⟨X.heap.size, 0, none⟩) L.length L.length) ∧ OB w' X.heap.size 0 L.length L.length L ∧ Below X.heap.size X w' := fun X hX => toBs_any a L.length cap L X (hv.below hX) hl
    have hBs : ∀ {X : World} {g : Nat}, OB X g 0 L.length L.length L → BkS X (some ⟨g, 0, none⟩) L.length L := fun {X g} h => it_bs (it_ob (lo := g) (hi := g + 1) h rfl ⟨Nat.le_refl _, by omega⟩)
    have hSp := fun X g (h : OB X g 0 L.length L.length L) => joiS_any (some ⟨g, 0, none⟩) L.length L.length L X (hBs h) hsh hl
    have hIm := fun X g (h : OB X g 0 L.length L.length L) => hI (some ⟨g, 0, none⟩) L.length L X (hBs h) hf hsh (Nat.le_refl _) (by unfold maxLen; omega) hl
    generalize (joinL L).1 = J at *
    generalize (joinL L).2 = t at *
    have hne : ((sv J).toList == (sv J).toList) = true := by simp
    have hnt : (t != t) = false := by simp
    clear hSz
    go_wp2_with fail
    refine (hTo w1 b1).mono ?_
    rintro e w2 ⟨rfl, o2, b2⟩
    have B2 : Below w.heap.size w w2 := b1.trans (b2.mono b1.size)
    go_wp2_with fail
    refine (hSp w2 _ o2).mono ?_
    rintro e w3 ⟨rfl, b3⟩
    have B3 : Below w.heap.size w w3 := B2.trans (b3.mono B2.size)
    go_wp2_with fail
    refine (hTo w3 B3).mono ?_
    rintro e w4 ⟨rfl, o4, b4⟩
    have B4 : Below w.heap.size w w4 := B3.trans (b4.mono B3.size)
    go_wp2_with fail
    refine (hIm w4 _ o4).mono ?_
    rintro e w5 ⟨rfl, b5⟩
    have o5 := o4.below b5 o4.blk
    have B5 : Below w.heap.size w w5 := B4.trans (b5.mono B4.size)
    clear o4 o2 b2 b3 b4 b5
    go_wp2_with fail
    refine (hTo w5 B5).mono ?_
    rintro e w6 ⟨rfl, o6, b6⟩
    have p6 := o5.below b6 o5.blk
    have B6 : Below w.heap.size w w6 := B5.trans (b6.mono B5.size)
    go_wp2_with fail
    refine (eqBsV_any _ _ L.length _ _ L w6 (hBs p6) (hBs o6) (by unfold maxLen; omega)).mono ?_
    rintro e w7 ⟨rfl, g7⟩
    have B7 : Hid (Below w.heap.size w w7) := B6.trans (g7.1.mono B6.size)
    clear g7 o5 o6 p6 b6 B6
    go_wp2
    go_ret
    exact ⟨rfl, B7.out⟩
set_option maxRecDepth 100000 in
set_option maxHeartbeats 3200000 in
theorem lawLacking (hI : ImplLacking) (a : Option Addr) (cap : Nat) (L : List Blk) (total : Int) (w : World) (hv : BkS w a L.length L) (hf : FitsB L) (hlg : LongB L) (hc : L.length ≤ cap) (hm : cap ≤ maxLen) (ht : I64b total) :
    Calls Try.prog 6 #[.slice a L.length cap, .int .i64 total] w fun e w' => e = .returned (.bool true) ∧ Below w.heap.size w w' := by
  have hSz := szBs_any a L.length cap L w hv hlg (by omega)
  go_enter Try.func6, Try.ntmps6
  go_wp2_with fail
  refine hSz.mono ?_
  rintro e w1 ⟨rfl | ⟨q, hq, rfl, hok⟩, b1⟩
  · have HB : Hid (Below w.heap.size w w1) := b1
    clear b1 hSz
    go_wp2
    go_ret
    exact ⟨rfl, HB.out⟩
  · have q1 : ¬ (q < 0) := by omega
    have hl := hok.1
    have hsh := hok.short
    have hTo : ∀ X, Below w.heap.size w X → Calls Try.prog 41 #[.slice a L.length cap] X fun e w' => e = .returned (.slice (some ⟨X.heap.size, 0, none⟩) L.length L.length) ∧ OB w' X.heap.size 0 L.length L.length L ∧ Below X.heap.size X w' := fun X hX => toBs_any a L.length cap L X (hv.below hX) hl
    have hBs : ∀ {X : World} {g : Nat}, OB X g 0 L.length L.length L → BkS X (some ⟨g, 0, none⟩) L.length L := fun {X g} h => it_bs (it_ob (lo := g) (hi := g + 1) h rfl ⟨Nat.le_refl _, by omega⟩)
    have hIt : ∀ {X : World} {g : Nat}, OB X g 0 L.length L.length L → It X [bcl L] [.slice (some ⟨g, 0, none⟩) L.length L.length] g (g + 1) := fun {X g} h => it_ob (lo := g) (hi := g + 1) h rfl ⟨Nat.le_refl _, by omega⟩
    have hSp := fun X g (h : OB X g 0 L.length L.length L) => (lacS_any (some ⟨g, 0, none⟩) L.length L.length L total X (hBs h) hsh (by unfold maxLen; omega)).mono (fun e w' h => h.ns)
    have hIm := fun X g (h : OB X g 0 L.length L.length L) => hI (some ⟨g, 0, none⟩) L.length L total X (hBs h) hf hsh (Nat.le_refl _) (by unfold maxLen; omega) hl ht
    obtain ⟨hfz, hz8⟩ := lackL_ok L total
    have hzm : (lackL L total).length ≤ maxLen := by unfold maxLen; omega
    generalize lackL L total = Z at *
    clear hSz
    go_wp2_with fail
    refine (hTo w1 b1).mono ?_
    rintro e w2 ⟨rfl, o2, b2⟩
    have B2 : Below w.heap.size w w2 := b1.trans (b2.mono b1.size)
    go_wp2_with fail
    refine (hSp w2 _ o2).mono ?_
    rintro e w3 ⟨a3, c3, rfl, hO3⟩
    have b3 := newO_blw hO3
    have j3 := It.of_newO hO3
    have B3 : Below w.heap.size w w3 := B2.trans (b3.mono B2.size)
    clear hO3
    go_wp2_with fail
    refine (hTo w3 B3).mono ?_
    rintro e w4 ⟨rfl, o4, b4⟩
    have j4 := j3.below b4
    have B4 : Below w.heap.size w w4 := B3.trans (b4.mono B3.size)
    go_wp2_with fail
    refine (hIm w4 _ o4).mono ?_
    rintro e w5 ⟨a5, c5, rfl, hO5⟩
    have b5 := newO_blw hO5
    have i5 := It.of_newO hO5
    have o5 := o4.below b5 o4.blk
    have o4l := o4.blk
    have j5 := j4.below b5
    have B5 : Below w.heap.size w w5 := B4.trans (b5.mono B4.size)
    have s2 := B2.size
    have s23 := b3.size
    have s34 := b4.size
    have s45 := b5.size
    clear hO5 j3 j4 o4 o2
    go_wp2_with fail
    refine (eq_any _ _ _ _ _ _ Z Z _ (it_vec i5 hfz) (it_vec j5 hfz) hzm).mono ?_
    rintro e w6 ⟨rfl, n6, rfl⟩
    rw [show decide (Z = Z) = true by simp]
    have i6 := i5.drewN n6
    have j6 := j5.drewN n6
    have o6 : OB (w5.drewN n6) w3.heap.size 0 L.length L.length L := OSl.drewN o5 n6
    have B6 : Below w.heap.size w (w5.drewN n6) := belowN B5
    have s6 : w5.heap.size ≤ (w5.drewN n6).heap.size := Nat.le_refl _
    generalize w5.drewN n6 = w6 at *
    clear i5 j5 o5
    go_wp2_with fail
    refine (hTo w6 B6).mono ?_
    rintro e w7 ⟨rfl, o7, b7⟩
    have p7 := o6.below b7 o6.blk
    have i7 := i6.below b7
    have j7 := j6.below b7
    have B7 : Below w.heap.size w w7 := B6.trans (b7.mono B6.size)
    clear i6 j6 o6
    go_wp2_with fail
    refine (eqBsV_any _ _ L.length _ _ L w7 (hBs p7) (hBs o7) (by unfold maxLen; omega)).mono ?_
    rintro e w8 ⟨rfl, g8⟩
    have b8 := g8.1
    have p8 := p7.below b8 p7.blk
    have i8 := i7.below b8
    have j8 := j7.below b8
    have B8 : Below w.heap.size w w8 := B7.trans (b8.mono B7.size)
    have s78 := b8.size
    have s67 := b7.size
    clear g8 i7 j7 p7 o7
    go_wp2_with fail
    refine (markB_it (some ⟨w3.heap.size, 0, none⟩) L.length 1 _ _ L w8 (hIt p8) (Nat.le_refl _) hl (by omega)).mono ?_
    rintro e w9 ⟨rfl, m9, hw9⟩
    have i9 := i8.far hw9 (.inl (by omega))
    have j9 := j8.far hw9 (.inr (by omega))
    have B9 : Below w.heap.size w w9 := below_iv hw9 B8 B8.size (by omega)
    have s89 := hw9.size
    clear i8 j8 p8 hw9 m9
    have k0 : ¬ (((1 + L.length * 3 : Nat) : Int) < 0) := by omega
    generalize 1 + L.length * 3 = K9 at *
    go_wp2_with fail
    refine (eq_any _ _ _ _ _ _ Z Z _ (it_vec i9 hfz) (it_vec j9 hfz) hzm).mono ?_
    rintro e wA ⟨rfl, nA, rfl⟩
    rw [show decide (Z = Z) = true by simp]
    have iA := i9.drewN nA
    have jA := j9.drewN nA
    have BA : Below w.heap.size w (w9.drewN nA) := belowN B9
    have sA : w9.heap.size ≤ (w9.drewN nA).heap.size := Nat.le_refl _
    generalize w9.drewN nA = wA at *
    clear i9 j9
    go_wp2_with fail
    refine (mkI_it a5 c5 1 _ _ Z wA iA (by omega) (by omega)).mono ?_
    rintro e wB ⟨rfl, iB, hwB⟩
    have jB := jA.far hwB (.inr (by omega))
    have BB : Below w.heap.size w wB := below_iv hwB BA BA.size (by omega)
    have sB := hwB.size
    clear iA jA hwB
    have hq0 : ¬ (((1 : Nat) : Int) + (Z.length : Int) < 0) := by omega
    have hq1 : (((1 : Nat) : Int) + (Z.length : Int) != ((1 : Nat) : Int) + (Z.length : Int)) = false := by simp
    have hH1 := hdI_it a5 c5 1 Z.length _ _ wB iB (by omega) (by omega)
    generalize hQ9 : ((1 : Nat) : Int) + (Z.length : Int) = Q9 at *
    go_wp2_with fail
    refine hH1.mono ?_
    rintro e wC ⟨rfl, rfl⟩
    go_wp2_with fail
    refine (hTo wC BB).mono ?_
    rintro e wD ⟨rfl, oD, bD⟩
    have iD := iB.below bD
    have jD := jB.below bD
    have BD : Below w.heap.size w wD := BB.trans (bD.mono BB.size)
    clear iB jB hH1
    go_wp2_with fail
    refine (hIm wD _ oD).mono ?_
    rintro e wE ⟨aE, cE, rfl, hOE⟩
    have bE := newO_blw hOE
    have kE := It.of_newO hOE
    have iE := iD.below bE
    have jE := jD.below bE
    have BE : Below w.heap.size w wE := BD.trans (bE.mono BD.size)
    clear hOE iD jD oD
    go_wp2_with fail
    refine (eq_any _ _ _ _ _ _ Z Z _ (it_vec kE hfz) (it_vec jE hfz) hzm).mono ?_
    rintro e wF ⟨rfl, nF, rfl⟩
    rw [show decide (Z = Z) = true by simp]
    have hH2 := hdI_it a5 c5 1 Z.length _ _ _ (iE.drewN nF) (by omega) (by omega)
    rw [hQ9] at hH2
    have BF : Hid (Below w.heap.size w (wE.drewN nF)) := belowN BE
    clear iE jE kE
    go_wp2_with fail
    refine hH2.mono ?_
    rintro e wG ⟨rfl, hwG⟩
    have BG : Hid (Below w.heap.size w wG) := by rw [hwG]; exact BF.out
    clear hwG hH2 BF
    go_wp2
    go_ret
    exact ⟨rfl, BG.out⟩
end Go.Proofs.Ythlaaldicmfcnaa
