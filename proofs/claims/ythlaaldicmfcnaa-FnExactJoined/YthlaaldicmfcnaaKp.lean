/-
  Several texts in one: Lbk Iti.
-/
import Derived.Test.YthlaaldicmfcnaaKo
import Derived.Test.YthlaaldicmfcnaaGa
import Derived.Test.YthlaaldicmfcnaaJn
/-
  What the program's Split, Lacking and Joined answer, and the walks of the exact laws FROM that.
-/
namespace Go.Proofs.Ythlaaldicmfcnaa
set_option linter.unusedVariables false
set_option linter.unusedSimpArgs false
open Go.RowKit Go.Sort

def I64b (x : Int) : Prop := -9223372036854775808 ≤ x ∧ x ≤ 9223372036854775807
/-- A list of blocks as an answer. -/
def AnsBs (w w' : World) (e : Ending) (Z : List Blk) : Prop := ∃ a c, e = .returned (.slice a Z.length c) ∧ NewO w w' (bcl Z) (.slice a Z.length c)
/-- A list of numbers as an answer. -/
def AnsNs (w w' : World) (e : Ending) (Z : List Int) : Prop := ∃ a c, e = .returned (.slice a Z.length c) ∧ NewO w w' (icl Z) (.slice a Z.length c)
def FitsB (L : List Blk) : Prop := ∀ i, i < L.length → I64b (bat L i).1 ∧ I64b (bat L i).2.1
def ImplSplit : Prop := ∀ (s : List UInt8) (size : Int) (w : World), s.length ≤ 1048576 → I64b size → Calls Try.prog 27 #[.string (sv s), .int .i64 size] w fun e w' => AnsBs w w' e (splitL s size)
def ImplLacking : Prop := ∀ (a : Option Addr) (cap : Nat) (L : List Blk) (total : Int) (w : World), BkS w a L.length L → FitsB L → ShortB L → L.length ≤ cap → cap ≤ maxLen → L.length ≤ 1048576 → I64b total → Calls Try.prog 34 #[.slice a L.length cap, .int .i64 total] w fun e w' => AnsNs w w' e (lackL L total)
def ImplJoined : Prop := ∀ (a : Option Addr) (cap : Nat) (L : List Blk) (w : World), BkS w a L.length L → FitsB L → ShortB L → L.length ≤ cap → cap ≤ maxLen → L.length ≤ 1048576 → Calls Try.prog 29 #[.slice a L.length cap] w fun e w' => e = .returned (.tuple #[.string (sv (joinL L).1), .bool (joinL L).2]) ∧ Below w.heap.size w w'
theorem AnsB.bs {w w' : World} {e : Ending} {Z : List Blk} (h : AnsB w w' e Z) : AnsBs w w' e Z := by
  obtain ⟨g, off, c, he, hg, ho, hb⟩ := h
  exact ⟨_, c, he, fun b => b = g, ⟨_, c, bvs Z, some g, fun _ => False, rfl, OSo.of ho, owL_pl.2 ⟨rfl, fun _ h => h⟩, fun _ _ h => h, fun b => by simp [eq_comm]⟩, fun b hb => by rw [hb]; exact hg, hb⟩
theorem AnsN.ns {w w' : World} {e : Ending} {Z : List Int} (h : AnsN w w' e Z) : AnsNs w w' e Z := by
  obtain ⟨g, off, c, he, hg, ho, hb⟩ := h
  exact ⟨_, c, he, fun b => b = g, ow_icl.2 ⟨_, c, some g, rfl, OSo.of ho, fun b => by simp [eq_comm]⟩, fun b hb => by rw [hb]; exact hg, hb⟩
theorem newO_blw {w w' : World} {c : Cel} {v : Value} (h : NewO w w' c v) : Below w.heap.size w w' := by
  obtain ⟨_, _, _, h⟩ := h
  exact h
theorem splitL_len (s : List UInt8) (size : Int) : (splitL s size).length ≤ 12 := by
  unfold splitL
  split
  · rename_i h
    rw [spl_len]
    simp only [Bool.and_eq_true, decide_eq_true_eq] at h
    exact h.2
  · simp
theorem lackL_ok (L : List Blk) (total : Int) : Fits (lackL L total) ∧ (lackL L total).length ≤ 12 := by
  unfold lackL
  by_cases h : inB total 1 12 = true
  · rw [if_pos h]
    have ht := inB7.1 h
    refine ⟨fun x hx => ?_, Nat.le_trans (lck_len _ _ _) (by omega)⟩
    simp only [lck, List.mem_map, List.mem_filter, List.mem_range] at hx
    obtain ⟨i, ⟨hi, _⟩, rfl⟩ := hx
    omega
  · rw [if_neg h]; exact ⟨fun x hx => absurd hx (List.not_mem_nil), Nat.zero_le _⟩
/-- Marks and looks at lists of blocks that a law holds. -/
theorem it_bcl {w : World} {a : Option Addr} {c lo hi : Nat} {L : List Blk} (h : It w [bcl L] [.slice a L.length c] lo hi) : (L = []) ∨ ∃ g off, a = some ⟨g, off, none⟩ ∧ OB w g off L.length c L ∧ lo ≤ g ∧ g < hi := by
  obtain ⟨f, ⟨a0, c0, us, G, f', e0, hs, hL, _, hf⟩, h2⟩ := h.ow1
  cases e0
  obtain ⟨rfl, h0⟩ := owL_pl.1 hL
  rcases hs with ⟨h1, _, h3, _⟩ | ⟨g, off, rfl, ho, rfl⟩
  · exact .inl (List.eq_nil_of_length_eq_zero h1)
  · exact .inr ⟨g, off, rfl, ho, h2 g ((hf g).2 (.inl rfl))⟩
theorem mksB_len (n k0 : Nat) : (mksB n k0).length = n := by simp [mksB]
theorem markB_it (a : Option Addr) (c k0 lo hi : Nat) (L : List Blk) (w : World) (h : It w [bcl L] [.slice a L.length c] lo hi) (hk1 : 1 ≤ k0) (hn : L.length ≤ 1048576) (hk : k0 ≤ 10000000) :
    Calls Try.prog 38 #[.slice a L.length c, .int .i64 (k0 : Int)] w fun e w' => e = .returned (.int .i64 ((k0 + L.length * 3 : Nat) : Int)) ∧ It w' [bcl (mksB L.length k0)] [.slice a L.length c] lo hi ∧ Wrt (Iv lo hi) w w' := by
  rcases it_bcl h with rfl | ⟨g, off, rfl, ho, hg⟩
  · refine (markB0_any a c (k0 : Int) w).mono ?_
    rintro e w' ⟨rfl, rfl⟩
    exact ⟨rfl, h, Wrt.refl _ _⟩
  · refine (markBs_any g off c L.length k0 L w ho hk1 (by omega) hk).mono ?_
    rintro e w' ⟨rfl, h1, h2⟩
    refine ⟨rfl, ?_, (Wrt.of_grown h2).mono (fun b _ e => by cases e; exact hg)⟩
    have := it_ob (lo := lo) (hi := hi) h1 (mksB_len _ _) hg
    exact this
theorem heldB_it (a : Option Addr) (c lo hi n : Nat) (w : World) (h : It w [bcl (mksB n 1)] [.slice a n c] lo hi) (hn : n ≤ 1000000) :
    Calls Try.prog 39 #[.slice a n c, .int .i64 1] w fun e w' => e = .returned (.int .i64 ((1 + n * 3 : Nat) : Int)) ∧ Below w.heap.size w w' := by
  have h' : It w [bcl (mksB n 1)] [.slice a (mksB n 1).length c] lo hi := by rw [mksB_len]; exact h
  rcases it_bcl h' with h0 | ⟨g, off, rfl, ho, hg⟩
  · have : n = 0 := by have := congrArg List.length h0; rw [mksB_len] at this; simpa using this
    subst this
    exact (heldB0_any a c 1 w).mono (fun e w' ⟨h1, h2⟩ => ⟨h1, by rw [h2]; exact Below.refl _ _⟩)
  · rw [mksB_len] at ho
    exact heldBs_any g off c n w ho hn
attribute [local irreducible] sv
set_option maxRecDepth 100000 in
set_option maxHeartbeats 3200000 in
theorem lawSplit (hI : ImplSplit) (s : List UInt8) (size : Int) (w : World) (hs : I64b size) (hl : s.length ≤ 9223372036854775807) :
    Calls Try.prog 5 #[.string (sv s), .int .i64 size] w fun e w' => e = .returned (.bool true) ∧ Below w.heap.size w w' := by
  have hsz := sv_size s
  by_cases hbig : s.length ≤ 1048576
  · have hb1 : ¬ ((1048576 : Int) < (s.length : Int)) := by omega
    have hS := splS_any s size w hbig
    have hP := fun X => hI s size X hbig hs
    have hZ12 := splitL_len s size
    generalize splitL s size = Z at *
    have hzm : Z.length ≤ maxLen := by unfold maxLen; omega
    go_enter Try.func5, Try.ntmps5
    go_wp2_with fail
    refine hS.mono ?_
    rintro e w1 h1
    obtain ⟨a1, c1, rfl, hO1⟩ := h1.bs
    have B1 := newO_blw hO1
    have i1 := It.of_newO hO1
    clear hO1 h1 hS
    go_wp2_with fail
    refine (hP w1).mono ?_
    rintro e w2 ⟨a2, c2, rfl, hO2⟩
    have b2 := newO_blw hO2
    have i2 := It.of_newO hO2
    have j1 := i1.below b2
    have B2 : Below w.heap.size w w2 := B1.trans (b2.mono B1.size)
    clear hO2 i1
    go_wp2_with fail
    refine (eqBsV_any a2 a1 Z.length c2 c1 Z w2 (it_bs i2) (it_bs j1) hzm).mono ?_
    rintro e w3 ⟨rfl, g3⟩
    have b3 := g3.1
    have s3 := b3.size
    have s2 := b2.size
    have i3 := i2.below b3
    have j3 := j1.below b3
    have B3 : Below w.heap.size w w3 := B2.trans (b3.mono B2.size)
    clear i2 j1 g3
    go_wp2_with fail
    refine (markB_it a2 c2 1 _ _ Z w3 i3 (Nat.le_refl _) (by omega) (by omega)).mono ?_
    rintro e w4 ⟨rfl, i4, hw4⟩
    have s4 := hw4.size
    have j4 := j3.far hw4 (.inr (by omega))
    have B4 : Below w.heap.size w w4 := below_iv hw4 B3 B3.size B1.size
    clear i3 j3 hw4
    go_wp2_with fail
    refine (heldB_it a2 c2 _ _ Z.length w4 i4 (by omega)).mono ?_
    rintro e w5 ⟨rfl, b5⟩
    have i5 := i4.below b5
    have j5 := j4.below b5
    have B5 : Below w.heap.size w w5 := B4.trans (b5.mono B4.size)
    clear i4 j4
    have hq0 : decide (((1 + Z.length * 3 : Nat) : Int) < 0) = false := by simp; omega
    have hq1 : (((1 + Z.length * 3 : Nat) : Int) != ((1 + Z.length * 3 : Nat) : Int)) = false := by simp
    have hq2 : ¬ (((1 + Z.length * 3 : Nat) : Int) < 0) := by omega
    generalize hQ : 1 + Z.length * 3 = Q at *
    go_wp2_with fail
    refine (hP w5).mono ?_
    rintro e w6 ⟨a6, c6, rfl, hO6⟩
    have b6 := newO_blw hO6
    have k6 := It.of_newO hO6
    have i6 := i5.below b6
    have j6 := j5.below b6
    have B6 : Below w.heap.size w w6 := B5.trans (b6.mono B5.size)
    clear hO6 i5 j5 hP
    go_wp2_with fail
    refine (eqBsV_any a6 a1 Z.length c6 c1 Z w6 (it_bs k6) (it_bs j6) hzm).mono ?_
    rintro e w7 ⟨rfl, g7⟩
    have i7 := i6.below g7.1
    have B7 : Below w.heap.size w w7 := B6.trans (g7.1.mono B6.size)
    clear i6 j6 k6 g7
    go_wp2_with fail
    have hH := heldB_it a2 c2 _ _ Z.length w7 i7 (by omega)
    rw [hQ] at hH
    refine hH.mono ?_
    rintro e w8 ⟨rfl, b8⟩
    have B8 : Hid (Below w.heap.size w w8) := B7.trans (b8.mono B7.size)
    clear b8 i7 B7 hH
    go_wp2
    go_ret
    exact ⟨rfl, B8.out⟩
  · have hb1 : (1048576 : Int) < (s.length : Int) := by omega
    go_enter Try.func5, Try.ntmps5
    go_wp2
    go_ret
    exact ⟨rfl, Below.refl _ _⟩
end Go.Proofs.Ythlaaldicmfcnaa

/-
  Lists of numbers that an exact law holds: they are marked and held (general).
-/
namespace Go.Proofs.Ythlaaldicmfcnaa
set_option linter.unusedVariables false
set_option linter.unusedSimpArgs false
open Go.RowKit Go.Sort

theorem touch_wrt {g : Nat} {w w' : World} (h : Touch g w w') : Wrt (fun b => b = g) w w' := (Wrt.of_grown h.grown).mono (fun b _ e => by simpa using e.symm)
theorem it_vec {w : World} {a : Option Addr} {c lo hi : Nat} {Z : List Int} (h : It w [icl Z] [.slice a Z.length c] lo hi) (hf : Fits Z) : Vec w a Z.length Z := by
  obtain ⟨a', c', e, hv, _⟩ := vw_icl h.vw1 hf
  cases e
  exact hv
theorem mkI_it (a : Option Addr) (c k0 lo hi : Nat) (Z : List Int) (w : World) (h : It w [icl Z] [.slice a Z.length c] lo hi) (hk : k0 ≤ 10000000) (hn : Z.length ≤ 10000000) :
    Calls Try.prog 43 #[.slice a Z.length c, .int .i64 (k0 : Int)] w fun e w' => e = .returned (.int .i64 ((k0 : Int) + (Z.length : Int))) ∧ It w' [icl (marks Z.length k0)] [.slice a Z.length c] lo hi ∧ Wrt (Iv lo hi) w w' := by
  obtain ⟨f, h1, h2⟩ := h.ow1
  obtain ⟨a', c', G, e, ho, hf⟩ := ow_icl.1 h1
  cases e
  rcases ho.oi with ⟨rfl, rfl, rfl⟩ | ⟨g, off, rfl, ho', rfl⟩
  · refine (mark0_any a 0 (k0 : Int) w).mono ?_
    rintro e w' ⟨rfl, rfl⟩
    exact ⟨by simp, h, Wrt.refl _ _⟩
  · refine (markN_any g off c k0 _ (k0 : Int) Z w ho' rfl hk hn).mono ?_
    rintro e w' ⟨rfl, h3, h4⟩
    have hg := h2 g ((hf g).2 rfl)
    refine ⟨rfl, It.of1 (f := fun b => b = g) (ow_icl.2 ⟨_, c, some g, by rw [marks_len], by rw [marks_len]; exact OSo.of h3, fun b => by simp [eq_comm]⟩) (fun b hb => by rw [hb]; exact hg), (touch_wrt h4).mono (fun b _ e => by rw [e]; exact hg)⟩
theorem hdI_it (a : Option Addr) (c k0 n lo hi : Nat) (w : World) (h : It w [icl (marks n k0)] [.slice a n c] lo hi) (hk : k0 ≤ 10000000) (hn : n ≤ 10000000) :
    Calls Try.prog 44 #[.slice a n c, .int .i64 (k0 : Int)] w fun e w' => e = .returned (.int .i64 ((k0 : Int) + (n : Int))) ∧ w' = w := by
  obtain ⟨f, h1, h2⟩ := h.ow1
  obtain ⟨a', c', G, e, ho, hf⟩ := ow_icl.1 h1
  have e1 : a = a' := by injection e
  have e2 : c = c' := by injection e
  subst e1 e2
  exact heldC_any a c k0 n (k0 : Int) w ho.slc rfl hk hn
end Go.Proofs.Ythlaaldicmfcnaa
