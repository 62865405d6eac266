/-
  Several texts in one: Lgw Lgv.
-/
import Derived.Test.YtbnpliobigjapaaDoorKx
import Derived.Test.YtbnpliobigjapaaDoorGr
import Derived.Test.YtbnpliobigjapaaDoorLa
import Derived.Deep.RegionHeld3
/-
  The specification's ShowLog.
-/
namespace Go.Proofs.YtbnpliobigjapaaDoor
set_option linter.unusedVariables false
set_option linter.unusedSimpArgs false
open Go.RowKit Go.Sort

theorem bytes_bound : ∀ (ts : List (List UInt8)), (∀ t ∈ ts, t.length ≤ 108) → (bytesOf ts).length ≤ ts.length * 121
  | [], _ => by simp [bytesOf]
  | t :: ts, h => by
    have h1 := h t (List.mem_cons_self ..)
    have h2 := bytes_bound ts (fun x hx => h x (List.mem_cons_of_mem _ hx))
    have h3 := headL_len (l := t) (by omega)
    rw [bytesOf_cons, List.length_append, frL_len, List.length_cons, Nat.add_mul]
    omega
theorem lines_len (F : Nat) (T : List (List UInt8)) : (linesL F T).length = T.length := by simp [linesL]
theorem lines_step {F : Nat} {T : List (List UInt8)} {k : Nat} (hk : k < T.length) : bytesOf ((linesL F T).take (k + 1)) = bytesOf ((linesL F T).take k) ++ frL (lineL (F + k) (T.getD k [])) := by
  rw [List.take_succ_eq_append_getElem (by rw [lines_len]; exact hk), bytesOf_snoc]
  congr 2
  simp [linesL]
theorem show_take {F : Nat} {T : List (List UInt8)} (hok : okLg ((F : Int), T)) (k : Nat) (hk : k ≤ T.length) : (bytesOf ((linesL F T).take k)).length ≤ 4840 := by
  have h := bytes_bound ((linesL F T).take k) (fun t ht => linesL_short hok t (List.mem_of_mem_take ht))
  rw [List.length_take, lines_len] at h
  have := hok.2.1
  simp only at this
  have h2 : min k T.length * 121 ≤ 40 * 121 := Nat.mul_le_mul_right _ (by omega)
  omega
attribute [local irreducible] sv
set_option maxRecDepth 100000 in
set_option maxHeartbeats 3200000 in
theorem lgwS_any (F : Int) (a : Option Addr) (cap : Nat) (T : List (List UInt8)) (w : World) (hv : TxS w a T) (hm : T.length ≤ maxLen) :
    Calls Tryd.prog 15 #[lgV F a T.length cap] w fun e w' => e = .returned (.string (sv (showLg (F, T)))) ∧ Below w.heap.size w w' := by
  have hG0 : Grew w (w.alloc (.cells #[.int .i64 F, .slice a T.length cap] 26)) := (Grew.refl _).alloc _
  have hK := lgkS_any F a cap T _ (hv.grew hG0) hm
  have hnil : (⟨#[]⟩ : ByteArray) = sv [] := by unfold sv; rfl
  have HN : Hid ((⟨#[]⟩ : ByteArray) = sv []) := hnil
  have hB : Bx (w.alloc (.cells #[.int .i64 F, .slice a T.length cap] 26)) w.heap.size 26 #[.int .i64 F, .slice a T.length cap] := Bx.new _ _ _
  have HV : Hid (TxS w a T) := hv
  unfold lgV at hK ⊢
  clear hnil hv
  by_cases hok : okLg (F, T)
  · rw [decide_eq_true hok] at hK
    obtain ⟨Fn, rfl⟩ : ∃ n : Nat, F = (n : Int) := ⟨F.toNat, by have := hok.1; simp only at this; omega⟩
    have h1 := hok.1
    have h40 := hok.2.1
    simp only at h1 h40
    have HZ : Hid (showLg ((Fn : Int), T) = bytesOf (linesL Fn T)) := by rw [Hid, showLg, if_pos hok]; rfl
    have HOK : Hid (okLg ((Fn : Int), T)) := hok
    clear hok
    go_enter Tryd.func15, Tryd.ntmps15
    go_wp2_with (go_at_call 18; refine hK.mono ?_; rintro e w2 ⟨rfl, hg2⟩)
    have HB2 : Hid (Bx w2 w.heap.size 26 #[.int .i64 (Fn : Int), .slice a T.length cap]) := hB.below hg2.1
    have HW2 : Hid (Below w.heap.size w w2) := (hG0.trans hg2).1
    clear hK hB hg2
    go_loopw [3, 4] (fun s i wr => ∃ k : Nat, k ≤ T.length ∧ i = .int .i64 k ∧ s = .string (sv (bytesOf ((linesL Fn T).take k))) ∧ Below w2.heap.size w2 wr) (fun _ i _ => T.length - (intOf i).toNat)
    case atStart => exact ⟨0, Nat.zero_le _, rfl, by rw [List.take_zero, HN.out]; rfl, Below.refl _ _⟩
    case round =>
      obtain ⟨k, hk, rfl, rfl, hb⟩ := hrel
      have HB : Hid (Below w2.heap.size w2 wr) := hb
      obtain ⟨x0, x1⟩ := (HB2.out.below hb).r2
      by_cases hlt : k < T.length
      · have hwb : Below w.heap.size w wr := HW2.out.trans (hb.mono HW2.out.size)
        rcases HV.out.below hwb with h0 | ⟨b, off, rfl, hc⟩
        · omega
        have hck := hc k hlt
        have ht100 := HOK.out.2.2 k hlt
        simp only at ht100
        have HS : Hid (bytesOf ((linesL Fn T).take (k + 1)) = bytesOf ((linesL Fn T).take k) ++ frL (lineL (Fn + k) (T.getD k []))) := lines_step hlt
        have hA := show_take HOK.out k hk
        have hI := fun X => specInt_any (Fn + k) X (by omega)
        have hd7 := dec_len7 (n := Fn + k) (by omega)
        have hcast : ((Fn + k : Nat) : Int) = (Fn : Int) + (k : Int) := by omega
        rw [hcast] at hI
        have hwr : IntKind.i64.wrap ((Fn : Int) + (k : Int)) = (Fn : Int) + (k : Int) := by rw [IntKind.wrap_i64]; omega
        have k1 : (k : Int) < (T.length : Int) := by omega
        have k0 : (0 : Int) ≤ (k : Int) := by omega
        clear hc hcast
        generalize T.getD k [] = t at *
        have hll : (lineL (Fn + k) t).length ≤ 108 := by simp only [lineL, List.length_append, List.length_cons]; omega
        have hF := fun X => specFrame_any (lineL (Fn + k) t) X (by omega)
        rw [frameL_small (by omega)] at hF
        have hfl : (frL (lineL (Fn + k) t)).length ≤ 121 := by
          have := headL_len (l := lineL (Fn + k) t) (by omega)
          rw [frL_len]; omega
        have HL : Hid (lineL (Fn + k) t = (dec (Fn + k) ++ [32]) ++ t) := by rw [Hid, lineL]; simp
        rw [HL.out] at hF
        have hfl2 := hfl
        rw [HL.out] at hfl2 HS
        obtain ⟨A1, hA1⟩ : ∃ A1, Hid (bytesOf ((linesL Fn T).take (k + 1)) = A1) := ⟨_, rfl⟩
        have hS1 := HS.out
        rw [hA1.out] at hS1
        clear HS
        have HS : Hid _ := hS1
        clear hS1
        generalize bytesOf ((linesL Fn T).take k) = A0 at *
        generalize dec (Fn + k) = D at *
        have s0 := sv_size A0
        have s1 := sv_size D
        have s2 := sv_size t
        have a1 := sv_lit1 D 32
        have a2 := sv_app (D ++ [32]) t
        have t1 : (sv (D ++ [32])).size = D.length + 1 := by rw [sv_size]; simp
        have t2 := sv_size (frL ((D ++ [32]) ++ t))
        generalize frL ((D ++ [32]) ++ t) = FR at *
        have a3 := sv_app A0 FR
        have HA : Hid (sv A0 ++ sv FR = sv A1) := by rw [Hid, a3, HS.out]
        clear a3 HS HL hll hfl
        generalize sv (D ++ [32]) = S1 at *
        have c1 : ∀ X, (Op.stringOp .add (sv D) (⟨#[32]⟩ : ByteArray)).run Tryd.prog X = .ok (.string S1) X := fun X => by rw [run_string_add_sum X _ _ (by rw [s1, show (⟨#[32]⟩ : ByteArray).size = 1 from rfl]; omega), a1]
        have c2 : ∀ X, (Op.stringOp .add S1 (sv t)).run Tryd.prog X = .ok (.string (sv ((D ++ [32]) ++ t))) X := fun X => by rw [run_string_add_sum X _ _ (by rw [t1, s2]; omega), a2]
        have c3 : ∀ X, (Op.stringOp .add (sv A0) (sv FR)).run Tryd.prog X = .ok (.string (sv A1)) X := fun X => by rw [run_string_add_sum X _ _ (by rw [s0, t2]; omega), HA.out]
        clear HA a1 a2
        generalize (D ++ [32]) ++ t = LN at *
        have KS : ∀ X, Below wr.heap.size wr X → X.cell? ⟨w.heap.size, 0, none⟩ = some (.int .i64 (Fn : Int)) ∧ X.cell? ⟨w.heap.size, 1, none⟩ = some (.slice (some ⟨b, off, none⟩) T.length cap) ∧ X.cell? ⟨b, off + k, none⟩ = some (.string (sv t)) := fun X hX => ⟨(hX.cell (World.block_lt_of_cell? _ _ x0)).trans x0, (hX.cell (World.block_lt_of_cell? _ _ x1)).trans x1, (hX.cell (World.block_lt_of_cell? _ _ hck)).trans hck⟩
        have bd : Below wr.heap.size wr (wr.drewN 1) := belowN (Below.refl _ _)
        go_wp2_with fail
        go_region_held3 (fun X => X.cell? ⟨w.heap.size, 0, none⟩ = some (.int .i64 (Fn : Int)) ∧ X.cell? ⟨w.heap.size, 1, none⟩ = some (.slice (some ⟨b, off, none⟩) T.length cap) ∧ X.cell? ⟨b, off + k, none⟩ = some (.string (sv t)))
          (first | exact KS _ b8 | exact KS _ b7 | exact KS _ bd)
          (first
            | (go_at_call 46; refine (hI _).mono ?_; rintro e u7 ⟨rfl, hb7⟩; have b7 : Below wr.heap.size wr u7 := bd.trans (hb7.mono bd.size))
            | (go_at_call 45; refine (hF _).mono ?_; rintro e u8 ⟨rfl, hb8⟩; have b8 : Below wr.heap.size wr u8 := b7.trans (hb8.mono b7.size)))
        have HB8 : Hid (Below w2.heap.size w2 u8) := HB.out.trans (b8.mono HB.out.size)
        clear KS bd b7 b8 hb7 hb8 hI hF c1 c2 c3
        go_wp2
        go_roundw
        case rel => exact ⟨k + 1, by omega, by go_num, by rw [hA1.out], HB8.out⟩
        case measure => simp [intOf]; omega
      · have hkl : k = T.length := by omega
        have HE : Hid (bytesOf ((linesL Fn T).take k) = showLg ((Fn : Int), T)) := by rw [Hid, HZ.out, hkl, List.take_of_length_le (by rw [lines_len]; exact Nat.le_refl _)]
        subst hkl
        go_wp2
        go_ret
        exact ⟨by rw [← HE.out]; rfl, HW2.out.trans (HB.out.mono HW2.out.size)⟩
  · rw [decide_eq_false hok] at hK
    have HZ : Hid (showLg (F, T) = []) := by rw [Hid, showLg, if_neg hok]
    clear hok
    go_enter Tryd.func15, Tryd.ntmps15
    go_wp2_with (go_at_call 18; refine hK.mono ?_; rintro e w2 ⟨rfl, hg2⟩)
    go_ret
    exact ⟨by rw [HZ.out, ← HN.out]; rfl, (hG0.trans hg2).1⟩
end Go.Proofs.YtbnpliobigjapaaDoor

/-
  The walk of the exact law of ShowLog FROM what the program answers.
-/
namespace Go.Proofs.YtbnpliobigjapaaDoor
set_option linter.unusedVariables false
set_option linter.unusedSimpArgs false
open Go.RowKit Go.Sort
attribute [local irreducible] sv

/-- What the program's ShowLog must be shown to answer, in W and whatever it becomes. -/
def ImplShowLog (W : World) : Prop := ∀ (F : Int) (a : Option Addr) (cap : Nat) (T : List (List UInt8)) (w : World), Below W.heap.size W w → I64l F → TxP w a cap T → T.length ≤ 1048576 → ShortT T → Calls Tryd.prog 10 #[lgV F a T.length cap] w fun e w' => e = .returned (.string (sv (showLg (F, T)))) ∧ Below w.heap.size w w'
set_option maxRecDepth 100000 in
set_option maxHeartbeats 3200000 in
theorem lawShowLog (F : Int) (a : Option Addr) (cap : Nat) (T : List (List UInt8)) (w : World) (hI : ImplShowLog w) (hF : I64l F) (hv : TxS w a T) (hlg : LongT T) (hm : T.length ≤ maxLen) :
    Calls Tryd.prog 4 #[lgV F a T.length cap] w fun e w' => e = .returned (.bool true) ∧ Below w.heap.size w w' := by
  have hP := Bx.new w 42 #[.int .i64 F, .slice a T.length cap]
  have hB0 := oneA w (.cells #[.int .i64 F, .slice a T.length cap] 42)
  generalize hW0 : w.alloc (.cells #[.int .i64 F, .slice a T.length cap] 42) = W0 at *
  have k00 : w.heap.size < W0.heap.size := hP.lt
  have hZ := szLg_any F a cap T 1048576 W0 (hv.below hB0) hlg hm ⟨by omega, by omega⟩
  have hTo : T.length ≤ 1048576 → ∀ X, Below w.heap.size w X → Calls Tryd.prog 23 #[lgV F a T.length cap] X fun e w' => ∃ a' c', e = .returned (lgV F a' T.length c') ∧ It w' [scl T] [.slice a' T.length c'] X.heap.size w'.heap.size ∧ Below X.heap.size X w' := fun h X hX => (toLg_any F a cap T X (hv.below hX) h).mono (fun e w' h => by obtain ⟨a', c', h1, h2⟩ := h; exact ⟨a', c', h1, It.of_newO h2, by obtain ⟨_, _, _, h3⟩ := h2; exact h3⟩)
  have hSh : totS T T.length ≤ 1048576 → ShortT T := fun h i hi => Nat.le_trans (totS_at T hi) h
  have hEq : T.length ≤ 1048576 → ∀ X a1 c1 a2 c2, TxS X a1 T → TxS X a2 T → Calls Tryd.prog 24 #[lgV F a1 T.length c1, lgV F a2 T.length c2] X fun e w' => e = .returned (.bool true) ∧ Below X.heap.size X w' := fun h X a1 c1 a2 c2 h1 h2 => (eqLg_any F a1 a2 c1 c2 T X h1 h2 hm).mono (fun e w' h => ⟨h.1, h.2.1⟩)
  have hSp : ∀ X a' c', TxP X a' c' T → Calls Tryd.prog 15 #[lgV F a' T.length c'] X fun e w' => e = .returned (.string (sv (showLg (F, T)))) ∧ Below X.heap.size X w' := fun X a' c' h => lgwS_any F a' c' T X h.txs hm
  have hIm : T.length ≤ 1048576 → ShortT T → ∀ X, Below w.heap.size w X → ∀ a' c', TxP X a' c' T → Calls Tryd.prog 10 #[lgV F a' T.length c'] X fun e w' => e = .returned (.string (sv (showLg (F, T)))) ∧ Below X.heap.size X w' := fun h1 h2 X hX a' c' h => hI F a' c' T X hX hF h h1 h2
  generalize showLg (F, T) = Qs at *
  have ns : ((sv Qs).toList == (sv Qs).toList) = true := by simp
  clear hI hv
  unfold lgV at *
  obtain ⟨p0, p1⟩ := hP.r2
  go_enter Tryd.func4, Tryd.ntmps4
  go_wp2_with fail
  refine (hZ).mono ?_
  rintro e w1 ⟨q, rfl, hq, hb1⟩
  clear p0 p1 hZ
  have B1 : Below w.heap.size w w1 := hB0.trans (hb1.mono hB0.size)
  have sB1 : W0.heap.size ≤ w1.heap.size := hb1.size
  have h2 := hP.below hb1
  clear hB0 hP
  rcases hq with rfl | ⟨hq0, hq1⟩
  · go_wp2
    go_ret
    exact ⟨rfl, B1⟩
  have hqn : decide (q < 0) = false := by simp; omega
  have hT := hTo (by omega)
  have hE := hEq (by omega)
  have hI2 := hIm (by omega) (hSh (by omega))
  clear hIm
  clear hTo hEq hSh
  obtain ⟨c3a, c3b⟩ := h2.r2
  go_wp2_with fail
  refine (hT w1 B1).mono ?_
  rintro e w2 ⟨a1, c1, rfl, i1, hb1⟩
  clear c3a c3b
  have B4 : Below w.heap.size w w2 := B1.trans (hb1.mono B1.size)
  have sB4 : w1.heap.size ≤ w2.heap.size := hb1.size
  have h5 := h2.below hb1
  clear B1 h2
  go_wp2_with fail
  refine (hSp w2 _ _ (it_txp i1)).mono ?_
  rintro e w3 ⟨rfl, hb3⟩
  clear i1
  have B6 : Below w.heap.size w w3 := B4.trans (hb3.mono B4.size)
  have sB6 : w2.heap.size ≤ w3.heap.size := hb3.size
  have h7 := h5.below hb3
  clear B4 h5
  obtain ⟨c8a, c8b⟩ := h7.r2
  go_wp2_with fail
  refine (hT w3 B6).mono ?_
  rintro e w4 ⟨a2, c2, rfl, i2, hb2⟩
  clear c8a c8b
  have B9 : Below w.heap.size w w4 := B6.trans (hb2.mono B6.size)
  have sB9 : w3.heap.size ≤ w4.heap.size := hb2.size
  have h10 := h7.below hb2
  clear B6 h7
  have b12 := oneA w4 (.cells #[.int .i64 F, .slice a2 T.length c2] 26)
  have h13 := Bx.new w4 26 #[.int .i64 F, .slice a2 T.length c2]
  generalize hX11 : w4.alloc (.cells #[.int .i64 F, .slice a2 T.length c2] 26) = X11 at *
  have B15 : Below w.heap.size w X11 := B9.trans (b12.mono B9.size)
  have sB15 : w4.heap.size ≤ X11.heap.size := b12.size
  have h16 := h10.below b12
  have h17 := i2.below b12
  clear B9 h10 i2
  have k14 : w4.heap.size < X11.heap.size := h13.lt
  clear b12
  obtain ⟨c18a, c18b⟩ := h13.r2
  go_wp2_with fail
  refine (hI2 X11 B15 _ _ (it_txp h17)).mono ?_
  rintro e w5 ⟨rfl, hb5⟩
  clear c18a c18b
  have B19 : Below w.heap.size w w5 := B15.trans (hb5.mono B15.size)
  have sB19 : X11.heap.size ≤ w5.heap.size := hb5.size
  have h20 := h16.below hb5
  have h21 := h17.below hb5
  have h22 := h13.below hb5
  clear B15 h16 h17 h13
  have KS : ∀ X, Below w5.heap.size w5 X → (X.cell? ⟨w.heap.size, 0, none⟩ = some (.int .i64 F) ∧ X.cell? ⟨w.heap.size, 1, none⟩ = some (.slice a T.length cap)) ∧ X.cell? ⟨w4.heap.size, 0, none⟩ = some (.int .i64 F) ∧ X.cell? ⟨w4.heap.size, 1, none⟩ = some (.slice a2 T.length c2) := fun X hX => ⟨(h20.below hX).r2, (h22.below hX).r2⟩
  have bd : Below w5.heap.size w5 (w5.drewN 1) := belowN (Below.refl _ _)
  have hTo2 := fun X (h : Below w5.heap.size w5 X) => hT X (B19.trans (h.mono B19.size))
  have hEq2 := fun X (a7 : Option Addr) (c7 : Nat) (h : Below w5.heap.size w5 X) (h7 : ∃ lo hi, It X [scl T] [.slice a7 T.length c7] lo hi) => hE X a2 c2 a7 c7 (it_scl (h21.below h)).1 (by obtain ⟨_, _, h7⟩ := h7; exact (it_scl h7).1)
  go_wp2_with fail
  go_region_held3 (fun X => (X.cell? ⟨w.heap.size, 0, none⟩ = some (.int .i64 F) ∧ X.cell? ⟨w.heap.size, 1, none⟩ = some (.slice a T.length cap)) ∧ X.cell? ⟨w4.heap.size, 0, none⟩ = some (.int .i64 F) ∧ X.cell? ⟨w4.heap.size, 1, none⟩ = some (.slice a2 T.length c2))
    (first | exact KS _ b8 | exact KS _ b7b | exact KS _ bd)
    (first
      | (go_at_call 23; refine (hTo2 _ bd).mono ?_; rintro e u7 ⟨a7, c7, rfl, i7, hb7⟩; have b7b : Below w5.heap.size w5 u7 := bd.trans (hb7.mono bd.size))
      | (go_at_call 24; refine (hEq2 u7 a7 c7 b7b ⟨_, _, i7⟩).mono ?_; rintro e u8 ⟨rfl, hb8⟩; have b8 : Below w5.heap.size w5 u8 := b7b.trans (hb8.mono b7b.size)))
  have HBB : Hid (Below w.heap.size w u8) := B19.trans (b8.mono B19.size)
  go_wp2
  go_ret
  exact ⟨rfl, HBB.out⟩
end Go.Proofs.YtbnpliobigjapaaDoor
