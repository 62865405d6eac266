/-
  Several texts in one: Ifr.
-/
import Derived.Test.YtbnpliobigjapaaDoorGw
import Derived.Test.YtbnpliobigjapaaDoorGx
/-
  The contract of the program's Frame: strconv.Itoa and FormatInt by the library's contracts; what the table of powers of ten holds is a premise.
-/
namespace Go.Proofs.YtbnpliobigjapaaDoor
set_option linter.unusedSimpArgs false
set_option linter.unusedVariables false
open Go.RowKit Go.Sort Go.Shelf

/-- The library's table of powers of ten holds what it is laid as. -/
def Tab (w : World) : Prop := Lib.TabIs Tryd.prog w "internal/strconv.uint64pow10" .u64 Lib.pow10Tab
theorem tabNamed : Tryd.prog.globalNamed "internal/strconv.uint64pow10" = some 1 := by kernel_rfl
theorem Tab.lt {w : World} (h : Tab w) : 1 < w.heap.size := by
  have := h.cell tabNamed 0 (by decide)
  exact World.block_lt_of_cell? _ _ this
theorem Tab.below {w w' : World} {B : Nat} (h : Tab w) (hb : Below B w w') (hB : w.heap.size ≤ B) : Tab w' := by
  have hl := h.lt
  unfold Tab Lib.TabIs World.var? at *
  rw [tabNamed] at *
  simp only [Option.bind_some] at *
  rw [hb.block _ (by omega)]
  exact h
theorem itoa_any (n : Nat) (w : World) (hn : n ≤ 1000000000000) (hT : Tab w) :
    Calls Tryd.prog 58 #[.int .i64 (n : Int)] w fun e w' => e = .returned (.string (sv (dec n))) ∧ Grew w w' := by
  have h := Any.strconv_Itoa Tryd.itoaL (n : Int) (by omega) (by omega) w hT
  rw [itoa_dec] at h
  refine h.mono ?_
  rintro e w' ⟨he, k, os, hw⟩
  subst hw
  exact ⟨he, Grew.of_grow _ _ _⟩
theorem format_any (n : Nat) (w : World) (hn : n ≤ 1000000000000) (hT : Tab w) :
    Calls Tryd.prog 39 #[.int .i64 (n : Int), .int .i64 10] w fun e w' => e = .returned (.string (sv (dec n))) ∧ Grew w w' := by
  have h := Any.strconv_FormatInt_10 Tryd.fmtL (n : Int) (by omega) (by omega) w hT
  rw [itoa_dec] at h
  refine h.mono ?_
  rintro e w' ⟨he, k, os, hw⟩
  subst hw
  exact ⟨he, Grew.of_grow _ _ _⟩
attribute [local irreducible] sv
set_option maxRecDepth 100000 in
set_option maxHeartbeats 1600000 in
theorem frame_any (l : List UInt8) (w : World) (hl : l.length ≤ 1048576) (hT : Tab w) :
    Calls Tryd.prog 38 #[.string (sv l)] w fun e w' => e = .returned (.string (sv (frameL l))) ∧ Grew w w' := by
  have hsz := sv_size l
  have HNIL : Hid ((⟨#[]⟩ : ByteArray) = sv []) := by rw [Hid]; unfold sv; rfl
  have HT : Hid (Tab w) := hT
  clear hT
  by_cases h2 : l.length ≤ 2000
  · have HF : Hid (frameL l = ((((dec l.length ++ [32]) ++ dec (chk l).toNat) ++ [10]) ++ l) ++ [10]) := by rw [Hid, frameL, if_pos h2, frL, headL]; simp
    have b1 := dec_len (n := l.length) (k := 3) (by omega)
    have b2 := dec_len (n := (chk l).toNat) (k := 5) (by have := chk_bound l; omega)
    have c0 := chk_bound l
    have hI1 := fun X => itoa_any l.length X (by omega)
    have hI2 := fun X => format_any (chk l).toNat X (by omega)
    rw [show (((chk l).toNat : Nat) : Int) = chk l by omega] at hI2
    have hC := fun X => implCheck_same l X hl
    generalize dec l.length = D1 at *
    generalize dec (chk l).toNat = D2 at *
    generalize chk l = c at *
    have s1 := sv_size D1
    have s2 := sv_size D2
    have a1 := sv_lit1 D1 32
    have a2 := sv_app (D1 ++ [32]) D2
    have a3 := sv_lit1 ((D1 ++ [32]) ++ D2) 10
    have a4 := sv_app (((D1 ++ [32]) ++ D2) ++ [10]) l
    have a5 := sv_lit1 ((((D1 ++ [32]) ++ D2) ++ [10]) ++ l) 10
    have t1 : (sv (D1 ++ [32])).size = D1.length + 1 := by rw [sv_size]; simp
    have t2 : (sv ((D1 ++ [32]) ++ D2)).size = D1.length + 1 + D2.length := by rw [sv_size]; simp; omega
    have t3 : (sv (((D1 ++ [32]) ++ D2) ++ [10])).size = D1.length + 1 + D2.length + 1 := by rw [sv_size]; simp; omega
    have t4 : (sv ((((D1 ++ [32]) ++ D2) ++ [10]) ++ l)).size = D1.length + 1 + D2.length + 1 + l.length := by rw [sv_size]; simp; omega
    generalize sv ((((D1 ++ [32]) ++ D2) ++ [10]) ++ l) = S4 at *
    generalize sv (((D1 ++ [32]) ++ D2) ++ [10]) = S3 at *
    generalize sv ((D1 ++ [32]) ++ D2) = S2 at *
    generalize sv (D1 ++ [32]) = S1 at *
    have HA5 : Hid (S4 ++ (⟨#[10]⟩ : ByteArray) = sv (frameL l)) := by rw [Hid, a5, HF.out]
    clear a5
    go_enter Tryd.func38, Tryd.ntmps38
    go_wp2_with fail
    refine (hI1 w HT.out).mono ?_
    rintro e w1 ⟨rfl, hb1⟩
    have HB1 : Hid (Grew w w1) := hb1
    clear hb1
    go_wp2_with fail
    refine (hC w1).mono ?_
    rintro e w2 ⟨rfl, hw2⟩
    have HB2 : Hid (Grew w w2) := by rw [Hid, hw2]; exact HB1.out
    clear hw2
    go_wp2_with fail
    refine (hI2 w2 (HT.out.below HB2.out.1 (Nat.le_refl _))).mono ?_
    rintro e w3 ⟨rfl, hb3⟩
    have HB3 : Hid (Grew w w3) := HB2.out.trans hb3
    clear hb3
    go_wp2
    go_ret
    exact ⟨by rw [← HA5.out]; rfl, HB3.out⟩
  · have HF : Hid (frameL l = []) := by rw [Hid, frameL, if_neg h2]
    have hi : (2000 : Int) < (l.length : Int) := by omega
    go_enter Tryd.func38, Tryd.ntmps38
    go_wp2
    go_ret
    exact ⟨by rw [HF.out, ← HNIL.out]; rfl, Grew.refl _⟩
theorem implFrame_any (W : World) (hT : Tab W) : ImplFrame W := fun l w hb hl => (frame_any l w hl (hT.below hb (Nat.le_refl _))).mono fun e w' ⟨he, hw⟩ => ⟨he, hw.1⟩
end Go.Proofs.YtbnpliobigjapaaDoor
