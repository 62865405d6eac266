/-
  The walk of the law FnExactVectorOk: at every argument it returns true, and nothing that was there is written.
-/
import Derived.Test.YtnkomlboeodgjaaVok
import Derived.Test.YtnkomlboeodgjaaCopy
namespace Go.Proofs.Ytnkomlboeodgjaa
open Go.RowKit

theorem belowN {B n : Nat} {a w : World} (h : Below B a w) : Below B a (w.drewN n) := ⟨h.os, h.tape, h.output, h.size, h.block⟩
theorem belowN' {B n : Nat} {a w : World} (h : Below B (a.drewN n) w) : Below B a w := ⟨h.os, h.tape, h.output, h.size, h.block⟩

set_option maxHeartbeats 400000 in
theorem lawVok (a : Option Addr) (len cap : Nat) (xs : List Int) (w : World) (hv : Vec w a len xs) (hcap : len ≤ cap) (hm : cap ≤ maxLen) :
    Calls Try.prog 4 #[.slice a len cap] w fun e w' => e = .returned (.bool true) ∧ Below w.heap.size w w' := by
  by_cases hbig : (1048576 : Int) < (len : Int)
  · go_enter Try.func4, Try.ntmps4
    go_wp2
    go_ret
    exact ⟨rfl, Below.refl _ _⟩
  · have hf : Fits xs := hv.2.1
    have hlen := hv.1
    subst hlen
    have hl : xs.length ≤ maxLen := Nat.le_trans hcap hm
    go_enter Try.func4, Try.ntmps4
    go_wp2_with fail
    refine (copy_any a _ cap xs w hv (by omega)).mono ?_
    rintro e w1 ⟨b1, rfl, hlt1, hr1, hb1⟩
    go_wp2_with fail
    refine (specOk_any _ _ _ xs _ (hr1.vec hf) hl).mono ?_
    rintro e w1' ⟨rfl, rfl⟩
    go_wp2_with fail
    refine (copy_any a _ cap xs _ (hv.below hb1 (Nat.le_refl _)) (by omega)).mono ?_
    rintro e w2 ⟨b2, rfl, hlt2, hr2, hb2⟩
    go_wp2_with fail
    refine (implOk_any _ _ _ xs _ (hr2.vec hf) (Nat.le_refl _) hl).mono ?_
    rintro e w2' ⟨rfl, n2, rfl⟩
    have hb2' : Below w.heap.size w w2 := hb1.trans (hb2.mono hb1.size)
    go_wp2_with fail
    refine (copy_any a _ cap xs _ ((hv.below hb2' (Nat.le_refl _)).drewN n2) (by omega)).mono ?_
    rintro e w3 ⟨b3, rfl, hlt3, hr3, hb3⟩
    go_wp2_with fail
    refine (eq_any _ _ _ _ _ _ xs xs _ ((RowOf.below (hr2.drewN n2) hb3 hr2.lt).vec hf) (hr3.vec hf) hl).mono ?_
    rintro e w4 ⟨rfl, n4, rfl⟩
    go_wp2
    go_ret
    exact ⟨rfl, belowN (hb2'.trans (belowN' (hb3.mono hb2'.size)))⟩
end Go.Proofs.Ytnkomlboeodgjaa
