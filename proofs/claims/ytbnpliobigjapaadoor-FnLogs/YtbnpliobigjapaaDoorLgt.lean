/-
  Logs in blocks of their own, as a law holds them.
-/
import Derived.Test.YtbnpliobigjapaaDoorLg
import Derived.Test.YtbnpliobigjapaaDoorLa
import Derived.Test.YtbnpliobigjapaaDoorLp
namespace Go.Proofs.YtbnpliobigjapaaDoor
set_option linter.unusedVariables false
set_option linter.unusedSimpArgs false
open Go.RowKit Go.Sort

/-- A log in a block of its own, to be read. -/
structure LX (W : World) (B : Nat) (F : Int) (a : Option Addr) (c : Nat) (T : List (List UInt8)) : Prop where
  box : Bx W B 26 #[.int .i64 F, .slice a T.length c]
  txp : TxP W a c T
theorem LX.below {W W' : World} {B : Nat} {F : Int} {a : Option Addr} {c : Nat} {T : List (List UInt8)} (h : LX W B F a c T) (hb : Below W.heap.size W W') : LX W' B F a c T := ⟨h.box.below hb, h.txp.below hb⟩
theorem LX.new {W : World} {F : Int} {a : Option Addr} {c : Nat} {T : List (List UInt8)} (h : TxP W a c T) : LX (W.alloc (.cells #[.int .i64 F, .slice a T.length c] 26)) W.heap.size F a c T := ⟨Bx.new _ _ _, h.below (oneA _ _)⟩
theorem LX.drewN {W : World} {B : Nat} {F : Int} {a : Option Addr} {c : Nat} {T : List (List UInt8)} (h : LX W B F a c T) (n : Nat) : LX (W.drewN n) B F a c T := h.below (Same.drewN W n).below
theorem ans_lg {w w' : World} {e : Ending} {l : Lg} (h : AnsLg w w' e l) : ∃ a c, e = .returned (.agg #[.int .i64 l.1, .slice a l.2.length c]) ∧ TxP w' a c l.2 ∧ Below w.heap.size w w' := by
  obtain ⟨a, c, he, hN⟩ := h
  exact ⟨a, c, he, newO_txp hN, hN.choose_spec.2.2⟩
theorem SmL.short {F : Int} {T : List (List UInt8)} (h : SmL (F, T)) : I64l F ∧ T.length ≤ 41 ∧ ShortT T := by
  obtain ⟨h1, h2, h3⟩ := h
  dsimp only at h1 h2 h3
  exact ⟨⟨by omega, by omega⟩, h2, fun i hi => by have := h3 i hi; omega⟩
theorem ans_lb {w w' : World} {e : Ending} {l : Lg × Bool} (h : AnsLb w w' e l) : ∃ a c, e = .returned (.tuple #[.agg #[.int .i64 l.1.1, .slice a l.1.2.length c], .bool l.2]) ∧ TxP w' a c l.1.2 ∧ Below w.heap.size w w' := by
  obtain ⟨a, c, he, hN⟩ := h
  exact ⟨a, c, he, newO_txp hN, hN.choose_spec.2.2⟩
end Go.Proofs.YtbnpliobigjapaaDoor
