/-
  Several texts in one: Lga.
-/
import Derived.Test.YtgaibngaincahaaKx
import Derived.Test.YtgaibngaincahaaGa
/-
  The specification's Added, Shorter, Cut.
-/
namespace Go.Proofs.Ytgaibngaincahaa
set_option linter.unusedVariables false
set_option linter.unusedSimpArgs false
open Go.RowKit Go.Sort

/-- A list of texts as it is answered: to be read, its address known. -/
def TxP (w : World) (a : Option Addr) (c : Nat) (T : List (List UInt8)) : Prop := (T = [] ∧ c = 0 ∧ PlainA a) ∨ ∃ b off, a = some ⟨b, off, none⟩ ∧ T.length ≤ c ∧ c ≤ maxLen ∧ ∀ i, i < T.length → w.cell? ⟨b, off + i, none⟩ = some (.string (sv (T.getD i [])))
theorem TxP.txs {w : World} {a : Option Addr} {c : Nat} {T : List (List UInt8)} (h : TxP w a c T) : TxS w a T := by
  rcases h with ⟨h, _⟩ | ⟨b, off, h1, h2, h3, h4⟩
  · exact .inl (by rw [h]; rfl)
  · exact .inr ⟨b, off, h1, h4⟩
theorem TxP.below {w w' : World} {a : Option Addr} {c : Nat} {T : List (List UInt8)} (h : TxP w a c T) (hb : Below w.heap.size w w') : TxP w' a c T := by
  rcases h with h | ⟨b, off, ha, h1, h2, hc⟩
  · exact .inl h
  · exact .inr ⟨b, off, ha, h1, h2, fun i hi => (hb.cell (World.block_lt_of_cell? _ _ (hc i hi))).trans (hc i hi)⟩
theorem TxP.drewN {w : World} {a : Option Addr} {c : Nat} {T : List (List UInt8)} (h : TxP w a c T) (n : Nat) : TxP (w.drewN n) a c T := h
theorem OSo.txp {w : World} {a : Option Addr} {c : Nat} {T : List (List UInt8)} {G : Option Nat} (h : OSo w 1 a T.length c (svs T) G) : TxP w a c T := by
  have hp := h.plain
  rcases h.os with ⟨h1, h2, _⟩ | ⟨g, off, h1, h2, _⟩
  · exact .inl ⟨h1, h2, hp⟩
  · exact .inr ⟨g, off, h1, h2.le, h2.max, fun i hi => h2.cellAt hi⟩
theorem ow_txp {w : World} {a : Option Addr} {c : Nat} {T : List (List UInt8)} {fp : Fp} (h : Cel.ow w (scl T) (.slice a T.length c) fp) : TxP w a c T := by
  obtain ⟨a', c', G, e, ho, _⟩ := ow_scl.1 h
  cases e
  exact ho.txp
theorem it_txp {w : World} {a : Option Addr} {c lo hi : Nat} {T : List (List UInt8)} (h : It w [scl T] [.slice a T.length c] lo hi) : TxP w a c T := by
  obtain ⟨f, h1, _⟩ := h.ow1
  exact ow_txp h1
theorem newO_txp {w w' : World} {a : Option Addr} {c : Nat} {T : List (List UInt8)} (h : NewO w w' (scl T) (.slice a T.length c)) : TxP w' a c T := by
  obtain ⟨f, h1, _⟩ := h
  exact ow_txp h1

attribute [local irreducible] sv
end Go.Proofs.Ytgaibngaincahaa
