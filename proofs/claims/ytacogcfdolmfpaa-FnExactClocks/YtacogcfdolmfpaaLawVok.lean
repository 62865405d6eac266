/-
  The walk of the law FnExactVectorOk: at every argument it returns true, and nothing that was there is written.
-/
import Derived.Test.YtacogcfdolmfpaaVok
import Derived.Test.YtacogcfdolmfpaaCopy
namespace Go.Proofs.Ytacogcfdolmfpaa
open Go.RowKit

theorem belowN {B n : Nat} {a w : World} (h : Below B a w) : Below B a (w.drewN n) := ⟨h.os, h.tape, h.output, h.size, h.block⟩
theorem belowN' {B n : Nat} {a w : World} (h : Below B (a.drewN n) w) : Below B a w := ⟨h.os, h.tape, h.output, h.size, h.block⟩

end Go.Proofs.Ytacogcfdolmfpaa
