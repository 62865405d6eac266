/-
  The walk of the law FnExactVectorOk: at every argument it returns true, and nothing that was there is written.
-/
import Derived.Test.YtehnnfpjdfffcaaVok
import Derived.Test.YtehnnfpjdfffcaaCopy
namespace Go.Proofs.Ytehnnfpjdfffcaa
open Go.RowKit

theorem belowN {B n : Nat} {a w : World} (h : Below B a w) : Below B a (w.drewN n) := ⟨h.os, h.tape, h.output, h.size, h.block⟩
theorem belowN' {B n : Nat} {a w : World} (h : Below B (a.drewN n) w) : Below B a w := ⟨h.os, h.tape, h.output, h.size, h.block⟩

end Go.Proofs.Ytehnnfpjdfffcaa
