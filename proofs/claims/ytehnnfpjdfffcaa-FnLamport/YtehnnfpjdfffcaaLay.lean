/-
  The library's contracts of slices.SortFunc and cmp.Compare, laid at this program.
-/
import Derived.Test.YtehnnfpjdfffcaaRows
import Derived.Shelf.SlSortCmp.NoneTotal
import Derived.Shelf.SlicesG.Cmp
import Derived.Shelf.Lay
import Derived.Ground.SlsfProg
import Derived.Ground.SlgcProg
namespace Go.Proofs.Ytehnnfpjdfffcaa
open Go.Shelf
shelf_lay_g SlLaysF.n6 Slsf 6 at Try 72 as Try.sortL
shelf_lay_g SlLaysC2.n5 Slgc 5 at Try 75 as Try.cmpL
end Go.Proofs.Ytehnnfpjdfffcaa
