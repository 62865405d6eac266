/-
  No cell of these rows narrows 'for every input' (looked for: loops, veiled, ifaces, maps, wideKeys, modest, calm, conditions, laid).
  DERIVED. THE GIVEN ROWS OF THIS SEAT. 8 by the template 'for every input the law returns true; each argument reads behind the call as it read before'; 0 by the template 'total and deterministic' (their statements: YtehnnfpjdfffcaaTotals.lean).
  GIVEN WITH THE SEED: the statements are not yours to turn. If you find one false, say at which input.
  Laid BY PROGRAM, IN A SANDBOX (cutbox-rows.mjs): the forced cells as the released guide's own fill.sh prints them over the translation 9ed73e0484da1eb2… (all of the seat's roots in one cut). By AI agents, Wed Nov 11 2026. No macro, syntax, notation, axiom, sorry.
-/
import Derived.Test.YtehnnfpjdfffcaaChecked
import GoSem.Claim
import GoSem.ClaimJoined
import GoSem.ClaimMapViews
import Derived.JoinedTies
import Derived.KernelRfl
namespace Go.Proofs.Ytehnnfpjdfffcaa
/- THE CELL 'sum', in the pinned program and in every row, IS THE sha256 OF THE DUMP (.gsa) THAT YtehnnfpjdfffcaaProg.lean LOADS. Nothing in Lean hashes anything: it is a label: what it is worth is what the hold of that sum in a sandbox is worth. -/
noncomputable def Try.pinned : Pinned := { name := "ytehnnfpjdfffcaa", sum := "9ed73e0484da1eb2687fd963185cfc89a8613086498f51abf5a922ea830f736a", checked := Try.checked }
namespace Rows
def none {H : Type} : Left H := { results := [], args := [] }

/-- 'laws.FnLattice': WHATEVER THE INPUT: true; the input reads as it did. -/
def fnLatticeSpec : ChangeSpec := { name := "fnLattice", fn := fun _ => fun
  | [d] => { results := [.lit (.bool true)], args := [d] }
  | _ => none }
def fnLatticeRow : OpenClaim := { program := "ytehnnfpjdfffcaa", sum := "9ed73e0484da1eb2687fd963185cfc89a8613086498f51abf5a922ea830f736a", func := "loop.example/g00266/laws.FnLattice", spec := "fnLattice", unfollowed := true, recurses := true, apart := false }
def FnLatticeSaid : Prop := fnLatticeRow.holds Try.pinned (OpenSpec.ofChange fnLatticeSpec)

/-- ITS FALSE NEIGHBOUR: 'it returns false'. Refute it at one input. -/
def fnLatticeWrong : ChangeSpec := { name := "fnLattice", fn := fun _ => fun
  | [d] => { results := [.lit (.bool false)], args := [d] }
  | _ => none }
def FnLatticeWrongFalsely : Prop := fnLatticeRow.holds Try.pinned (OpenSpec.ofChange fnLatticeWrong)

/-- 'laws.FnLamport': WHATEVER THE INPUT: true; the input reads as it did. -/
def fnLamportSpec : ChangeSpec := { name := "fnLamport", fn := fun _ => fun
  | [d] => { results := [.lit (.bool true)], args := [d] }
  | _ => none }
def fnLamportRow : OpenClaim := { program := "ytehnnfpjdfffcaa", sum := "9ed73e0484da1eb2687fd963185cfc89a8613086498f51abf5a922ea830f736a", func := "loop.example/g00266/laws.FnLamport", spec := "fnLamport", unfollowed := true, recurses := true, apart := false }
def FnLamportSaid : Prop := fnLamportRow.holds Try.pinned (OpenSpec.ofChange fnLamportSpec)

/-- ITS FALSE NEIGHBOUR: 'it returns false'. Refute it at one input. -/
def fnLamportWrong : ChangeSpec := { name := "fnLamport", fn := fun _ => fun
  | [d] => { results := [.lit (.bool false)], args := [d] }
  | _ => none }
def FnLamportWrongFalsely : Prop := fnLamportRow.holds Try.pinned (OpenSpec.ofChange fnLamportWrong)

/-- 'laws.FnPast': WHATEVER THE INPUT: true; the input reads as it did. -/
def fnPastSpec : ChangeSpec := { name := "fnPast", fn := fun _ => fun
  | [d] => { results := [.lit (.bool true)], args := [d] }
  | _ => none }
def fnPastRow : OpenClaim := { program := "ytehnnfpjdfffcaa", sum := "9ed73e0484da1eb2687fd963185cfc89a8613086498f51abf5a922ea830f736a", func := "loop.example/g00266/laws.FnPast", spec := "fnPast", unfollowed := true, recurses := true, apart := false }
def FnPastSaid : Prop := fnPastRow.holds Try.pinned (OpenSpec.ofChange fnPastSpec)

/-- ITS FALSE NEIGHBOUR: 'it returns false'. Refute it at one input. -/
def fnPastWrong : ChangeSpec := { name := "fnPast", fn := fun _ => fun
  | [d] => { results := [.lit (.bool false)], args := [d] }
  | _ => none }
def FnPastWrongFalsely : Prop := fnPastRow.holds Try.pinned (OpenSpec.ofChange fnPastWrong)

/-- 'laws.FnExactTraceOk': WHATEVER THE INPUT: true; the input reads as it did. -/
def fnExactTraceOkSpec : ChangeSpec := { name := "fnExactTraceOk", fn := fun _ => fun
  | [d] => { results := [.lit (.bool true)], args := [d] }
  | _ => none }
def fnExactTraceOkRow : OpenClaim := { program := "ytehnnfpjdfffcaa", sum := "9ed73e0484da1eb2687fd963185cfc89a8613086498f51abf5a922ea830f736a", func := "loop.example/g00266/laws.FnExactTraceOk", spec := "fnExactTraceOk", unfollowed := true, recurses := true, apart := false }
def FnExactTraceOkSaid : Prop := fnExactTraceOkRow.holds Try.pinned (OpenSpec.ofChange fnExactTraceOkSpec)

/-- ITS FALSE NEIGHBOUR: 'it returns false'. Refute it at one input. -/
def fnExactTraceOkWrong : ChangeSpec := { name := "fnExactTraceOk", fn := fun _ => fun
  | [d] => { results := [.lit (.bool false)], args := [d] }
  | _ => none }
def FnExactTraceOkWrongFalsely : Prop := fnExactTraceOkRow.holds Try.pinned (OpenSpec.ofChange fnExactTraceOkWrong)

/-- 'laws.FnExactAhead': WHATEVER THE INPUT: true; the input reads as it did. -/
def fnExactAheadSpec : ChangeSpec := { name := "fnExactAhead", fn := fun _ => fun
  | [d1, d2, d3] => { results := [.lit (.bool true)], args := [d1, d2, d3] }
  | _ => none }
def fnExactAheadRow : OpenClaim := { program := "ytehnnfpjdfffcaa", sum := "9ed73e0484da1eb2687fd963185cfc89a8613086498f51abf5a922ea830f736a", func := "loop.example/g00266/laws.FnExactAhead", spec := "fnExactAhead", unfollowed := true, recurses := true, apart := false }
def FnExactAheadSaid : Prop := fnExactAheadRow.holds Try.pinned (OpenSpec.ofChange fnExactAheadSpec)

/-- ITS FALSE NEIGHBOUR: 'it returns false'. Refute it at one input. -/
def fnExactAheadWrong : ChangeSpec := { name := "fnExactAhead", fn := fun _ => fun
  | [d1, d2, d3] => { results := [.lit (.bool false)], args := [d1, d2, d3] }
  | _ => none }
def FnExactAheadWrongFalsely : Prop := fnExactAheadRow.holds Try.pinned (OpenSpec.ofChange fnExactAheadWrong)

/-- 'laws.FnExactStamps': WHATEVER THE INPUT: true; the input reads as it did. -/
def fnExactStampsSpec : ChangeSpec := { name := "fnExactStamps", fn := fun _ => fun
  | [d] => { results := [.lit (.bool true)], args := [d] }
  | _ => none }
def fnExactStampsRow : OpenClaim := { program := "ytehnnfpjdfffcaa", sum := "9ed73e0484da1eb2687fd963185cfc89a8613086498f51abf5a922ea830f736a", func := "loop.example/g00266/laws.FnExactStamps", spec := "fnExactStamps", unfollowed := true, recurses := true, apart := false }
def FnExactStampsSaid : Prop := fnExactStampsRow.holds Try.pinned (OpenSpec.ofChange fnExactStampsSpec)

/-- ITS FALSE NEIGHBOUR: 'it returns false'. Refute it at one input. -/
def fnExactStampsWrong : ChangeSpec := { name := "fnExactStamps", fn := fun _ => fun
  | [d] => { results := [.lit (.bool false)], args := [d] }
  | _ => none }
def FnExactStampsWrongFalsely : Prop := fnExactStampsRow.holds Try.pinned (OpenSpec.ofChange fnExactStampsWrong)

/-- 'laws.FnExactOrder': WHATEVER THE INPUT: true; the input reads as it did. -/
def fnExactOrderSpec : ChangeSpec := { name := "fnExactOrder", fn := fun _ => fun
  | [d] => { results := [.lit (.bool true)], args := [d] }
  | _ => none }
def fnExactOrderRow : OpenClaim := { program := "ytehnnfpjdfffcaa", sum := "9ed73e0484da1eb2687fd963185cfc89a8613086498f51abf5a922ea830f736a", func := "loop.example/g00266/laws.FnExactOrder", spec := "fnExactOrder", unfollowed := true, recurses := true, apart := false }
def FnExactOrderSaid : Prop := fnExactOrderRow.holds Try.pinned (OpenSpec.ofChange fnExactOrderSpec)

/-- ITS FALSE NEIGHBOUR: 'it returns false'. Refute it at one input. -/
def fnExactOrderWrong : ChangeSpec := { name := "fnExactOrder", fn := fun _ => fun
  | [d] => { results := [.lit (.bool false)], args := [d] }
  | _ => none }
def FnExactOrderWrongFalsely : Prop := fnExactOrderRow.holds Try.pinned (OpenSpec.ofChange fnExactOrderWrong)

/-- 'laws.FnExactPast': WHATEVER THE INPUT: true; the input reads as it did. -/
def fnExactPastSpec : ChangeSpec := { name := "fnExactPast", fn := fun _ => fun
  | [d1, d2] => { results := [.lit (.bool true)], args := [d1, d2] }
  | _ => none }
def fnExactPastRow : OpenClaim := { program := "ytehnnfpjdfffcaa", sum := "9ed73e0484da1eb2687fd963185cfc89a8613086498f51abf5a922ea830f736a", func := "loop.example/g00266/laws.FnExactPast", spec := "fnExactPast", unfollowed := true, recurses := true, apart := false }
def FnExactPastSaid : Prop := fnExactPastRow.holds Try.pinned (OpenSpec.ofChange fnExactPastSpec)

/-- ITS FALSE NEIGHBOUR: 'it returns false'. Refute it at one input. -/
def fnExactPastWrong : ChangeSpec := { name := "fnExactPast", fn := fun _ => fun
  | [d1, d2] => { results := [.lit (.bool false)], args := [d1, d2] }
  | _ => none }
def FnExactPastWrongFalsely : Prop := fnExactPastRow.holds Try.pinned (OpenSpec.ofChange fnExactPastWrong)

/- THE SECOND FORM. 'bulk': how many values and letters a reading holds, each counted each time it is reached (what is shared counts as often as it is met; a slice's spare places count too). A statement '..UptoSaid' is the law's where the arguments, and the package variables that the reading takes, are together of bulk at most 1048576: NARROWER than '..Said'. Prove '..Said' where nothing that the law and all that it calls make is longer than what came in: it says more and counts as full. Else prove '..UptoSaid'. A law counts once. -/
mutual
def uptoBulk {H : Type} : DataW H → Nat
  | .lit (.string bytes) => bytes.length + 1
  | .lit _ => 1
  | .nil => 1
  | .ptr d => uptoBulk d + 1
  | .slice elems spare => uptoBulkAll elems + uptoBulkAll spare + 1
  | .agg parts => uptoBulkAll parts + 1
  | .iface _ d => uptoBulk d + 1
  | .map entries => uptoBulkEntries entries + 1
  | .held _ => 1
def uptoBulkAll {H : Type} : List (DataW H) → Nat
  | [] => 0
  | d :: r => uptoBulk d + uptoBulkAll r
def uptoBulkEntries {H : Type} : List (Lit × DataW H) → Nat
  | [] => 0
  | x :: r => uptoBulkEntry x + uptoBulkEntries r
def uptoBulkEntry {H : Type} : Lit × DataW H → Nat
  | (.string bytes, d) => bytes.length + uptoBulk d + 1
  | (_, d) => uptoBulk d + 1
 end
def uptoSmall : (H : Type) → List (DataW H) → Bool := fun _ ds => decide (uptoBulkAll ds ≤ 1048576)
def OpenSpec.upto (s : _root_.Go.ChangeSpec) : _root_.Go.OpenSpec := { _root_.Go.OpenSpec.ofChange s with cond := some uptoSmall }

/-- 'laws.FnLattice', WHERE WHAT IT READS IS OF BULK AT MOST 1048576: true; the input reads as it did. -/
def fnLatticeUptoRow : OpenClaim := { program := "ytehnnfpjdfffcaa", sum := "9ed73e0484da1eb2687fd963185cfc89a8613086498f51abf5a922ea830f736a", func := "loop.example/g00266/laws.FnLattice", spec := "fnLattice", unfollowed := true, recurses := true, apart := false, narrowed := true }
def FnLatticeUptoSaid : Prop := fnLatticeUptoRow.holds Try.pinned (OpenSpec.upto fnLatticeSpec)

/-- 'laws.FnLamport', WHERE WHAT IT READS IS OF BULK AT MOST 1048576: true; the input reads as it did. -/
def fnLamportUptoRow : OpenClaim := { program := "ytehnnfpjdfffcaa", sum := "9ed73e0484da1eb2687fd963185cfc89a8613086498f51abf5a922ea830f736a", func := "loop.example/g00266/laws.FnLamport", spec := "fnLamport", unfollowed := true, recurses := true, apart := false, narrowed := true }
def FnLamportUptoSaid : Prop := fnLamportUptoRow.holds Try.pinned (OpenSpec.upto fnLamportSpec)

/-- 'laws.FnPast', WHERE WHAT IT READS IS OF BULK AT MOST 1048576: true; the input reads as it did. -/
def fnPastUptoRow : OpenClaim := { program := "ytehnnfpjdfffcaa", sum := "9ed73e0484da1eb2687fd963185cfc89a8613086498f51abf5a922ea830f736a", func := "loop.example/g00266/laws.FnPast", spec := "fnPast", unfollowed := true, recurses := true, apart := false, narrowed := true }
def FnPastUptoSaid : Prop := fnPastUptoRow.holds Try.pinned (OpenSpec.upto fnPastSpec)

/-- 'laws.FnExactTraceOk', WHERE WHAT IT READS IS OF BULK AT MOST 1048576: true; the input reads as it did. -/
def fnExactTraceOkUptoRow : OpenClaim := { program := "ytehnnfpjdfffcaa", sum := "9ed73e0484da1eb2687fd963185cfc89a8613086498f51abf5a922ea830f736a", func := "loop.example/g00266/laws.FnExactTraceOk", spec := "fnExactTraceOk", unfollowed := true, recurses := true, apart := false, narrowed := true }
def FnExactTraceOkUptoSaid : Prop := fnExactTraceOkUptoRow.holds Try.pinned (OpenSpec.upto fnExactTraceOkSpec)

/-- 'laws.FnExactAhead', WHERE WHAT IT READS IS OF BULK AT MOST 1048576: true; the input reads as it did. -/
def fnExactAheadUptoRow : OpenClaim := { program := "ytehnnfpjdfffcaa", sum := "9ed73e0484da1eb2687fd963185cfc89a8613086498f51abf5a922ea830f736a", func := "loop.example/g00266/laws.FnExactAhead", spec := "fnExactAhead", unfollowed := true, recurses := true, apart := false, narrowed := true }
def FnExactAheadUptoSaid : Prop := fnExactAheadUptoRow.holds Try.pinned (OpenSpec.upto fnExactAheadSpec)

/-- 'laws.FnExactStamps', WHERE WHAT IT READS IS OF BULK AT MOST 1048576: true; the input reads as it did. -/
def fnExactStampsUptoRow : OpenClaim := { program := "ytehnnfpjdfffcaa", sum := "9ed73e0484da1eb2687fd963185cfc89a8613086498f51abf5a922ea830f736a", func := "loop.example/g00266/laws.FnExactStamps", spec := "fnExactStamps", unfollowed := true, recurses := true, apart := false, narrowed := true }
def FnExactStampsUptoSaid : Prop := fnExactStampsUptoRow.holds Try.pinned (OpenSpec.upto fnExactStampsSpec)

/-- 'laws.FnExactOrder', WHERE WHAT IT READS IS OF BULK AT MOST 1048576: true; the input reads as it did. -/
def fnExactOrderUptoRow : OpenClaim := { program := "ytehnnfpjdfffcaa", sum := "9ed73e0484da1eb2687fd963185cfc89a8613086498f51abf5a922ea830f736a", func := "loop.example/g00266/laws.FnExactOrder", spec := "fnExactOrder", unfollowed := true, recurses := true, apart := false, narrowed := true }
def FnExactOrderUptoSaid : Prop := fnExactOrderUptoRow.holds Try.pinned (OpenSpec.upto fnExactOrderSpec)

/-- 'laws.FnExactPast', WHERE WHAT IT READS IS OF BULK AT MOST 1048576: true; the input reads as it did. -/
def fnExactPastUptoRow : OpenClaim := { program := "ytehnnfpjdfffcaa", sum := "9ed73e0484da1eb2687fd963185cfc89a8613086498f51abf5a922ea830f736a", func := "loop.example/g00266/laws.FnExactPast", spec := "fnExactPast", unfollowed := true, recurses := true, apart := false, narrowed := true }
def FnExactPastUptoSaid : Prop := fnExactPastUptoRow.holds Try.pinned (OpenSpec.upto fnExactPastSpec)

end Rows
end Go.Proofs.Ytehnnfpjdfffcaa
