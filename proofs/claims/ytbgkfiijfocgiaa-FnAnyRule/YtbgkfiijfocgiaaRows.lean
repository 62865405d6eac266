/-
  No cell of these rows narrows 'for every input' (looked for: loops, veiled, ifaces, maps, wideKeys, modest, calm, conditions, laid).
  DERIVED. THE GIVEN ROWS OF THIS SEAT. 7 by the template 'for every input the law returns true; each argument reads behind the call as it read before'; 0 by the template 'total and deterministic' (their statements: YtbgkfiijfocgiaaTotals.lean).
  GIVEN WITH THE SEED: the statements are not yours to turn. If you find one false, say at which input.
  Laid BY PROGRAM, IN A SANDBOX (cutbox-rows.mjs): the forced cells as the released guide's own fill.sh prints them over the translation b4899c8aa0615bfe… (all of the seat's roots in one cut). By AI agents, Wed Nov 11 2026. No macro, syntax, notation, axiom, sorry.
-/
import Derived.Test.YtbgkfiijfocgiaaChecked
import GoSem.Claim
import GoSem.ClaimJoined
import GoSem.ClaimMapViews
import Derived.JoinedTies
import Derived.KernelRfl
namespace Go.Proofs.Ytbgkfiijfocgiaa
/- THE CELL 'sum', in the pinned program and in every row, IS THE sha256 OF THE DUMP (.gsa) THAT YtbgkfiijfocgiaaProg.lean LOADS. Nothing in Lean hashes anything: it is a label: what it is worth is what the hold of that sum in a sandbox is worth. -/
noncomputable def Try.pinned : Pinned := { name := "ytbgkfiijfocgiaa", sum := "b4899c8aa0615bfe0a11da318579f5e94dc6d68d61f08a57a31b93d3b7258bdb", checked := Try.checked }
namespace Rows
def none {H : Type} : Left H := { results := [], args := [] }

/-- 'laws.FnLattice': WHATEVER THE INPUT: true; the input reads as it did. -/
def fnLatticeSpec : ChangeSpec := { name := "fnLattice", fn := fun _ => fun
  | [d] => { results := [.lit (.bool true)], args := [d] }
  | _ => none }
def fnLatticeRow : OpenClaim := { program := "ytbgkfiijfocgiaa", sum := "b4899c8aa0615bfe0a11da318579f5e94dc6d68d61f08a57a31b93d3b7258bdb", func := "loop.example/g00266/laws.FnLattice", spec := "fnLattice", unfollowed := true, recurses := true, apart := false }
def FnLatticeSaid : Prop := fnLatticeRow.holds Try.pinned (OpenSpec.ofChange fnLatticeSpec)

/-- ITS FALSE NEIGHBOUR: 'it returns false'. Refute it at one input. -/
def fnLatticeWrong : ChangeSpec := { name := "fnLattice", fn := fun _ => fun
  | [d] => { results := [.lit (.bool false)], args := [d] }
  | _ => none }
def FnLatticeWrongFalsely : Prop := fnLatticeRow.holds Try.pinned (OpenSpec.ofChange fnLatticeWrong)

/-- 'laws.FnTarski': WHATEVER THE INPUT: true; the input reads as it did. -/
def fnTarskiSpec : ChangeSpec := { name := "fnTarski", fn := fun _ => fun
  | [d] => { results := [.lit (.bool true)], args := [d] }
  | _ => none }
def fnTarskiRow : OpenClaim := { program := "ytbgkfiijfocgiaa", sum := "b4899c8aa0615bfe0a11da318579f5e94dc6d68d61f08a57a31b93d3b7258bdb", func := "loop.example/g00266/laws.FnTarski", spec := "fnTarski", unfollowed := true, recurses := true, apart := false }
def FnTarskiSaid : Prop := fnTarskiRow.holds Try.pinned (OpenSpec.ofChange fnTarskiSpec)

/-- ITS FALSE NEIGHBOUR: 'it returns false'. Refute it at one input. -/
def fnTarskiWrong : ChangeSpec := { name := "fnTarski", fn := fun _ => fun
  | [d] => { results := [.lit (.bool false)], args := [d] }
  | _ => none }
def FnTarskiWrongFalsely : Prop := fnTarskiRow.holds Try.pinned (OpenSpec.ofChange fnTarskiWrong)

/-- 'laws.FnAnyRule': WHATEVER THE INPUT: true; the input reads as it did. -/
def fnAnyRuleSpec : ChangeSpec := { name := "fnAnyRule", fn := fun _ => fun
  | [d] => { results := [.lit (.bool true)], args := [d] }
  | _ => none }
def fnAnyRuleRow : OpenClaim := { program := "ytbgkfiijfocgiaa", sum := "b4899c8aa0615bfe0a11da318579f5e94dc6d68d61f08a57a31b93d3b7258bdb", func := "loop.example/g00266/laws.FnAnyRule", spec := "fnAnyRule", unfollowed := true, recurses := true, apart := false }
def FnAnyRuleSaid : Prop := fnAnyRuleRow.holds Try.pinned (OpenSpec.ofChange fnAnyRuleSpec)

/-- ITS FALSE NEIGHBOUR: 'it returns false'. Refute it at one input. -/
def fnAnyRuleWrong : ChangeSpec := { name := "fnAnyRule", fn := fun _ => fun
  | [d] => { results := [.lit (.bool false)], args := [d] }
  | _ => none }
def FnAnyRuleWrongFalsely : Prop := fnAnyRuleRow.holds Try.pinned (OpenSpec.ofChange fnAnyRuleWrong)

/-- 'laws.FnExactRulesOk': WHATEVER THE INPUT: true; the input reads as it did. -/
def fnExactRulesOkSpec : ChangeSpec := { name := "fnExactRulesOk", fn := fun _ => fun
  | [d] => { results := [.lit (.bool true)], args := [d] }
  | _ => none }
def fnExactRulesOkRow : OpenClaim := { program := "ytbgkfiijfocgiaa", sum := "b4899c8aa0615bfe0a11da318579f5e94dc6d68d61f08a57a31b93d3b7258bdb", func := "loop.example/g00266/laws.FnExactRulesOk", spec := "fnExactRulesOk", unfollowed := true, recurses := true, apart := false }
def FnExactRulesOkSaid : Prop := fnExactRulesOkRow.holds Try.pinned (OpenSpec.ofChange fnExactRulesOkSpec)

/-- ITS FALSE NEIGHBOUR: 'it returns false'. Refute it at one input. -/
def fnExactRulesOkWrong : ChangeSpec := { name := "fnExactRulesOk", fn := fun _ => fun
  | [d] => { results := [.lit (.bool false)], args := [d] }
  | _ => none }
def FnExactRulesOkWrongFalsely : Prop := fnExactRulesOkRow.holds Try.pinned (OpenSpec.ofChange fnExactRulesOkWrong)

/-- 'laws.FnExactFired': WHATEVER THE INPUT: true; the input reads as it did. -/
def fnExactFiredSpec : ChangeSpec := { name := "fnExactFired", fn := fun _ => fun
  | [d1, d2] => { results := [.lit (.bool true)], args := [d1, d2] }
  | _ => none }
def fnExactFiredRow : OpenClaim := { program := "ytbgkfiijfocgiaa", sum := "b4899c8aa0615bfe0a11da318579f5e94dc6d68d61f08a57a31b93d3b7258bdb", func := "loop.example/g00266/laws.FnExactFired", spec := "fnExactFired", unfollowed := true, recurses := true, apart := false }
def FnExactFiredSaid : Prop := fnExactFiredRow.holds Try.pinned (OpenSpec.ofChange fnExactFiredSpec)

/-- ITS FALSE NEIGHBOUR: 'it returns false'. Refute it at one input. -/
def fnExactFiredWrong : ChangeSpec := { name := "fnExactFired", fn := fun _ => fun
  | [d1, d2] => { results := [.lit (.bool false)], args := [d1, d2] }
  | _ => none }
def FnExactFiredWrongFalsely : Prop := fnExactFiredRow.holds Try.pinned (OpenSpec.ofChange fnExactFiredWrong)

/-- 'laws.FnExactSettled': WHATEVER THE INPUT: true; the input reads as it did. -/
def fnExactSettledSpec : ChangeSpec := { name := "fnExactSettled", fn := fun _ => fun
  | [d1, d2] => { results := [.lit (.bool true)], args := [d1, d2] }
  | _ => none }
def fnExactSettledRow : OpenClaim := { program := "ytbgkfiijfocgiaa", sum := "b4899c8aa0615bfe0a11da318579f5e94dc6d68d61f08a57a31b93d3b7258bdb", func := "loop.example/g00266/laws.FnExactSettled", spec := "fnExactSettled", unfollowed := true, recurses := true, apart := false }
def FnExactSettledSaid : Prop := fnExactSettledRow.holds Try.pinned (OpenSpec.ofChange fnExactSettledSpec)

/-- ITS FALSE NEIGHBOUR: 'it returns false'. Refute it at one input. -/
def fnExactSettledWrong : ChangeSpec := { name := "fnExactSettled", fn := fun _ => fun
  | [d1, d2] => { results := [.lit (.bool false)], args := [d1, d2] }
  | _ => none }
def FnExactSettledWrongFalsely : Prop := fnExactSettledRow.holds Try.pinned (OpenSpec.ofChange fnExactSettledWrong)

/-- 'laws.FnExactSteady': WHATEVER THE INPUT: true; the input reads as it did. -/
def fnExactSteadySpec : ChangeSpec := { name := "fnExactSteady", fn := fun _ => fun
  | [d1, d2] => { results := [.lit (.bool true)], args := [d1, d2] }
  | _ => none }
def fnExactSteadyRow : OpenClaim := { program := "ytbgkfiijfocgiaa", sum := "b4899c8aa0615bfe0a11da318579f5e94dc6d68d61f08a57a31b93d3b7258bdb", func := "loop.example/g00266/laws.FnExactSteady", spec := "fnExactSteady", unfollowed := true, recurses := true, apart := false }
def FnExactSteadySaid : Prop := fnExactSteadyRow.holds Try.pinned (OpenSpec.ofChange fnExactSteadySpec)

/-- ITS FALSE NEIGHBOUR: 'it returns false'. Refute it at one input. -/
def fnExactSteadyWrong : ChangeSpec := { name := "fnExactSteady", fn := fun _ => fun
  | [d1, d2] => { results := [.lit (.bool false)], args := [d1, d2] }
  | _ => none }
def FnExactSteadyWrongFalsely : Prop := fnExactSteadyRow.holds Try.pinned (OpenSpec.ofChange fnExactSteadyWrong)

/- THE SECOND FORM. 'bulk': how many values and letters a reading holds, each counted each time it is reached (what is shared counts as often as it is met; a slice's spare places count too). A statement '..UptoSaid' is the law's where the arguments, and the package variables that the reading takes, are together of bulk at most 1048576: NARROWER than '..Said'. Prove '..Said' where nothing that the law and all that it calls make is longer than what came in: it says more and counts as full. Else prove '..UptoSaid'. A law counts once. -/
mutual
def uptoBulk {H : Type} : DataW H → Nat
  | .lit (.string bytes) => bytes.length + 1
  | .lit _ => 1
  | .nil => 1
  | .ptr d => uptoBulk d + 1
  | .slice elems spare => uptoBulkAll elems + uptoBulkAll spare + 1
  | .agg parts => uptoBulkAll parts + 1
  | .iface _ d => uptoBulk d + 1
  | .map entries => uptoBulkEntries entries + 1
  | .held _ => 1
def uptoBulkAll {H : Type} : List (DataW H) → Nat
  | [] => 0
  | d :: r => uptoBulk d + uptoBulkAll r
def uptoBulkEntries {H : Type} : List (Lit × DataW H) → Nat
  | [] => 0
  | x :: r => uptoBulkEntry x + uptoBulkEntries r
def uptoBulkEntry {H : Type} : Lit × DataW H → Nat
  | (.string bytes, d) => bytes.length + uptoBulk d + 1
  | (_, d) => uptoBulk d + 1
 end
def uptoSmall : (H : Type) → List (DataW H) → Bool := fun _ ds => decide (uptoBulkAll ds ≤ 1048576)
def OpenSpec.upto (s : _root_.Go.ChangeSpec) : _root_.Go.OpenSpec := { _root_.Go.OpenSpec.ofChange s with cond := some uptoSmall }

/-- 'laws.FnLattice', WHERE WHAT IT READS IS OF BULK AT MOST 1048576: true; the input reads as it did. -/
def fnLatticeUptoRow : OpenClaim := { program := "ytbgkfiijfocgiaa", sum := "b4899c8aa0615bfe0a11da318579f5e94dc6d68d61f08a57a31b93d3b7258bdb", func := "loop.example/g00266/laws.FnLattice", spec := "fnLattice", unfollowed := true, recurses := true, apart := false, narrowed := true }
def FnLatticeUptoSaid : Prop := fnLatticeUptoRow.holds Try.pinned (OpenSpec.upto fnLatticeSpec)

/-- 'laws.FnTarski', WHERE WHAT IT READS IS OF BULK AT MOST 1048576: true; the input reads as it did. -/
def fnTarskiUptoRow : OpenClaim := { program := "ytbgkfiijfocgiaa", sum := "b4899c8aa0615bfe0a11da318579f5e94dc6d68d61f08a57a31b93d3b7258bdb", func := "loop.example/g00266/laws.FnTarski", spec := "fnTarski", unfollowed := true, recurses := true, apart := false, narrowed := true }
def FnTarskiUptoSaid : Prop := fnTarskiUptoRow.holds Try.pinned (OpenSpec.upto fnTarskiSpec)

/-- 'laws.FnAnyRule', WHERE WHAT IT READS IS OF BULK AT MOST 1048576: true; the input reads as it did. -/
def fnAnyRuleUptoRow : OpenClaim := { program := "ytbgkfiijfocgiaa", sum := "b4899c8aa0615bfe0a11da318579f5e94dc6d68d61f08a57a31b93d3b7258bdb", func := "loop.example/g00266/laws.FnAnyRule", spec := "fnAnyRule", unfollowed := true, recurses := true, apart := false, narrowed := true }
def FnAnyRuleUptoSaid : Prop := fnAnyRuleUptoRow.holds Try.pinned (OpenSpec.upto fnAnyRuleSpec)

/-- 'laws.FnExactRulesOk', WHERE WHAT IT READS IS OF BULK AT MOST 1048576: true; the input reads as it did. -/
def fnExactRulesOkUptoRow : OpenClaim := { program := "ytbgkfiijfocgiaa", sum := "b4899c8aa0615bfe0a11da318579f5e94dc6d68d61f08a57a31b93d3b7258bdb", func := "loop.example/g00266/laws.FnExactRulesOk", spec := "fnExactRulesOk", unfollowed := true, recurses := true, apart := false, narrowed := true }
def FnExactRulesOkUptoSaid : Prop := fnExactRulesOkUptoRow.holds Try.pinned (OpenSpec.upto fnExactRulesOkSpec)

/-- 'laws.FnExactFired', WHERE WHAT IT READS IS OF BULK AT MOST 1048576: true; the input reads as it did. -/
def fnExactFiredUptoRow : OpenClaim := { program := "ytbgkfiijfocgiaa", sum := "b4899c8aa0615bfe0a11da318579f5e94dc6d68d61f08a57a31b93d3b7258bdb", func := "loop.example/g00266/laws.FnExactFired", spec := "fnExactFired", unfollowed := true, recurses := true, apart := false, narrowed := true }
def FnExactFiredUptoSaid : Prop := fnExactFiredUptoRow.holds Try.pinned (OpenSpec.upto fnExactFiredSpec)

/-- 'laws.FnExactSettled', WHERE WHAT IT READS IS OF BULK AT MOST 1048576: true; the input reads as it did. -/
def fnExactSettledUptoRow : OpenClaim := { program := "ytbgkfiijfocgiaa", sum := "b4899c8aa0615bfe0a11da318579f5e94dc6d68d61f08a57a31b93d3b7258bdb", func := "loop.example/g00266/laws.FnExactSettled", spec := "fnExactSettled", unfollowed := true, recurses := true, apart := false, narrowed := true }
def FnExactSettledUptoSaid : Prop := fnExactSettledUptoRow.holds Try.pinned (OpenSpec.upto fnExactSettledSpec)

/-- 'laws.FnExactSteady', WHERE WHAT IT READS IS OF BULK AT MOST 1048576: true; the input reads as it did. -/
def fnExactSteadyUptoRow : OpenClaim := { program := "ytbgkfiijfocgiaa", sum := "b4899c8aa0615bfe0a11da318579f5e94dc6d68d61f08a57a31b93d3b7258bdb", func := "loop.example/g00266/laws.FnExactSteady", spec := "fnExactSteady", unfollowed := true, recurses := true, apart := false, narrowed := true }
def FnExactSteadyUptoSaid : Prop := fnExactSteadyUptoRow.holds Try.pinned (OpenSpec.upto fnExactSteadySpec)

end Rows
end Go.Proofs.Ytbgkfiijfocgiaa
