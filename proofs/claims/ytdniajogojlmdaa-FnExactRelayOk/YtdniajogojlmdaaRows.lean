/-
  No cell of these rows narrows 'for every input' (looked for: loops, veiled, ifaces, maps, wideKeys, modest, calm, conditions, laid).
  DERIVED. THE GIVEN ROWS OF THIS SEAT. 7 by the template 'for every input the law returns true; each argument reads behind the call as it read before'; 0 by the template 'total and deterministic' (their statements: YtdniajogojlmdaaTotals.lean).
  GIVEN WITH THE SEED: the statements are not yours to turn. If you find one false, say at which input.
  Laid BY PROGRAM, IN A SANDBOX (cutbox-rows.mjs): the forced cells as the released guide's own fill.sh prints them over the translation cdc29313f0be508b… (all of the seat's roots in one cut). By AI agents, Wed Nov 11 2026. No macro, syntax, notation, axiom, sorry.
-/
import Derived.Test.YtdniajogojlmdaaChecked
import GoSem.Claim
import GoSem.ClaimJoined
import GoSem.ClaimMapViews
import Derived.JoinedTies
import Derived.KernelRfl
namespace Go.Proofs.Ytdniajogojlmdaa
/- THE CELL 'sum', in the pinned program and in every row, IS THE sha256 OF THE DUMP (.gsa) THAT YtdniajogojlmdaaProg.lean LOADS. Nothing in Lean hashes anything: it is a label: what it is worth is what the hold of that sum in a sandbox is worth. -/
noncomputable def Try.pinned : Pinned := { name := "ytdniajogojlmdaa", sum := "cdc29313f0be508b34d47915868c47715a1b368adccabbaaecc7973d8886dfad", checked := Try.checked }
namespace Rows
def none {H : Type} : Left H := { results := [], args := [] }

/-- 'laws.FnLattice': WHATEVER THE INPUT: true; the input reads as it did. -/
def fnLatticeSpec : ChangeSpec := { name := "fnLattice", fn := fun _ => fun
  | [d] => { results := [.lit (.bool true)], args := [d] }
  | _ => none }
def fnLatticeRow : OpenClaim := { program := "ytdniajogojlmdaa", sum := "cdc29313f0be508b34d47915868c47715a1b368adccabbaaecc7973d8886dfad", func := "loop.example/g00266/laws.FnLattice", spec := "fnLattice", unfollowed := true, recurses := true, plainKeys := false, apart := false }
def FnLatticeSaid : Prop := fnLatticeRow.holds Try.pinned (OpenSpec.ofChange fnLatticeSpec)

/-- ITS FALSE NEIGHBOUR: 'it returns false'. Refute it at one input. -/
def fnLatticeWrong : ChangeSpec := { name := "fnLattice", fn := fun _ => fun
  | [d] => { results := [.lit (.bool false)], args := [d] }
  | _ => none }
def FnLatticeWrongFalsely : Prop := fnLatticeRow.holds Try.pinned (OpenSpec.ofChange fnLatticeWrong)

/-- 'laws.FnChained': WHATEVER THE INPUT: true; the input reads as it did. -/
def fnChainedSpec : ChangeSpec := { name := "fnChained", fn := fun _ => fun
  | [d] => { results := [.lit (.bool true)], args := [d] }
  | _ => none }
def fnChainedRow : OpenClaim := { program := "ytdniajogojlmdaa", sum := "cdc29313f0be508b34d47915868c47715a1b368adccabbaaecc7973d8886dfad", func := "loop.example/g00266/laws.FnChained", spec := "fnChained", plainKeys := false, apart := false }
def FnChainedSaid : Prop := fnChainedRow.holds Try.pinned (OpenSpec.ofChange fnChainedSpec)

/-- ITS FALSE NEIGHBOUR: 'it returns false'. Refute it at one input. -/
def fnChainedWrong : ChangeSpec := { name := "fnChained", fn := fun _ => fun
  | [d] => { results := [.lit (.bool false)], args := [d] }
  | _ => none }
def FnChainedWrongFalsely : Prop := fnChainedRow.holds Try.pinned (OpenSpec.ofChange fnChainedWrong)

/-- 'laws.FnExactRelayOk': WHATEVER THE INPUT: true; the input reads as it did. -/
def fnExactRelayOkSpec : ChangeSpec := { name := "fnExactRelayOk", fn := fun _ => fun
  | [d] => { results := [.lit (.bool true)], args := [d] }
  | _ => none }
def fnExactRelayOkRow : OpenClaim := { program := "ytdniajogojlmdaa", sum := "cdc29313f0be508b34d47915868c47715a1b368adccabbaaecc7973d8886dfad", func := "loop.example/g00266/laws.FnExactRelayOk", spec := "fnExactRelayOk", plainKeys := false, apart := false }
def FnExactRelayOkSaid : Prop := fnExactRelayOkRow.holds Try.pinned (OpenSpec.ofChange fnExactRelayOkSpec)

/-- ITS FALSE NEIGHBOUR: 'it returns false'. Refute it at one input. -/
def fnExactRelayOkWrong : ChangeSpec := { name := "fnExactRelayOk", fn := fun _ => fun
  | [d] => { results := [.lit (.bool false)], args := [d] }
  | _ => none }
def FnExactRelayOkWrongFalsely : Prop := fnExactRelayOkRow.holds Try.pinned (OpenSpec.ofChange fnExactRelayOkWrong)

/-- 'laws.FnExactNewRelay': WHATEVER THE INPUT: true; the input reads as it did. -/
def fnExactNewRelaySpec : ChangeSpec := { name := "fnExactNewRelay", fn := fun _ => fun
  | [d1, d2] => { results := [.lit (.bool true)], args := [d1, d2] }
  | _ => none }
def fnExactNewRelayRow : OpenClaim := { program := "ytdniajogojlmdaa", sum := "cdc29313f0be508b34d47915868c47715a1b368adccabbaaecc7973d8886dfad", func := "loop.example/g00266/laws.FnExactNewRelay", spec := "fnExactNewRelay", plainKeys := false, apart := false }
def FnExactNewRelaySaid : Prop := fnExactNewRelayRow.holds Try.pinned (OpenSpec.ofChange fnExactNewRelaySpec)

/-- ITS FALSE NEIGHBOUR: 'it returns false'. Refute it at one input. -/
def fnExactNewRelayWrong : ChangeSpec := { name := "fnExactNewRelay", fn := fun _ => fun
  | [d1, d2] => { results := [.lit (.bool false)], args := [d1, d2] }
  | _ => none }
def FnExactNewRelayWrongFalsely : Prop := fnExactNewRelayRow.holds Try.pinned (OpenSpec.ofChange fnExactNewRelayWrong)

/-- 'laws.FnExactTurn': WHATEVER THE INPUT: true; the input reads as it did. -/
def fnExactTurnSpec : ChangeSpec := { name := "fnExactTurn", fn := fun _ => fun
  | [d1, d2] => { results := [.lit (.bool true)], args := [d1, d2] }
  | _ => none }
def fnExactTurnRow : OpenClaim := { program := "ytdniajogojlmdaa", sum := "cdc29313f0be508b34d47915868c47715a1b368adccabbaaecc7973d8886dfad", func := "loop.example/g00266/laws.FnExactTurn", spec := "fnExactTurn", plainKeys := false, apart := false }
def FnExactTurnSaid : Prop := fnExactTurnRow.holds Try.pinned (OpenSpec.ofChange fnExactTurnSpec)

/-- ITS FALSE NEIGHBOUR: 'it returns false'. Refute it at one input. -/
def fnExactTurnWrong : ChangeSpec := { name := "fnExactTurn", fn := fun _ => fun
  | [d1, d2] => { results := [.lit (.bool false)], args := [d1, d2] }
  | _ => none }
def FnExactTurnWrongFalsely : Prop := fnExactTurnRow.holds Try.pinned (OpenSpec.ofChange fnExactTurnWrong)

/-- 'laws.FnExactFull': WHATEVER THE INPUT: true; the input reads as it did. -/
def fnExactFullSpec : ChangeSpec := { name := "fnExactFull", fn := fun _ => fun
  | [d] => { results := [.lit (.bool true)], args := [d] }
  | _ => none }
def fnExactFullRow : OpenClaim := { program := "ytdniajogojlmdaa", sum := "cdc29313f0be508b34d47915868c47715a1b368adccabbaaecc7973d8886dfad", func := "loop.example/g00266/laws.FnExactFull", spec := "fnExactFull", plainKeys := false, apart := false }
def FnExactFullSaid : Prop := fnExactFullRow.holds Try.pinned (OpenSpec.ofChange fnExactFullSpec)

/-- ITS FALSE NEIGHBOUR: 'it returns false'. Refute it at one input. -/
def fnExactFullWrong : ChangeSpec := { name := "fnExactFull", fn := fun _ => fun
  | [d] => { results := [.lit (.bool false)], args := [d] }
  | _ => none }
def FnExactFullWrongFalsely : Prop := fnExactFullRow.holds Try.pinned (OpenSpec.ofChange fnExactFullWrong)

/-- 'laws.FnExactChain': WHATEVER THE INPUT: true; the input reads as it did. -/
def fnExactChainSpec : ChangeSpec := { name := "fnExactChain", fn := fun _ => fun
  | [d] => { results := [.lit (.bool true)], args := [d] }
  | _ => none }
def fnExactChainRow : OpenClaim := { program := "ytdniajogojlmdaa", sum := "cdc29313f0be508b34d47915868c47715a1b368adccabbaaecc7973d8886dfad", func := "loop.example/g00266/laws.FnExactChain", spec := "fnExactChain", plainKeys := false, apart := false }
def FnExactChainSaid : Prop := fnExactChainRow.holds Try.pinned (OpenSpec.ofChange fnExactChainSpec)

/-- ITS FALSE NEIGHBOUR: 'it returns false'. Refute it at one input. -/
def fnExactChainWrong : ChangeSpec := { name := "fnExactChain", fn := fun _ => fun
  | [d] => { results := [.lit (.bool false)], args := [d] }
  | _ => none }
def FnExactChainWrongFalsely : Prop := fnExactChainRow.holds Try.pinned (OpenSpec.ofChange fnExactChainWrong)

/- THE SECOND FORM. 'bulk': how many values and letters a reading holds, each counted each time it is reached (what is shared counts as often as it is met; a slice's spare places count too). A statement '..UptoSaid' is the law's where the arguments, and the package variables that the reading takes, are together of bulk at most 1048576: NARROWER than '..Said'. Prove '..Said' where nothing that the law and all that it calls make is longer than what came in: it says more and counts as full. Else prove '..UptoSaid'. A law counts once. -/
mutual
def uptoBulk {H : Type} : DataW H → Nat
  | .lit (.string bytes) => bytes.length + 1
  | .lit _ => 1
  | .nil => 1
  | .ptr d => uptoBulk d + 1
  | .slice elems spare => uptoBulkAll elems + uptoBulkAll spare + 1
  | .agg parts => uptoBulkAll parts + 1
  | .iface _ d => uptoBulk d + 1
  | .map entries => uptoBulkEntries entries + 1
  | .held _ => 1
def uptoBulkAll {H : Type} : List (DataW H) → Nat
  | [] => 0
  | d :: r => uptoBulk d + uptoBulkAll r
def uptoBulkEntries {H : Type} : List (Lit × DataW H) → Nat
  | [] => 0
  | x :: r => uptoBulkEntry x + uptoBulkEntries r
def uptoBulkEntry {H : Type} : Lit × DataW H → Nat
  | (.string bytes, d) => bytes.length + uptoBulk d + 1
  | (_, d) => uptoBulk d + 1
 end
def uptoSmall : (H : Type) → List (DataW H) → Bool := fun _ ds => decide (uptoBulkAll ds ≤ 1048576)
def OpenSpec.upto (s : _root_.Go.ChangeSpec) : _root_.Go.OpenSpec := { _root_.Go.OpenSpec.ofChange s with cond := some uptoSmall }

/-- 'laws.FnLattice', WHERE WHAT IT READS IS OF BULK AT MOST 1048576: true; the input reads as it did. -/
def fnLatticeUptoRow : OpenClaim := { program := "ytdniajogojlmdaa", sum := "cdc29313f0be508b34d47915868c47715a1b368adccabbaaecc7973d8886dfad", func := "loop.example/g00266/laws.FnLattice", spec := "fnLattice", unfollowed := true, recurses := true, plainKeys := false, apart := false, narrowed := true }
def FnLatticeUptoSaid : Prop := fnLatticeUptoRow.holds Try.pinned (OpenSpec.upto fnLatticeSpec)

/-- 'laws.FnChained', WHERE WHAT IT READS IS OF BULK AT MOST 1048576: true; the input reads as it did. -/
def fnChainedUptoRow : OpenClaim := { program := "ytdniajogojlmdaa", sum := "cdc29313f0be508b34d47915868c47715a1b368adccabbaaecc7973d8886dfad", func := "loop.example/g00266/laws.FnChained", spec := "fnChained", plainKeys := false, apart := false, narrowed := true }
def FnChainedUptoSaid : Prop := fnChainedUptoRow.holds Try.pinned (OpenSpec.upto fnChainedSpec)

/-- 'laws.FnExactRelayOk', WHERE WHAT IT READS IS OF BULK AT MOST 1048576: true; the input reads as it did. -/
def fnExactRelayOkUptoRow : OpenClaim := { program := "ytdniajogojlmdaa", sum := "cdc29313f0be508b34d47915868c47715a1b368adccabbaaecc7973d8886dfad", func := "loop.example/g00266/laws.FnExactRelayOk", spec := "fnExactRelayOk", plainKeys := false, apart := false, narrowed := true }
def FnExactRelayOkUptoSaid : Prop := fnExactRelayOkUptoRow.holds Try.pinned (OpenSpec.upto fnExactRelayOkSpec)

/-- 'laws.FnExactNewRelay', WHERE WHAT IT READS IS OF BULK AT MOST 1048576: true; the input reads as it did. -/
def fnExactNewRelayUptoRow : OpenClaim := { program := "ytdniajogojlmdaa", sum := "cdc29313f0be508b34d47915868c47715a1b368adccabbaaecc7973d8886dfad", func := "loop.example/g00266/laws.FnExactNewRelay", spec := "fnExactNewRelay", plainKeys := false, apart := false, narrowed := true }
def FnExactNewRelayUptoSaid : Prop := fnExactNewRelayUptoRow.holds Try.pinned (OpenSpec.upto fnExactNewRelaySpec)

/-- 'laws.FnExactTurn', WHERE WHAT IT READS IS OF BULK AT MOST 1048576: true; the input reads as it did. -/
def fnExactTurnUptoRow : OpenClaim := { program := "ytdniajogojlmdaa", sum := "cdc29313f0be508b34d47915868c47715a1b368adccabbaaecc7973d8886dfad", func := "loop.example/g00266/laws.FnExactTurn", spec := "fnExactTurn", plainKeys := false, apart := false, narrowed := true }
def FnExactTurnUptoSaid : Prop := fnExactTurnUptoRow.holds Try.pinned (OpenSpec.upto fnExactTurnSpec)

/-- 'laws.FnExactFull', WHERE WHAT IT READS IS OF BULK AT MOST 1048576: true; the input reads as it did. -/
def fnExactFullUptoRow : OpenClaim := { program := "ytdniajogojlmdaa", sum := "cdc29313f0be508b34d47915868c47715a1b368adccabbaaecc7973d8886dfad", func := "loop.example/g00266/laws.FnExactFull", spec := "fnExactFull", plainKeys := false, apart := false, narrowed := true }
def FnExactFullUptoSaid : Prop := fnExactFullUptoRow.holds Try.pinned (OpenSpec.upto fnExactFullSpec)

/-- 'laws.FnExactChain', WHERE WHAT IT READS IS OF BULK AT MOST 1048576: true; the input reads as it did. -/
def fnExactChainUptoRow : OpenClaim := { program := "ytdniajogojlmdaa", sum := "cdc29313f0be508b34d47915868c47715a1b368adccabbaaecc7973d8886dfad", func := "loop.example/g00266/laws.FnExactChain", spec := "fnExactChain", plainKeys := false, apart := false, narrowed := true }
def FnExactChainUptoSaid : Prop := fnExactChainUptoRow.holds Try.pinned (OpenSpec.upto fnExactChainSpec)

end Rows
end Go.Proofs.Ytdniajogojlmdaa
