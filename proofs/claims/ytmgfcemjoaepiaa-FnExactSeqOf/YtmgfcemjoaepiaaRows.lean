/-
  No cell of these rows narrows 'for every input' (looked for: loops, veiled, ifaces, maps, wideKeys, modest, calm, conditions, laid).
  DERIVED. THE GIVEN ROWS OF THIS SEAT. 8 by the template 'for every input the law returns true; each argument reads behind the call as it read before'; 0 by the template 'total and deterministic' (their statements: YtmgfcemjoaepiaaTotals.lean).
  GIVEN WITH THE SEED: the statements are not yours to turn. If you find one false, say at which input.
  Laid BY PROGRAM, IN A SANDBOX (cutbox-rows.mjs): the forced cells as the released guide's own fill.sh prints them over the translation 37f0bbbb2928c191… (all of the seat's roots in one cut). By AI agents, Wed Nov 11 2026. No macro, syntax, notation, axiom, sorry.
-/
import Derived.Test.YtmgfcemjoaepiaaChecked
import GoSem.Claim
import GoSem.ClaimJoined
import GoSem.ClaimMapViews
import Derived.JoinedTies
import Derived.KernelRfl
namespace Go.Proofs.Ytmgfcemjoaepiaa
/- THE CELL 'sum', in the pinned program and in every row, IS THE sha256 OF THE DUMP (.gsa) THAT YtmgfcemjoaepiaaProg.lean LOADS. Nothing in Lean hashes anything: it is a label: what it is worth is what the hold of that sum in a sandbox is worth. -/
noncomputable def Try.pinned : Pinned := { name := "ytmgfcemjoaepiaa", sum := "37f0bbbb2928c191bca6929797f6774870c53a4b79672200475ec7f7fb4c859b", checked := Try.checked }
namespace Rows
def none {H : Type} : Left H := { results := [], args := [] }

/-- 'laws.FnLattice': WHATEVER THE INPUT: true; the input reads as it did. -/
def fnLatticeSpec : ChangeSpec := { name := "fnLattice", fn := fun _ => fun
  | [d] => { results := [.lit (.bool true)], args := [d] }
  | _ => none }
def fnLatticeRow : OpenClaim := { program := "ytmgfcemjoaepiaa", sum := "37f0bbbb2928c191bca6929797f6774870c53a4b79672200475ec7f7fb4c859b", func := "loop.example/g00266/laws.FnLattice", spec := "fnLattice", unfollowed := true, recurses := true, apart := false }
def FnLatticeSaid : Prop := fnLatticeRow.holds Try.pinned (OpenSpec.ofChange fnLatticeSpec)

/-- ITS FALSE NEIGHBOUR: 'it returns false'. Refute it at one input. -/
def fnLatticeWrong : ChangeSpec := { name := "fnLattice", fn := fun _ => fun
  | [d] => { results := [.lit (.bool false)], args := [d] }
  | _ => none }
def FnLatticeWrongFalsely : Prop := fnLatticeRow.holds Try.pinned (OpenSpec.ofChange fnLatticeWrong)

/-- 'laws.FnSeqs': WHATEVER THE INPUT: true; the input reads as it did. -/
def fnSeqsSpec : ChangeSpec := { name := "fnSeqs", fn := fun _ => fun
  | [d] => { results := [.lit (.bool true)], args := [d] }
  | _ => none }
def fnSeqsRow : OpenClaim := { program := "ytmgfcemjoaepiaa", sum := "37f0bbbb2928c191bca6929797f6774870c53a4b79672200475ec7f7fb4c859b", func := "loop.example/g00266/laws.FnSeqs", spec := "fnSeqs", apart := false }
def FnSeqsSaid : Prop := fnSeqsRow.holds Try.pinned (OpenSpec.ofChange fnSeqsSpec)

/-- ITS FALSE NEIGHBOUR: 'it returns false'. Refute it at one input. -/
def fnSeqsWrong : ChangeSpec := { name := "fnSeqs", fn := fun _ => fun
  | [d] => { results := [.lit (.bool false)], args := [d] }
  | _ => none }
def FnSeqsWrongFalsely : Prop := fnSeqsRow.holds Try.pinned (OpenSpec.ofChange fnSeqsWrong)

/-- 'laws.FnReady': WHATEVER THE INPUT: true; the input reads as it did. -/
def fnReadySpec : ChangeSpec := { name := "fnReady", fn := fun _ => fun
  | [d] => { results := [.lit (.bool true)], args := [d] }
  | _ => none }
def fnReadyRow : OpenClaim := { program := "ytmgfcemjoaepiaa", sum := "37f0bbbb2928c191bca6929797f6774870c53a4b79672200475ec7f7fb4c859b", func := "loop.example/g00266/laws.FnReady", spec := "fnReady", unfollowed := true, recurses := true, apart := false }
def FnReadySaid : Prop := fnReadyRow.holds Try.pinned (OpenSpec.ofChange fnReadySpec)

/-- ITS FALSE NEIGHBOUR: 'it returns false'. Refute it at one input. -/
def fnReadyWrong : ChangeSpec := { name := "fnReady", fn := fun _ => fun
  | [d] => { results := [.lit (.bool false)], args := [d] }
  | _ => none }
def FnReadyWrongFalsely : Prop := fnReadyRow.holds Try.pinned (OpenSpec.ofChange fnReadyWrong)

/-- 'laws.FnExactSeqOf': WHATEVER THE INPUT: true; the input reads as it did. -/
def fnExactSeqOfSpec : ChangeSpec := { name := "fnExactSeqOf", fn := fun _ => fun
  | [d1, d2, d3] => { results := [.lit (.bool true)], args := [d1, d2, d3] }
  | _ => none }
def fnExactSeqOfRow : OpenClaim := { program := "ytmgfcemjoaepiaa", sum := "37f0bbbb2928c191bca6929797f6774870c53a4b79672200475ec7f7fb4c859b", func := "loop.example/g00266/laws.FnExactSeqOf", spec := "fnExactSeqOf", apart := false }
def FnExactSeqOfSaid : Prop := fnExactSeqOfRow.holds Try.pinned (OpenSpec.ofChange fnExactSeqOfSpec)

/-- ITS FALSE NEIGHBOUR: 'it returns false'. Refute it at one input. -/
def fnExactSeqOfWrong : ChangeSpec := { name := "fnExactSeqOf", fn := fun _ => fun
  | [d1, d2, d3] => { results := [.lit (.bool false)], args := [d1, d2, d3] }
  | _ => none }
def FnExactSeqOfWrongFalsely : Prop := fnExactSeqOfRow.holds Try.pinned (OpenSpec.ofChange fnExactSeqOfWrong)

/-- 'laws.FnExactSenderOf': WHATEVER THE INPUT: true; the input reads as it did. -/
def fnExactSenderOfSpec : ChangeSpec := { name := "fnExactSenderOf", fn := fun _ => fun
  | [d1, d2] => { results := [.lit (.bool true)], args := [d1, d2] }
  | _ => none }
def fnExactSenderOfRow : OpenClaim := { program := "ytmgfcemjoaepiaa", sum := "37f0bbbb2928c191bca6929797f6774870c53a4b79672200475ec7f7fb4c859b", func := "loop.example/g00266/laws.FnExactSenderOf", spec := "fnExactSenderOf", apart := false }
def FnExactSenderOfSaid : Prop := fnExactSenderOfRow.holds Try.pinned (OpenSpec.ofChange fnExactSenderOfSpec)

/-- ITS FALSE NEIGHBOUR: 'it returns false'. Refute it at one input. -/
def fnExactSenderOfWrong : ChangeSpec := { name := "fnExactSenderOf", fn := fun _ => fun
  | [d1, d2] => { results := [.lit (.bool false)], args := [d1, d2] }
  | _ => none }
def FnExactSenderOfWrongFalsely : Prop := fnExactSenderOfRow.holds Try.pinned (OpenSpec.ofChange fnExactSenderOfWrong)

/-- 'laws.FnExactIndexOf': WHATEVER THE INPUT: true; the input reads as it did. -/
def fnExactIndexOfSpec : ChangeSpec := { name := "fnExactIndexOf", fn := fun _ => fun
  | [d1, d2] => { results := [.lit (.bool true)], args := [d1, d2] }
  | _ => none }
def fnExactIndexOfRow : OpenClaim := { program := "ytmgfcemjoaepiaa", sum := "37f0bbbb2928c191bca6929797f6774870c53a4b79672200475ec7f7fb4c859b", func := "loop.example/g00266/laws.FnExactIndexOf", spec := "fnExactIndexOf", apart := false }
def FnExactIndexOfSaid : Prop := fnExactIndexOfRow.holds Try.pinned (OpenSpec.ofChange fnExactIndexOfSpec)

/-- ITS FALSE NEIGHBOUR: 'it returns false'. Refute it at one input. -/
def fnExactIndexOfWrong : ChangeSpec := { name := "fnExactIndexOf", fn := fun _ => fun
  | [d1, d2] => { results := [.lit (.bool false)], args := [d1, d2] }
  | _ => none }
def FnExactIndexOfWrongFalsely : Prop := fnExactIndexOfRow.holds Try.pinned (OpenSpec.ofChange fnExactIndexOfWrong)

/-- 'laws.FnExactReady': WHATEVER THE INPUT: true; the input reads as it did. -/
def fnExactReadySpec : ChangeSpec := { name := "fnExactReady", fn := fun _ => fun
  | [d] => { results := [.lit (.bool true)], args := [d] }
  | _ => none }
def fnExactReadyRow : OpenClaim := { program := "ytmgfcemjoaepiaa", sum := "37f0bbbb2928c191bca6929797f6774870c53a4b79672200475ec7f7fb4c859b", func := "loop.example/g00266/laws.FnExactReady", spec := "fnExactReady", unfollowed := true, recurses := true, apart := false }
def FnExactReadySaid : Prop := fnExactReadyRow.holds Try.pinned (OpenSpec.ofChange fnExactReadySpec)

/-- ITS FALSE NEIGHBOUR: 'it returns false'. Refute it at one input. -/
def fnExactReadyWrong : ChangeSpec := { name := "fnExactReady", fn := fun _ => fun
  | [d] => { results := [.lit (.bool false)], args := [d] }
  | _ => none }
def FnExactReadyWrongFalsely : Prop := fnExactReadyRow.holds Try.pinned (OpenSpec.ofChange fnExactReadyWrong)

/-- 'laws.FnExactWoven': WHATEVER THE INPUT: true; the input reads as it did. -/
def fnExactWovenSpec : ChangeSpec := { name := "fnExactWoven", fn := fun _ => fun
  | [d] => { results := [.lit (.bool true)], args := [d] }
  | _ => none }
def fnExactWovenRow : OpenClaim := { program := "ytmgfcemjoaepiaa", sum := "37f0bbbb2928c191bca6929797f6774870c53a4b79672200475ec7f7fb4c859b", func := "loop.example/g00266/laws.FnExactWoven", spec := "fnExactWoven", unfollowed := true, recurses := true, apart := false }
def FnExactWovenSaid : Prop := fnExactWovenRow.holds Try.pinned (OpenSpec.ofChange fnExactWovenSpec)

/-- ITS FALSE NEIGHBOUR: 'it returns false'. Refute it at one input. -/
def fnExactWovenWrong : ChangeSpec := { name := "fnExactWoven", fn := fun _ => fun
  | [d] => { results := [.lit (.bool false)], args := [d] }
  | _ => none }
def FnExactWovenWrongFalsely : Prop := fnExactWovenRow.holds Try.pinned (OpenSpec.ofChange fnExactWovenWrong)

/- THE SECOND FORM. 'bulk': how many values and letters a reading holds, each counted each time it is reached (what is shared counts as often as it is met; a slice's spare places count too). A statement '..UptoSaid' is the law's where the arguments, and the package variables that the reading takes, are together of bulk at most 1048576: NARROWER than '..Said'. Prove '..Said' where nothing that the law and all that it calls make is longer than what came in: it says more and counts as full. Else prove '..UptoSaid'. A law counts once. -/
mutual
def uptoBulk {H : Type} : DataW H → Nat
  | .lit (.string bytes) => bytes.length + 1
  | .lit _ => 1
  | .nil => 1
  | .ptr d => uptoBulk d + 1
  | .slice elems spare => uptoBulkAll elems + uptoBulkAll spare + 1
  | .agg parts => uptoBulkAll parts + 1
  | .iface _ d => uptoBulk d + 1
  | .map entries => uptoBulkEntries entries + 1
  | .held _ => 1
def uptoBulkAll {H : Type} : List (DataW H) → Nat
  | [] => 0
  | d :: r => uptoBulk d + uptoBulkAll r
def uptoBulkEntries {H : Type} : List (Lit × DataW H) → Nat
  | [] => 0
  | x :: r => uptoBulkEntry x + uptoBulkEntries r
def uptoBulkEntry {H : Type} : Lit × DataW H → Nat
  | (.string bytes, d) => bytes.length + uptoBulk d + 1
  | (_, d) => uptoBulk d + 1
 end
def uptoSmall : (H : Type) → List (DataW H) → Bool := fun _ ds => decide (uptoBulkAll ds ≤ 1048576)
def OpenSpec.upto (s : _root_.Go.ChangeSpec) : _root_.Go.OpenSpec := { _root_.Go.OpenSpec.ofChange s with cond := some uptoSmall }

/-- 'laws.FnLattice', WHERE WHAT IT READS IS OF BULK AT MOST 1048576: true; the input reads as it did. -/
def fnLatticeUptoRow : OpenClaim := { program := "ytmgfcemjoaepiaa", sum := "37f0bbbb2928c191bca6929797f6774870c53a4b79672200475ec7f7fb4c859b", func := "loop.example/g00266/laws.FnLattice", spec := "fnLattice", unfollowed := true, recurses := true, apart := false, narrowed := true }
def FnLatticeUptoSaid : Prop := fnLatticeUptoRow.holds Try.pinned (OpenSpec.upto fnLatticeSpec)

/-- 'laws.FnSeqs', WHERE WHAT IT READS IS OF BULK AT MOST 1048576: true; the input reads as it did. -/
def fnSeqsUptoRow : OpenClaim := { program := "ytmgfcemjoaepiaa", sum := "37f0bbbb2928c191bca6929797f6774870c53a4b79672200475ec7f7fb4c859b", func := "loop.example/g00266/laws.FnSeqs", spec := "fnSeqs", apart := false, narrowed := true }
def FnSeqsUptoSaid : Prop := fnSeqsUptoRow.holds Try.pinned (OpenSpec.upto fnSeqsSpec)

/-- 'laws.FnReady', WHERE WHAT IT READS IS OF BULK AT MOST 1048576: true; the input reads as it did. -/
def fnReadyUptoRow : OpenClaim := { program := "ytmgfcemjoaepiaa", sum := "37f0bbbb2928c191bca6929797f6774870c53a4b79672200475ec7f7fb4c859b", func := "loop.example/g00266/laws.FnReady", spec := "fnReady", unfollowed := true, recurses := true, apart := false, narrowed := true }
def FnReadyUptoSaid : Prop := fnReadyUptoRow.holds Try.pinned (OpenSpec.upto fnReadySpec)

/-- 'laws.FnExactSeqOf', WHERE WHAT IT READS IS OF BULK AT MOST 1048576: true; the input reads as it did. -/
def fnExactSeqOfUptoRow : OpenClaim := { program := "ytmgfcemjoaepiaa", sum := "37f0bbbb2928c191bca6929797f6774870c53a4b79672200475ec7f7fb4c859b", func := "loop.example/g00266/laws.FnExactSeqOf", spec := "fnExactSeqOf", apart := false, narrowed := true }
def FnExactSeqOfUptoSaid : Prop := fnExactSeqOfUptoRow.holds Try.pinned (OpenSpec.upto fnExactSeqOfSpec)

/-- 'laws.FnExactSenderOf', WHERE WHAT IT READS IS OF BULK AT MOST 1048576: true; the input reads as it did. -/
def fnExactSenderOfUptoRow : OpenClaim := { program := "ytmgfcemjoaepiaa", sum := "37f0bbbb2928c191bca6929797f6774870c53a4b79672200475ec7f7fb4c859b", func := "loop.example/g00266/laws.FnExactSenderOf", spec := "fnExactSenderOf", apart := false, narrowed := true }
def FnExactSenderOfUptoSaid : Prop := fnExactSenderOfUptoRow.holds Try.pinned (OpenSpec.upto fnExactSenderOfSpec)

/-- 'laws.FnExactIndexOf', WHERE WHAT IT READS IS OF BULK AT MOST 1048576: true; the input reads as it did. -/
def fnExactIndexOfUptoRow : OpenClaim := { program := "ytmgfcemjoaepiaa", sum := "37f0bbbb2928c191bca6929797f6774870c53a4b79672200475ec7f7fb4c859b", func := "loop.example/g00266/laws.FnExactIndexOf", spec := "fnExactIndexOf", apart := false, narrowed := true }
def FnExactIndexOfUptoSaid : Prop := fnExactIndexOfUptoRow.holds Try.pinned (OpenSpec.upto fnExactIndexOfSpec)

/-- 'laws.FnExactReady', WHERE WHAT IT READS IS OF BULK AT MOST 1048576: true; the input reads as it did. -/
def fnExactReadyUptoRow : OpenClaim := { program := "ytmgfcemjoaepiaa", sum := "37f0bbbb2928c191bca6929797f6774870c53a4b79672200475ec7f7fb4c859b", func := "loop.example/g00266/laws.FnExactReady", spec := "fnExactReady", unfollowed := true, recurses := true, apart := false, narrowed := true }
def FnExactReadyUptoSaid : Prop := fnExactReadyUptoRow.holds Try.pinned (OpenSpec.upto fnExactReadySpec)

/-- 'laws.FnExactWoven', WHERE WHAT IT READS IS OF BULK AT MOST 1048576: true; the input reads as it did. -/
def fnExactWovenUptoRow : OpenClaim := { program := "ytmgfcemjoaepiaa", sum := "37f0bbbb2928c191bca6929797f6774870c53a4b79672200475ec7f7fb4c859b", func := "loop.example/g00266/laws.FnExactWoven", spec := "fnExactWoven", unfollowed := true, recurses := true, apart := false, narrowed := true }
def FnExactWovenUptoSaid : Prop := fnExactWovenUptoRow.holds Try.pinned (OpenSpec.upto fnExactWovenSpec)

end Rows
end Go.Proofs.Ytmgfcemjoaepiaa
