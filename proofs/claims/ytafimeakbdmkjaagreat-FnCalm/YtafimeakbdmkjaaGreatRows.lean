/-
  No cell of these rows narrows 'for every input' (looked for: loops, veiled, ifaces, maps, wideKeys, modest, calm, conditions, laid).
  DERIVED. THE GIVEN ROWS OF THIS SEAT. 3 by the template 'for every input the law returns true; each argument reads behind the call as it read before'; 0 by the template 'total and deterministic' (their statements: YtafimeakbdmkjaaGreatTotals.lean).
  GIVEN WITH THE SEED: the statements are not yours to turn. If you find one false, say at which input.
  Laid BY PROGRAM, IN A SANDBOX (cutbox-rows.mjs): the forced cells as the released guide's own fill.sh prints them over the translation 789bf28e33b9a00e… (all of the seat's roots in one cut). By AI agents, Wed Nov 11 2026. No macro, syntax, notation, axiom, sorry.
-/
import Derived.Test.YtafimeakbdmkjaaGreatChecked
import GoSem.Claim
import GoSem.ClaimJoined
import GoSem.ClaimMapViews
import Derived.JoinedTies
import Derived.KernelRfl
namespace Go.Proofs.YtafimeakbdmkjaaGreat
/- THE CELL 'sum', in the pinned program and in every row, IS THE sha256 OF THE DUMP (.gsa) THAT YtafimeakbdmkjaaGreatProg.lean LOADS. Nothing in Lean hashes anything: it is a label: what it is worth is what the hold of that sum in a sandbox is worth. -/
noncomputable def Tryz.pinned : Pinned := { name := "ytafimeakbdmkjaagreat", sum := "789bf28e33b9a00ec7c59b8ea87b597c092381eee0d30f5120d711566384a3bc", checked := Tryz.checked }
namespace Rows
def none {H : Type} : Left H := { results := [], args := [] }

/-- 'laws.FnCalm': WHATEVER THE INPUT: true; the input reads as it did. -/
def fnCalmSpec : ChangeSpec := { name := "fnCalm", fn := fun _ => fun
  | [d] => { results := [.lit (.bool true)], args := [d] }
  | _ => none }
def fnCalmRow : OpenClaim := { program := "ytafimeakbdmkjaagreat", sum := "789bf28e33b9a00ec7c59b8ea87b597c092381eee0d30f5120d711566384a3bc", func := "loop.example/g00266/laws.FnCalm", spec := "fnCalm", inPlace := ["slices.overlaps[int64]"], unfollowed := true, recurses := true, apart := false }
def FnCalmSaid : Prop := fnCalmRow.holds Tryz.pinned (OpenSpec.ofChange fnCalmSpec)

/-- ITS FALSE NEIGHBOUR: 'it returns false'. Refute it at one input. -/
def fnCalmWrong : ChangeSpec := { name := "fnCalm", fn := fun _ => fun
  | [d] => { results := [.lit (.bool false)], args := [d] }
  | _ => none }
def FnCalmWrongFalsely : Prop := fnCalmRow.holds Tryz.pinned (OpenSpec.ofChange fnCalmWrong)

/-- 'laws.FnQuorum': WHATEVER THE INPUT: true; the input reads as it did. -/
def fnQuorumSpec : ChangeSpec := { name := "fnQuorum", fn := fun _ => fun
  | [d] => { results := [.lit (.bool true)], args := [d] }
  | _ => none }
def fnQuorumRow : OpenClaim := { program := "ytafimeakbdmkjaagreat", sum := "789bf28e33b9a00ec7c59b8ea87b597c092381eee0d30f5120d711566384a3bc", func := "loop.example/g00266/laws.FnQuorum", spec := "fnQuorum", inPlace := ["slices.overlaps[int64]"], unfollowed := true, recurses := true, apart := false }
def FnQuorumSaid : Prop := fnQuorumRow.holds Tryz.pinned (OpenSpec.ofChange fnQuorumSpec)

/-- ITS FALSE NEIGHBOUR: 'it returns false'. Refute it at one input. -/
def fnQuorumWrong : ChangeSpec := { name := "fnQuorum", fn := fun _ => fun
  | [d] => { results := [.lit (.bool false)], args := [d] }
  | _ => none }
def FnQuorumWrongFalsely : Prop := fnQuorumRow.holds Tryz.pinned (OpenSpec.ofChange fnQuorumWrong)

/-- 'laws.FnNothingUnsung': WHATEVER THE INPUT: true; the input reads as it did. -/
def fnNothingUnsungSpec : ChangeSpec := { name := "fnNothingUnsung", fn := fun _ => fun
  | [d] => { results := [.lit (.bool true)], args := [d] }
  | _ => none }
def fnNothingUnsungRow : OpenClaim := { program := "ytafimeakbdmkjaagreat", sum := "789bf28e33b9a00ec7c59b8ea87b597c092381eee0d30f5120d711566384a3bc", func := "loop.example/g00266/laws.FnNothingUnsung", spec := "fnNothingUnsung", inPlace := ["slices.overlaps[int64]"], unfollowed := true, recurses := true, apart := false }
def FnNothingUnsungSaid : Prop := fnNothingUnsungRow.holds Tryz.pinned (OpenSpec.ofChange fnNothingUnsungSpec)

/-- ITS FALSE NEIGHBOUR: 'it returns false'. Refute it at one input. -/
def fnNothingUnsungWrong : ChangeSpec := { name := "fnNothingUnsung", fn := fun _ => fun
  | [d] => { results := [.lit (.bool false)], args := [d] }
  | _ => none }
def FnNothingUnsungWrongFalsely : Prop := fnNothingUnsungRow.holds Tryz.pinned (OpenSpec.ofChange fnNothingUnsungWrong)

/- THE SECOND FORM. 'bulk': how many values and letters a reading holds, each counted each time it is reached (what is shared counts as often as it is met; a slice's spare places count too). A statement '..UptoSaid' is the law's where the arguments, and the package variables that the reading takes, are together of bulk at most 1048576: NARROWER than '..Said'. Prove '..Said' where nothing that the law and all that it calls make is longer than what came in: it says more and counts as full. Else prove '..UptoSaid'. A law counts once. -/
mutual
def uptoBulk {H : Type} : DataW H → Nat
  | .lit (.string bytes) => bytes.length + 1
  | .lit _ => 1
  | .nil => 1
  | .ptr d => uptoBulk d + 1
  | .slice elems spare => uptoBulkAll elems + uptoBulkAll spare + 1
  | .agg parts => uptoBulkAll parts + 1
  | .iface _ d => uptoBulk d + 1
  | .map entries => uptoBulkEntries entries + 1
  | .held _ => 1
def uptoBulkAll {H : Type} : List (DataW H) → Nat
  | [] => 0
  | d :: r => uptoBulk d + uptoBulkAll r
def uptoBulkEntries {H : Type} : List (Lit × DataW H) → Nat
  | [] => 0
  | x :: r => uptoBulkEntry x + uptoBulkEntries r
def uptoBulkEntry {H : Type} : Lit × DataW H → Nat
  | (.string bytes, d) => bytes.length + uptoBulk d + 1
  | (_, d) => uptoBulk d + 1
 end
def uptoSmall : (H : Type) → List (DataW H) → Bool := fun _ ds => decide (uptoBulkAll ds ≤ 1048576)
def OpenSpec.upto (s : _root_.Go.ChangeSpec) : _root_.Go.OpenSpec := { _root_.Go.OpenSpec.ofChange s with cond := some uptoSmall }

/-- 'laws.FnCalm', WHERE WHAT IT READS IS OF BULK AT MOST 1048576: true; the input reads as it did. -/
def fnCalmUptoRow : OpenClaim := { program := "ytafimeakbdmkjaagreat", sum := "789bf28e33b9a00ec7c59b8ea87b597c092381eee0d30f5120d711566384a3bc", func := "loop.example/g00266/laws.FnCalm", spec := "fnCalm", inPlace := ["slices.overlaps[int64]"], unfollowed := true, recurses := true, apart := false, narrowed := true }
def FnCalmUptoSaid : Prop := fnCalmUptoRow.holds Tryz.pinned (OpenSpec.upto fnCalmSpec)

/-- 'laws.FnQuorum', WHERE WHAT IT READS IS OF BULK AT MOST 1048576: true; the input reads as it did. -/
def fnQuorumUptoRow : OpenClaim := { program := "ytafimeakbdmkjaagreat", sum := "789bf28e33b9a00ec7c59b8ea87b597c092381eee0d30f5120d711566384a3bc", func := "loop.example/g00266/laws.FnQuorum", spec := "fnQuorum", inPlace := ["slices.overlaps[int64]"], unfollowed := true, recurses := true, apart := false, narrowed := true }
def FnQuorumUptoSaid : Prop := fnQuorumUptoRow.holds Tryz.pinned (OpenSpec.upto fnQuorumSpec)

/-- 'laws.FnNothingUnsung', WHERE WHAT IT READS IS OF BULK AT MOST 1048576: true; the input reads as it did. -/
def fnNothingUnsungUptoRow : OpenClaim := { program := "ytafimeakbdmkjaagreat", sum := "789bf28e33b9a00ec7c59b8ea87b597c092381eee0d30f5120d711566384a3bc", func := "loop.example/g00266/laws.FnNothingUnsung", spec := "fnNothingUnsung", inPlace := ["slices.overlaps[int64]"], unfollowed := true, recurses := true, apart := false, narrowed := true }
def FnNothingUnsungUptoSaid : Prop := fnNothingUnsungUptoRow.holds Tryz.pinned (OpenSpec.upto fnNothingUnsungSpec)

end Rows
end Go.Proofs.YtafimeakbdmkjaaGreat
