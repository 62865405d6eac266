/-
  No cell of these rows narrows 'for every input' (looked for: loops, veiled, ifaces, maps, wideKeys, modest, calm, conditions, laid).
  DERIVED. THE GIVEN ROWS OF THIS SEAT. 10 by the template 'for every input the law returns true; each argument reads behind the call as it read before'; 0 by the template 'total and deterministic' (their statements: YtacjpebifacclaaTotals.lean).
  GIVEN WITH THE SEED: the statements are not yours to turn. If you find one false, say at which input.
  Laid BY PROGRAM, IN A SANDBOX (cutbox-rows.mjs): the forced cells as the released guide's own fill.sh prints them over the translation 18ef06146e3bc3c5… (all of the seat's roots in one cut). By AI agents, Wed Nov 11 2026. No macro, syntax, notation, axiom, sorry.
-/
import Derived.Test.YtacjpebifacclaaChecked
import GoSem.Claim
import GoSem.ClaimJoined
import GoSem.ClaimMapViews
import Derived.JoinedTies
import Derived.KernelRfl
namespace Go.Proofs.Ytacjpebifacclaa
/- THE CELL 'sum', in the pinned program and in every row, IS THE sha256 OF THE DUMP (.gsa) THAT YtacjpebifacclaaProg.lean LOADS. Nothing in Lean hashes anything: it is a label: what it is worth is what the hold of that sum in a sandbox is worth. -/
noncomputable def Try.pinned : Pinned := { name := "ytacjpebifacclaa", sum := "18ef06146e3bc3c530f0f29c790b0e1b2bd49ac7558db7e1d7d8dc90c5b4c648", checked := Try.checked }
namespace Rows
def none {H : Type} : Left H := { results := [], args := [] }

/-- 'laws.FnLattice': WHATEVER THE INPUT: true; the input reads as it did. -/
def fnLatticeSpec : ChangeSpec := { name := "fnLattice", fn := fun _ => fun
  | [d] => { results := [.lit (.bool true)], args := [d] }
  | _ => none }
def fnLatticeRow : OpenClaim := { program := "ytacjpebifacclaa", sum := "18ef06146e3bc3c530f0f29c790b0e1b2bd49ac7558db7e1d7d8dc90c5b4c648", func := "loop.example/g00266/laws.FnLattice", spec := "fnLattice", unfollowed := true, recurses := true, plainKeys := false, apart := false }
def FnLatticeSaid : Prop := fnLatticeRow.holds Try.pinned (OpenSpec.ofChange fnLatticeSpec)

/-- ITS FALSE NEIGHBOUR: 'it returns false'. Refute it at one input. -/
def fnLatticeWrong : ChangeSpec := { name := "fnLattice", fn := fun _ => fun
  | [d] => { results := [.lit (.bool false)], args := [d] }
  | _ => none }
def FnLatticeWrongFalsely : Prop := fnLatticeRow.holds Try.pinned (OpenSpec.ofChange fnLatticeWrong)

/-- 'laws.FnLamport': WHATEVER THE INPUT: true; the input reads as it did. -/
def fnLamportSpec : ChangeSpec := { name := "fnLamport", fn := fun _ => fun
  | [d] => { results := [.lit (.bool true)], args := [d] }
  | _ => none }
def fnLamportRow : OpenClaim := { program := "ytacjpebifacclaa", sum := "18ef06146e3bc3c530f0f29c790b0e1b2bd49ac7558db7e1d7d8dc90c5b4c648", func := "loop.example/g00266/laws.FnLamport", spec := "fnLamport", unfollowed := true, recurses := true, plainKeys := false, apart := false }
def FnLamportSaid : Prop := fnLamportRow.holds Try.pinned (OpenSpec.ofChange fnLamportSpec)

/-- ITS FALSE NEIGHBOUR: 'it returns false'. Refute it at one input. -/
def fnLamportWrong : ChangeSpec := { name := "fnLamport", fn := fun _ => fun
  | [d] => { results := [.lit (.bool false)], args := [d] }
  | _ => none }
def FnLamportWrongFalsely : Prop := fnLamportRow.holds Try.pinned (OpenSpec.ofChange fnLamportWrong)

/-- 'laws.FnNewest': WHATEVER THE INPUT: true; the input reads as it did. -/
def fnNewestSpec : ChangeSpec := { name := "fnNewest", fn := fun _ => fun
  | [d] => { results := [.lit (.bool true)], args := [d] }
  | _ => none }
def fnNewestRow : OpenClaim := { program := "ytacjpebifacclaa", sum := "18ef06146e3bc3c530f0f29c790b0e1b2bd49ac7558db7e1d7d8dc90c5b4c648", func := "loop.example/g00266/laws.FnNewest", spec := "fnNewest", unfollowed := true, recurses := true, plainKeys := false, apart := false }
def FnNewestSaid : Prop := fnNewestRow.holds Try.pinned (OpenSpec.ofChange fnNewestSpec)

/-- ITS FALSE NEIGHBOUR: 'it returns false'. Refute it at one input. -/
def fnNewestWrong : ChangeSpec := { name := "fnNewest", fn := fun _ => fun
  | [d] => { results := [.lit (.bool false)], args := [d] }
  | _ => none }
def FnNewestWrongFalsely : Prop := fnNewestRow.holds Try.pinned (OpenSpec.ofChange fnNewestWrong)

/-- 'laws.FnCuts': WHATEVER THE INPUT: true; the input reads as it did. -/
def fnCutsSpec : ChangeSpec := { name := "fnCuts", fn := fun _ => fun
  | [d] => { results := [.lit (.bool true)], args := [d] }
  | _ => none }
def fnCutsRow : OpenClaim := { program := "ytacjpebifacclaa", sum := "18ef06146e3bc3c530f0f29c790b0e1b2bd49ac7558db7e1d7d8dc90c5b4c648", func := "loop.example/g00266/laws.FnCuts", spec := "fnCuts", unfollowed := true, recurses := true, plainKeys := false, apart := false }
def FnCutsSaid : Prop := fnCutsRow.holds Try.pinned (OpenSpec.ofChange fnCutsSpec)

/-- ITS FALSE NEIGHBOUR: 'it returns false'. Refute it at one input. -/
def fnCutsWrong : ChangeSpec := { name := "fnCuts", fn := fun _ => fun
  | [d] => { results := [.lit (.bool false)], args := [d] }
  | _ => none }
def FnCutsWrongFalsely : Prop := fnCutsRow.holds Try.pinned (OpenSpec.ofChange fnCutsWrong)

/-- 'laws.FnWithin': WHATEVER THE INPUT: true; the input reads as it did. -/
def fnWithinSpec : ChangeSpec := { name := "fnWithin", fn := fun _ => fun
  | [d] => { results := [.lit (.bool true)], args := [d] }
  | _ => none }
def fnWithinRow : OpenClaim := { program := "ytacjpebifacclaa", sum := "18ef06146e3bc3c530f0f29c790b0e1b2bd49ac7558db7e1d7d8dc90c5b4c648", func := "loop.example/g00266/laws.FnWithin", spec := "fnWithin", unfollowed := true, recurses := true, plainKeys := false, apart := false }
def FnWithinSaid : Prop := fnWithinRow.holds Try.pinned (OpenSpec.ofChange fnWithinSpec)

/-- ITS FALSE NEIGHBOUR: 'it returns false'. Refute it at one input. -/
def fnWithinWrong : ChangeSpec := { name := "fnWithin", fn := fun _ => fun
  | [d] => { results := [.lit (.bool false)], args := [d] }
  | _ => none }
def FnWithinWrongFalsely : Prop := fnWithinRow.holds Try.pinned (OpenSpec.ofChange fnWithinWrong)

/-- 'laws.FnFlying': WHATEVER THE INPUT: true; the input reads as it did. -/
def fnFlyingSpec : ChangeSpec := { name := "fnFlying", fn := fun _ => fun
  | [d] => { results := [.lit (.bool true)], args := [d] }
  | _ => none }
def fnFlyingRow : OpenClaim := { program := "ytacjpebifacclaa", sum := "18ef06146e3bc3c530f0f29c790b0e1b2bd49ac7558db7e1d7d8dc90c5b4c648", func := "loop.example/g00266/laws.FnFlying", spec := "fnFlying", unfollowed := true, recurses := true, plainKeys := false, apart := false }
def FnFlyingSaid : Prop := fnFlyingRow.holds Try.pinned (OpenSpec.ofChange fnFlyingSpec)

/-- ITS FALSE NEIGHBOUR: 'it returns false'. Refute it at one input. -/
def fnFlyingWrong : ChangeSpec := { name := "fnFlying", fn := fun _ => fun
  | [d] => { results := [.lit (.bool false)], args := [d] }
  | _ => none }
def FnFlyingWrongFalsely : Prop := fnFlyingRow.holds Try.pinned (OpenSpec.ofChange fnFlyingWrong)

/-- 'laws.FnExactCutOk': WHATEVER THE INPUT: true; the input reads as it did. -/
def fnExactCutOkSpec : ChangeSpec := { name := "fnExactCutOk", fn := fun _ => fun
  | [d1, d2] => { results := [.lit (.bool true)], args := [d1, d2] }
  | _ => none }
def fnExactCutOkRow : OpenClaim := { program := "ytacjpebifacclaa", sum := "18ef06146e3bc3c530f0f29c790b0e1b2bd49ac7558db7e1d7d8dc90c5b4c648", func := "loop.example/g00266/laws.FnExactCutOk", spec := "fnExactCutOk", unfollowed := true, recurses := true, plainKeys := false, apart := false }
def FnExactCutOkSaid : Prop := fnExactCutOkRow.holds Try.pinned (OpenSpec.ofChange fnExactCutOkSpec)

/-- ITS FALSE NEIGHBOUR: 'it returns false'. Refute it at one input. -/
def fnExactCutOkWrong : ChangeSpec := { name := "fnExactCutOk", fn := fun _ => fun
  | [d1, d2] => { results := [.lit (.bool false)], args := [d1, d2] }
  | _ => none }
def FnExactCutOkWrongFalsely : Prop := fnExactCutOkRow.holds Try.pinned (OpenSpec.ofChange fnExactCutOkWrong)

/-- 'laws.FnExactWithin': WHATEVER THE INPUT: true; the input reads as it did. -/
def fnExactWithinSpec : ChangeSpec := { name := "fnExactWithin", fn := fun _ => fun
  | [d1, d2] => { results := [.lit (.bool true)], args := [d1, d2] }
  | _ => none }
def fnExactWithinRow : OpenClaim := { program := "ytacjpebifacclaa", sum := "18ef06146e3bc3c530f0f29c790b0e1b2bd49ac7558db7e1d7d8dc90c5b4c648", func := "loop.example/g00266/laws.FnExactWithin", spec := "fnExactWithin", unfollowed := true, recurses := true, plainKeys := false, apart := false }
def FnExactWithinSaid : Prop := fnExactWithinRow.holds Try.pinned (OpenSpec.ofChange fnExactWithinSpec)

/-- ITS FALSE NEIGHBOUR: 'it returns false'. Refute it at one input. -/
def fnExactWithinWrong : ChangeSpec := { name := "fnExactWithin", fn := fun _ => fun
  | [d1, d2] => { results := [.lit (.bool false)], args := [d1, d2] }
  | _ => none }
def FnExactWithinWrongFalsely : Prop := fnExactWithinRow.holds Try.pinned (OpenSpec.ofChange fnExactWithinWrong)

/-- 'laws.FnExactAround': WHATEVER THE INPUT: true; the input reads as it did. -/
def fnExactAroundSpec : ChangeSpec := { name := "fnExactAround", fn := fun _ => fun
  | [d1, d2] => { results := [.lit (.bool true)], args := [d1, d2] }
  | _ => none }
def fnExactAroundRow : OpenClaim := { program := "ytacjpebifacclaa", sum := "18ef06146e3bc3c530f0f29c790b0e1b2bd49ac7558db7e1d7d8dc90c5b4c648", func := "loop.example/g00266/laws.FnExactAround", spec := "fnExactAround", unfollowed := true, recurses := true, plainKeys := false, apart := false }
def FnExactAroundSaid : Prop := fnExactAroundRow.holds Try.pinned (OpenSpec.ofChange fnExactAroundSpec)

/-- ITS FALSE NEIGHBOUR: 'it returns false'. Refute it at one input. -/
def fnExactAroundWrong : ChangeSpec := { name := "fnExactAround", fn := fun _ => fun
  | [d1, d2] => { results := [.lit (.bool false)], args := [d1, d2] }
  | _ => none }
def FnExactAroundWrongFalsely : Prop := fnExactAroundRow.holds Try.pinned (OpenSpec.ofChange fnExactAroundWrong)

/-- 'laws.FnExactFlying': WHATEVER THE INPUT: true; the input reads as it did. -/
def fnExactFlyingSpec : ChangeSpec := { name := "fnExactFlying", fn := fun _ => fun
  | [d1, d2] => { results := [.lit (.bool true)], args := [d1, d2] }
  | _ => none }
def fnExactFlyingRow : OpenClaim := { program := "ytacjpebifacclaa", sum := "18ef06146e3bc3c530f0f29c790b0e1b2bd49ac7558db7e1d7d8dc90c5b4c648", func := "loop.example/g00266/laws.FnExactFlying", spec := "fnExactFlying", unfollowed := true, recurses := true, plainKeys := false, apart := false }
def FnExactFlyingSaid : Prop := fnExactFlyingRow.holds Try.pinned (OpenSpec.ofChange fnExactFlyingSpec)

/-- ITS FALSE NEIGHBOUR: 'it returns false'. Refute it at one input. -/
def fnExactFlyingWrong : ChangeSpec := { name := "fnExactFlying", fn := fun _ => fun
  | [d1, d2] => { results := [.lit (.bool false)], args := [d1, d2] }
  | _ => none }
def FnExactFlyingWrongFalsely : Prop := fnExactFlyingRow.holds Try.pinned (OpenSpec.ofChange fnExactFlyingWrong)

/- THE SECOND FORM. 'bulk': how many values and letters a reading holds, each counted each time it is reached (what is shared counts as often as it is met; a slice's spare places count too). A statement '..UptoSaid' is the law's where the arguments, and the package variables that the reading takes, are together of bulk at most 1048576: NARROWER than '..Said'. Prove '..Said' where nothing that the law and all that it calls make is longer than what came in: it says more and counts as full. Else prove '..UptoSaid'. A law counts once. -/
mutual
def uptoBulk {H : Type} : DataW H → Nat
  | .lit (.string bytes) => bytes.length + 1
  | .lit _ => 1
  | .nil => 1
  | .ptr d => uptoBulk d + 1
  | .slice elems spare => uptoBulkAll elems + uptoBulkAll spare + 1
  | .agg parts => uptoBulkAll parts + 1
  | .iface _ d => uptoBulk d + 1
  | .map entries => uptoBulkEntries entries + 1
  | .held _ => 1
def uptoBulkAll {H : Type} : List (DataW H) → Nat
  | [] => 0
  | d :: r => uptoBulk d + uptoBulkAll r
def uptoBulkEntries {H : Type} : List (Lit × DataW H) → Nat
  | [] => 0
  | x :: r => uptoBulkEntry x + uptoBulkEntries r
def uptoBulkEntry {H : Type} : Lit × DataW H → Nat
  | (.string bytes, d) => bytes.length + uptoBulk d + 1
  | (_, d) => uptoBulk d + 1
 end
def uptoSmall : (H : Type) → List (DataW H) → Bool := fun _ ds => decide (uptoBulkAll ds ≤ 1048576)
def OpenSpec.upto (s : _root_.Go.ChangeSpec) : _root_.Go.OpenSpec := { _root_.Go.OpenSpec.ofChange s with cond := some uptoSmall }

/-- 'laws.FnLattice', WHERE WHAT IT READS IS OF BULK AT MOST 1048576: true; the input reads as it did. -/
def fnLatticeUptoRow : OpenClaim := { program := "ytacjpebifacclaa", sum := "18ef06146e3bc3c530f0f29c790b0e1b2bd49ac7558db7e1d7d8dc90c5b4c648", func := "loop.example/g00266/laws.FnLattice", spec := "fnLattice", unfollowed := true, recurses := true, plainKeys := false, apart := false, narrowed := true }
def FnLatticeUptoSaid : Prop := fnLatticeUptoRow.holds Try.pinned (OpenSpec.upto fnLatticeSpec)

/-- 'laws.FnLamport', WHERE WHAT IT READS IS OF BULK AT MOST 1048576: true; the input reads as it did. -/
def fnLamportUptoRow : OpenClaim := { program := "ytacjpebifacclaa", sum := "18ef06146e3bc3c530f0f29c790b0e1b2bd49ac7558db7e1d7d8dc90c5b4c648", func := "loop.example/g00266/laws.FnLamport", spec := "fnLamport", unfollowed := true, recurses := true, plainKeys := false, apart := false, narrowed := true }
def FnLamportUptoSaid : Prop := fnLamportUptoRow.holds Try.pinned (OpenSpec.upto fnLamportSpec)

/-- 'laws.FnNewest', WHERE WHAT IT READS IS OF BULK AT MOST 1048576: true; the input reads as it did. -/
def fnNewestUptoRow : OpenClaim := { program := "ytacjpebifacclaa", sum := "18ef06146e3bc3c530f0f29c790b0e1b2bd49ac7558db7e1d7d8dc90c5b4c648", func := "loop.example/g00266/laws.FnNewest", spec := "fnNewest", unfollowed := true, recurses := true, plainKeys := false, apart := false, narrowed := true }
def FnNewestUptoSaid : Prop := fnNewestUptoRow.holds Try.pinned (OpenSpec.upto fnNewestSpec)

/-- 'laws.FnCuts', WHERE WHAT IT READS IS OF BULK AT MOST 1048576: true; the input reads as it did. -/
def fnCutsUptoRow : OpenClaim := { program := "ytacjpebifacclaa", sum := "18ef06146e3bc3c530f0f29c790b0e1b2bd49ac7558db7e1d7d8dc90c5b4c648", func := "loop.example/g00266/laws.FnCuts", spec := "fnCuts", unfollowed := true, recurses := true, plainKeys := false, apart := false, narrowed := true }
def FnCutsUptoSaid : Prop := fnCutsUptoRow.holds Try.pinned (OpenSpec.upto fnCutsSpec)

/-- 'laws.FnWithin', WHERE WHAT IT READS IS OF BULK AT MOST 1048576: true; the input reads as it did. -/
def fnWithinUptoRow : OpenClaim := { program := "ytacjpebifacclaa", sum := "18ef06146e3bc3c530f0f29c790b0e1b2bd49ac7558db7e1d7d8dc90c5b4c648", func := "loop.example/g00266/laws.FnWithin", spec := "fnWithin", unfollowed := true, recurses := true, plainKeys := false, apart := false, narrowed := true }
def FnWithinUptoSaid : Prop := fnWithinUptoRow.holds Try.pinned (OpenSpec.upto fnWithinSpec)

/-- 'laws.FnFlying', WHERE WHAT IT READS IS OF BULK AT MOST 1048576: true; the input reads as it did. -/
def fnFlyingUptoRow : OpenClaim := { program := "ytacjpebifacclaa", sum := "18ef06146e3bc3c530f0f29c790b0e1b2bd49ac7558db7e1d7d8dc90c5b4c648", func := "loop.example/g00266/laws.FnFlying", spec := "fnFlying", unfollowed := true, recurses := true, plainKeys := false, apart := false, narrowed := true }
def FnFlyingUptoSaid : Prop := fnFlyingUptoRow.holds Try.pinned (OpenSpec.upto fnFlyingSpec)

/-- 'laws.FnExactCutOk', WHERE WHAT IT READS IS OF BULK AT MOST 1048576: true; the input reads as it did. -/
def fnExactCutOkUptoRow : OpenClaim := { program := "ytacjpebifacclaa", sum := "18ef06146e3bc3c530f0f29c790b0e1b2bd49ac7558db7e1d7d8dc90c5b4c648", func := "loop.example/g00266/laws.FnExactCutOk", spec := "fnExactCutOk", unfollowed := true, recurses := true, plainKeys := false, apart := false, narrowed := true }
def FnExactCutOkUptoSaid : Prop := fnExactCutOkUptoRow.holds Try.pinned (OpenSpec.upto fnExactCutOkSpec)

/-- 'laws.FnExactWithin', WHERE WHAT IT READS IS OF BULK AT MOST 1048576: true; the input reads as it did. -/
def fnExactWithinUptoRow : OpenClaim := { program := "ytacjpebifacclaa", sum := "18ef06146e3bc3c530f0f29c790b0e1b2bd49ac7558db7e1d7d8dc90c5b4c648", func := "loop.example/g00266/laws.FnExactWithin", spec := "fnExactWithin", unfollowed := true, recurses := true, plainKeys := false, apart := false, narrowed := true }
def FnExactWithinUptoSaid : Prop := fnExactWithinUptoRow.holds Try.pinned (OpenSpec.upto fnExactWithinSpec)

/-- 'laws.FnExactAround', WHERE WHAT IT READS IS OF BULK AT MOST 1048576: true; the input reads as it did. -/
def fnExactAroundUptoRow : OpenClaim := { program := "ytacjpebifacclaa", sum := "18ef06146e3bc3c530f0f29c790b0e1b2bd49ac7558db7e1d7d8dc90c5b4c648", func := "loop.example/g00266/laws.FnExactAround", spec := "fnExactAround", unfollowed := true, recurses := true, plainKeys := false, apart := false, narrowed := true }
def FnExactAroundUptoSaid : Prop := fnExactAroundUptoRow.holds Try.pinned (OpenSpec.upto fnExactAroundSpec)

/-- 'laws.FnExactFlying', WHERE WHAT IT READS IS OF BULK AT MOST 1048576: true; the input reads as it did. -/
def fnExactFlyingUptoRow : OpenClaim := { program := "ytacjpebifacclaa", sum := "18ef06146e3bc3c530f0f29c790b0e1b2bd49ac7558db7e1d7d8dc90c5b4c648", func := "loop.example/g00266/laws.FnExactFlying", spec := "fnExactFlying", unfollowed := true, recurses := true, plainKeys := false, apart := false, narrowed := true }
def FnExactFlyingUptoSaid : Prop := fnExactFlyingUptoRow.holds Try.pinned (OpenSpec.upto fnExactFlyingSpec)

end Rows
end Go.Proofs.Ytacjpebifacclaa
