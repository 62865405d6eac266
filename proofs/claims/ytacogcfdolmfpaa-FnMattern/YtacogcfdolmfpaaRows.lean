/-
  No cell of these rows narrows 'for every input' (looked for: loops, veiled, ifaces, maps, wideKeys, modest, calm, conditions, laid).
  DERIVED. THE GIVEN ROWS OF THIS SEAT. 8 by the template 'for every input the law returns true; each argument reads behind the call as it read before'; 0 by the template 'total and deterministic' (their statements: YtacogcfdolmfpaaTotals.lean).
  GIVEN WITH THE SEED: the statements are not yours to turn. If you find one false, say at which input.
  Laid BY PROGRAM, IN A SANDBOX (cutbox-rows.mjs): the forced cells as the released guide's own fill.sh prints them over the translation a0dea4994db8e211… (all of the seat's roots in one cut). By AI agents, Wed Nov 11 2026. No macro, syntax, notation, axiom, sorry.
-/
import Derived.Test.YtacogcfdolmfpaaChecked
import GoSem.Claim
import GoSem.ClaimJoined
import GoSem.ClaimMapViews
import Derived.JoinedTies
import Derived.KernelRfl
namespace Go.Proofs.Ytacogcfdolmfpaa
/- THE CELL 'sum', in the pinned program and in every row, IS THE sha256 OF THE DUMP (.gsa) THAT YtacogcfdolmfpaaProg.lean LOADS. Nothing in Lean hashes anything: it is a label: what it is worth is what the hold of that sum in a sandbox is worth. -/
noncomputable def Try.pinned : Pinned := { name := "ytacogcfdolmfpaa", sum := "a0dea4994db8e211fe1fb0d0f97bd9429e3d286d6e436ae93a1829e2dfd90dd6", checked := Try.checked }
namespace Rows
def none {H : Type} : Left H := { results := [], args := [] }

/-- 'laws.FnLattice': WHATEVER THE INPUT: true; the input reads as it did. -/
def fnLatticeSpec : ChangeSpec := { name := "fnLattice", fn := fun _ => fun
  | [d] => { results := [.lit (.bool true)], args := [d] }
  | _ => none }
def fnLatticeRow : OpenClaim := { program := "ytacogcfdolmfpaa", sum := "a0dea4994db8e211fe1fb0d0f97bd9429e3d286d6e436ae93a1829e2dfd90dd6", func := "loop.example/g00266/laws.FnLattice", spec := "fnLattice", unfollowed := true, recurses := true, plainKeys := false, apart := false }
def FnLatticeSaid : Prop := fnLatticeRow.holds Try.pinned (OpenSpec.ofChange fnLatticeSpec)

/-- ITS FALSE NEIGHBOUR: 'it returns false'. Refute it at one input. -/
def fnLatticeWrong : ChangeSpec := { name := "fnLattice", fn := fun _ => fun
  | [d] => { results := [.lit (.bool false)], args := [d] }
  | _ => none }
def FnLatticeWrongFalsely : Prop := fnLatticeRow.holds Try.pinned (OpenSpec.ofChange fnLatticeWrong)

/-- 'laws.FnLamport': WHATEVER THE INPUT: true; the input reads as it did. -/
def fnLamportSpec : ChangeSpec := { name := "fnLamport", fn := fun _ => fun
  | [d] => { results := [.lit (.bool true)], args := [d] }
  | _ => none }
def fnLamportRow : OpenClaim := { program := "ytacogcfdolmfpaa", sum := "a0dea4994db8e211fe1fb0d0f97bd9429e3d286d6e436ae93a1829e2dfd90dd6", func := "loop.example/g00266/laws.FnLamport", spec := "fnLamport", unfollowed := true, recurses := true, plainKeys := false, apart := false }
def FnLamportSaid : Prop := fnLamportRow.holds Try.pinned (OpenSpec.ofChange fnLamportSpec)

/-- ITS FALSE NEIGHBOUR: 'it returns false'. Refute it at one input. -/
def fnLamportWrong : ChangeSpec := { name := "fnLamport", fn := fun _ => fun
  | [d] => { results := [.lit (.bool false)], args := [d] }
  | _ => none }
def FnLamportWrongFalsely : Prop := fnLamportRow.holds Try.pinned (OpenSpec.ofChange fnLamportWrong)

/-- 'laws.FnMattern': WHATEVER THE INPUT: true; the input reads as it did. -/
def fnMatternSpec : ChangeSpec := { name := "fnMattern", fn := fun _ => fun
  | [d] => { results := [.lit (.bool true)], args := [d] }
  | _ => none }
def fnMatternRow : OpenClaim := { program := "ytacogcfdolmfpaa", sum := "a0dea4994db8e211fe1fb0d0f97bd9429e3d286d6e436ae93a1829e2dfd90dd6", func := "loop.example/g00266/laws.FnMattern", spec := "fnMattern", unfollowed := true, recurses := true, plainKeys := false, apart := false }
def FnMatternSaid : Prop := fnMatternRow.holds Try.pinned (OpenSpec.ofChange fnMatternSpec)

/-- ITS FALSE NEIGHBOUR: 'it returns false'. Refute it at one input. -/
def fnMatternWrong : ChangeSpec := { name := "fnMattern", fn := fun _ => fun
  | [d] => { results := [.lit (.bool false)], args := [d] }
  | _ => none }
def FnMatternWrongFalsely : Prop := fnMatternRow.holds Try.pinned (OpenSpec.ofChange fnMatternWrong)

/-- 'laws.FnNewest': WHATEVER THE INPUT: true; the input reads as it did. -/
def fnNewestSpec : ChangeSpec := { name := "fnNewest", fn := fun _ => fun
  | [d] => { results := [.lit (.bool true)], args := [d] }
  | _ => none }
def fnNewestRow : OpenClaim := { program := "ytacogcfdolmfpaa", sum := "a0dea4994db8e211fe1fb0d0f97bd9429e3d286d6e436ae93a1829e2dfd90dd6", func := "loop.example/g00266/laws.FnNewest", spec := "fnNewest", unfollowed := true, recurses := true, plainKeys := false, apart := false }
def FnNewestSaid : Prop := fnNewestRow.holds Try.pinned (OpenSpec.ofChange fnNewestSpec)

/-- ITS FALSE NEIGHBOUR: 'it returns false'. Refute it at one input. -/
def fnNewestWrong : ChangeSpec := { name := "fnNewest", fn := fun _ => fun
  | [d] => { results := [.lit (.bool false)], args := [d] }
  | _ => none }
def FnNewestWrongFalsely : Prop := fnNewestRow.holds Try.pinned (OpenSpec.ofChange fnNewestWrong)

/-- 'laws.FnExactClocks': WHATEVER THE INPUT: true; the input reads as it did. -/
def fnExactClocksSpec : ChangeSpec := { name := "fnExactClocks", fn := fun _ => fun
  | [d] => { results := [.lit (.bool true)], args := [d] }
  | _ => none }
def fnExactClocksRow : OpenClaim := { program := "ytacogcfdolmfpaa", sum := "a0dea4994db8e211fe1fb0d0f97bd9429e3d286d6e436ae93a1829e2dfd90dd6", func := "loop.example/g00266/laws.FnExactClocks", spec := "fnExactClocks", unfollowed := true, recurses := true, plainKeys := false, apart := false }
def FnExactClocksSaid : Prop := fnExactClocksRow.holds Try.pinned (OpenSpec.ofChange fnExactClocksSpec)

/-- ITS FALSE NEIGHBOUR: 'it returns false'. Refute it at one input. -/
def fnExactClocksWrong : ChangeSpec := { name := "fnExactClocks", fn := fun _ => fun
  | [d] => { results := [.lit (.bool false)], args := [d] }
  | _ => none }
def FnExactClocksWrongFalsely : Prop := fnExactClocksRow.holds Try.pinned (OpenSpec.ofChange fnExactClocksWrong)

/-- 'laws.FnExactEarlier': WHATEVER THE INPUT: true; the input reads as it did. -/
def fnExactEarlierSpec : ChangeSpec := { name := "fnExactEarlier", fn := fun _ => fun
  | [d1, d2] => { results := [.lit (.bool true)], args := [d1, d2] }
  | _ => none }
def fnExactEarlierRow : OpenClaim := { program := "ytacogcfdolmfpaa", sum := "a0dea4994db8e211fe1fb0d0f97bd9429e3d286d6e436ae93a1829e2dfd90dd6", func := "loop.example/g00266/laws.FnExactEarlier", spec := "fnExactEarlier", plainKeys := false, apart := false }
def FnExactEarlierSaid : Prop := fnExactEarlierRow.holds Try.pinned (OpenSpec.ofChange fnExactEarlierSpec)

/-- ITS FALSE NEIGHBOUR: 'it returns false'. Refute it at one input. -/
def fnExactEarlierWrong : ChangeSpec := { name := "fnExactEarlier", fn := fun _ => fun
  | [d1, d2] => { results := [.lit (.bool false)], args := [d1, d2] }
  | _ => none }
def FnExactEarlierWrongFalsely : Prop := fnExactEarlierRow.holds Try.pinned (OpenSpec.ofChange fnExactEarlierWrong)

/-- 'laws.FnExactApart': WHATEVER THE INPUT: true; the input reads as it did. -/
def fnExactApartSpec : ChangeSpec := { name := "fnExactApart", fn := fun _ => fun
  | [d1, d2] => { results := [.lit (.bool true)], args := [d1, d2] }
  | _ => none }
def fnExactApartRow : OpenClaim := { program := "ytacogcfdolmfpaa", sum := "a0dea4994db8e211fe1fb0d0f97bd9429e3d286d6e436ae93a1829e2dfd90dd6", func := "loop.example/g00266/laws.FnExactApart", spec := "fnExactApart", plainKeys := false, apart := false }
def FnExactApartSaid : Prop := fnExactApartRow.holds Try.pinned (OpenSpec.ofChange fnExactApartSpec)

/-- ITS FALSE NEIGHBOUR: 'it returns false'. Refute it at one input. -/
def fnExactApartWrong : ChangeSpec := { name := "fnExactApart", fn := fun _ => fun
  | [d1, d2] => { results := [.lit (.bool false)], args := [d1, d2] }
  | _ => none }
def FnExactApartWrongFalsely : Prop := fnExactApartRow.holds Try.pinned (OpenSpec.ofChange fnExactApartWrong)

/-- 'laws.FnExactNewest': WHATEVER THE INPUT: true; the input reads as it did. -/
def fnExactNewestSpec : ChangeSpec := { name := "fnExactNewest", fn := fun _ => fun
  | [d1, d2] => { results := [.lit (.bool true)], args := [d1, d2] }
  | _ => none }
def fnExactNewestRow : OpenClaim := { program := "ytacogcfdolmfpaa", sum := "a0dea4994db8e211fe1fb0d0f97bd9429e3d286d6e436ae93a1829e2dfd90dd6", func := "loop.example/g00266/laws.FnExactNewest", spec := "fnExactNewest", unfollowed := true, recurses := true, plainKeys := false, apart := false }
def FnExactNewestSaid : Prop := fnExactNewestRow.holds Try.pinned (OpenSpec.ofChange fnExactNewestSpec)

/-- ITS FALSE NEIGHBOUR: 'it returns false'. Refute it at one input. -/
def fnExactNewestWrong : ChangeSpec := { name := "fnExactNewest", fn := fun _ => fun
  | [d1, d2] => { results := [.lit (.bool false)], args := [d1, d2] }
  | _ => none }
def FnExactNewestWrongFalsely : Prop := fnExactNewestRow.holds Try.pinned (OpenSpec.ofChange fnExactNewestWrong)

/- THE SECOND FORM. 'bulk': how many values and letters a reading holds, each counted each time it is reached (what is shared counts as often as it is met; a slice's spare places count too). A statement '..UptoSaid' is the law's where the arguments, and the package variables that the reading takes, are together of bulk at most 1048576: NARROWER than '..Said'. Prove '..Said' where nothing that the law and all that it calls make is longer than what came in: it says more and counts as full. Else prove '..UptoSaid'. A law counts once. -/
mutual
def uptoBulk {H : Type} : DataW H → Nat
  | .lit (.string bytes) => bytes.length + 1
  | .lit _ => 1
  | .nil => 1
  | .ptr d => uptoBulk d + 1
  | .slice elems spare => uptoBulkAll elems + uptoBulkAll spare + 1
  | .agg parts => uptoBulkAll parts + 1
  | .iface _ d => uptoBulk d + 1
  | .map entries => uptoBulkEntries entries + 1
  | .held _ => 1
def uptoBulkAll {H : Type} : List (DataW H) → Nat
  | [] => 0
  | d :: r => uptoBulk d + uptoBulkAll r
def uptoBulkEntries {H : Type} : List (Lit × DataW H) → Nat
  | [] => 0
  | x :: r => uptoBulkEntry x + uptoBulkEntries r
def uptoBulkEntry {H : Type} : Lit × DataW H → Nat
  | (.string bytes, d) => bytes.length + uptoBulk d + 1
  | (_, d) => uptoBulk d + 1
 end
def uptoSmall : (H : Type) → List (DataW H) → Bool := fun _ ds => decide (uptoBulkAll ds ≤ 1048576)
def OpenSpec.upto (s : _root_.Go.ChangeSpec) : _root_.Go.OpenSpec := { _root_.Go.OpenSpec.ofChange s with cond := some uptoSmall }

/-- 'laws.FnLattice', WHERE WHAT IT READS IS OF BULK AT MOST 1048576: true; the input reads as it did. -/
def fnLatticeUptoRow : OpenClaim := { program := "ytacogcfdolmfpaa", sum := "a0dea4994db8e211fe1fb0d0f97bd9429e3d286d6e436ae93a1829e2dfd90dd6", func := "loop.example/g00266/laws.FnLattice", spec := "fnLattice", unfollowed := true, recurses := true, plainKeys := false, apart := false, narrowed := true }
def FnLatticeUptoSaid : Prop := fnLatticeUptoRow.holds Try.pinned (OpenSpec.upto fnLatticeSpec)

/-- 'laws.FnLamport', WHERE WHAT IT READS IS OF BULK AT MOST 1048576: true; the input reads as it did. -/
def fnLamportUptoRow : OpenClaim := { program := "ytacogcfdolmfpaa", sum := "a0dea4994db8e211fe1fb0d0f97bd9429e3d286d6e436ae93a1829e2dfd90dd6", func := "loop.example/g00266/laws.FnLamport", spec := "fnLamport", unfollowed := true, recurses := true, plainKeys := false, apart := false, narrowed := true }
def FnLamportUptoSaid : Prop := fnLamportUptoRow.holds Try.pinned (OpenSpec.upto fnLamportSpec)

/-- 'laws.FnMattern', WHERE WHAT IT READS IS OF BULK AT MOST 1048576: true; the input reads as it did. -/
def fnMatternUptoRow : OpenClaim := { program := "ytacogcfdolmfpaa", sum := "a0dea4994db8e211fe1fb0d0f97bd9429e3d286d6e436ae93a1829e2dfd90dd6", func := "loop.example/g00266/laws.FnMattern", spec := "fnMattern", unfollowed := true, recurses := true, plainKeys := false, apart := false, narrowed := true }
def FnMatternUptoSaid : Prop := fnMatternUptoRow.holds Try.pinned (OpenSpec.upto fnMatternSpec)

/-- 'laws.FnNewest', WHERE WHAT IT READS IS OF BULK AT MOST 1048576: true; the input reads as it did. -/
def fnNewestUptoRow : OpenClaim := { program := "ytacogcfdolmfpaa", sum := "a0dea4994db8e211fe1fb0d0f97bd9429e3d286d6e436ae93a1829e2dfd90dd6", func := "loop.example/g00266/laws.FnNewest", spec := "fnNewest", unfollowed := true, recurses := true, plainKeys := false, apart := false, narrowed := true }
def FnNewestUptoSaid : Prop := fnNewestUptoRow.holds Try.pinned (OpenSpec.upto fnNewestSpec)

/-- 'laws.FnExactClocks', WHERE WHAT IT READS IS OF BULK AT MOST 1048576: true; the input reads as it did. -/
def fnExactClocksUptoRow : OpenClaim := { program := "ytacogcfdolmfpaa", sum := "a0dea4994db8e211fe1fb0d0f97bd9429e3d286d6e436ae93a1829e2dfd90dd6", func := "loop.example/g00266/laws.FnExactClocks", spec := "fnExactClocks", unfollowed := true, recurses := true, plainKeys := false, apart := false, narrowed := true }
def FnExactClocksUptoSaid : Prop := fnExactClocksUptoRow.holds Try.pinned (OpenSpec.upto fnExactClocksSpec)

/-- 'laws.FnExactEarlier', WHERE WHAT IT READS IS OF BULK AT MOST 1048576: true; the input reads as it did. -/
def fnExactEarlierUptoRow : OpenClaim := { program := "ytacogcfdolmfpaa", sum := "a0dea4994db8e211fe1fb0d0f97bd9429e3d286d6e436ae93a1829e2dfd90dd6", func := "loop.example/g00266/laws.FnExactEarlier", spec := "fnExactEarlier", plainKeys := false, apart := false, narrowed := true }
def FnExactEarlierUptoSaid : Prop := fnExactEarlierUptoRow.holds Try.pinned (OpenSpec.upto fnExactEarlierSpec)

/-- 'laws.FnExactApart', WHERE WHAT IT READS IS OF BULK AT MOST 1048576: true; the input reads as it did. -/
def fnExactApartUptoRow : OpenClaim := { program := "ytacogcfdolmfpaa", sum := "a0dea4994db8e211fe1fb0d0f97bd9429e3d286d6e436ae93a1829e2dfd90dd6", func := "loop.example/g00266/laws.FnExactApart", spec := "fnExactApart", plainKeys := false, apart := false, narrowed := true }
def FnExactApartUptoSaid : Prop := fnExactApartUptoRow.holds Try.pinned (OpenSpec.upto fnExactApartSpec)

/-- 'laws.FnExactNewest', WHERE WHAT IT READS IS OF BULK AT MOST 1048576: true; the input reads as it did. -/
def fnExactNewestUptoRow : OpenClaim := { program := "ytacogcfdolmfpaa", sum := "a0dea4994db8e211fe1fb0d0f97bd9429e3d286d6e436ae93a1829e2dfd90dd6", func := "loop.example/g00266/laws.FnExactNewest", spec := "fnExactNewest", unfollowed := true, recurses := true, plainKeys := false, apart := false, narrowed := true }
def FnExactNewestUptoSaid : Prop := fnExactNewestUptoRow.holds Try.pinned (OpenSpec.upto fnExactNewestSpec)

end Rows
end Go.Proofs.Ytacogcfdolmfpaa
