/-
  A map from keys of two numbers to clocks, as a function that may tell nothing.
-/
import Derived.Test.YtacogcfdolmfpaaJnd
import Derived.Maps.OwnSet
import Derived.DeepKeys4
namespace Go.Proofs.Ytacogcfdolmfpaa
set_option linter.unusedSimpArgs false
set_option linter.unusedVariables false
open Go.RowKit Go.Sort
open Go.Maps (Keyed)

theorem size158 : Try.prog.types.size = 158 := by kernel_rfl
theorem row99 : 99 < Try.prog.types.size := by rw [size158]; decide
theorem law99 : Keyed Try.prog 99 :=
  Keyed.of_law (deep_law_laid (k := 99) (by kernel_rfl) (m := 5) (by omega) row99 (by kernel_rfl) (by kernel_rfl))
theorem lits2 (d : Nat) (a : Int) (wa : (Lit.int .i64 a).wf = true) : Try.prog.keyLits (d + 1) 2 [.int .i64 a] = some [.int .i64 a] := by
  simp [Program.keyLits, Try.underlying2, wa]
theorem lits99 (d : Nat) (a b : Int) (wa : (Lit.int .i64 a).wf = true) (wb : (Lit.int .i64 b).wf = true) : Try.prog.keyLits (d + 2) 99 [.int .i64 a, .int .i64 b] = some [.int .i64 a, .int .i64 b] := by
  have h2 : Try.prog.cellsOf 99 = 2 := by kernel_rfl
  have h1 : Try.prog.cellsOf 2 = 1 := by kernel_rfl
  unfold Program.keyLits
  rw [Try.underlying99]
  simp [h1, h2, lits2 d _ wa, lits2 d _ wb]
theorem key_some (a b : Int) (ha : -9223372036854775808 ≤ a ∧ a ≤ 9223372036854775807) (hb : -9223372036854775808 ≤ b ∧ b ≤ 9223372036854775807) : ∃ kl, keyOf Try.prog 99 (keyV a b) = some kl := by
  have hk : Try.prog.keyType 99 = true := by kernel_rfl
  have h2 : Try.prog.cellsOf 99 = 2 := by kernel_rfl
  have wa : (Lit.int .i64 a).wf = true := WalkArith.wf_i64 ha
  have wb : (Lit.int .i64 b).wf = true := WalkArith.wf_i64 hb
  have hf : (keyV a b).formed Try.prog 99 = true := by simp [keyV, Value.formed, Try.underlying99, h2]
  have hc : (keyV a b).cells.toList = [.int .i64 a, .int .i64 b] := rfl
  refine ⟨.string (keyBytes [.int .i64 a, .int .i64 b]), ?_⟩
  unfold keyOf
  rw [Try.underlying99]
  simp only [hk, hf, hc, Bool.and_self, if_true]
  rw [size158, lits99 157 a b wa wb]
  rfl

/-- What a clock reads as. -/
def ckD (c : Nat → Int) : DataW Unit := .agg [.lit (.int .i64 (c 0)), .lit (.int .i64 (c 1)), .lit (.int .i64 (c 2)), .lit (.int .i64 (c 3)), .lit (.int .i64 (c 4)), .lit (.int .i64 (c 5)), .lit (.int .i64 (c 6)), .lit (.int .i64 (c 7))]
/-- How a map's element that is a clock reads. -/
def ckElem : Value → Option (DataW Unit × List MemPlace)
  | .agg cs => match cs.toList with
    | [.int .i64 a0, .int .i64 a1, .int .i64 a2, .int .i64 a3, .int .i64 a4, .int .i64 a5, .int .i64 a6, .int .i64 a7] =>
      some (.agg [.lit (.int .i64 a0), .lit (.int .i64 a1), .lit (.int .i64 a2), .lit (.int .i64 a3), .lit (.int .i64 a4), .lit (.int .i64 a5), .lit (.int .i64 a6), .lit (.int .i64 a7)], [])
    | _ => none
  | _ => none
theorem ckElem_mk (c : Nat → Int) : ckElem (ckV c) = some (ckD c, []) := rfl
theorem ckElem_inv {v : Value} {c : Nat → Int} {ps : List MemPlace} (h : ckElem v = some (ckD c, ps)) : v = ckV c := by
  unfold ckElem at h
  split at h
  · rename_i cs
    split at h
    · rename_i a0 a1 a2 a3 a4 a5 a6 a7 e
      simp only [ckD, Option.some.injEq, Prod.mk.injEq, DataW.agg.injEq, List.cons.injEq, DataW.lit.injEq, Lit.int.injEq, true_and, and_true] at h
      obtain ⟨⟨rfl, rfl, rfl, rfl, rfl, rfl, rfl, rfl⟩, _⟩ := h
      have : cs = cs.toList.toArray := by simp
      rw [this, e]
      rfl
    · cases h
  · cases h
theorem zero94 (w : World) : (zeroValue 94).run Try.prog w = .ok (ckV (fun _ => 0)) w := by kernel_rfl

/-- Block B is a map of at most n entries that tells F. -/
def KM (w : World) (B n : Nat) (F : Int → Int → Option (Nat → Int)) : Prop :=
  ∃ D : DataW Unit, w.ownsMap Try.prog 99 ckElem B n D ∧ ∀ a b kl, keyOf Try.prog 99 (keyV a b) = some kl →
    Go.Maps.has D kl = (F a b).isSome ∧ ∀ c, F a b = some c → ∀ z, D.atKey kl z = ckD c
theorem KM.lt {w : World} {B n : Nat} {F : Int → Int → Option (Nat → Int)} (h : KM w B n F) : B < w.heap.size := by obtain ⟨D, h, _⟩ := h; exact h.lt
theorem KM.kept {w w' : World} {B n : Nat} {F : Int → Int → Option (Nat → Int)} {r : Option Nat} (h : KM w B n F) (hg : w.grownBy w' r) (hr : some B ≠ r) : KM w' B n F := by
  obtain ⟨D, h1, h2⟩ := h
  exact ⟨D, h1.kept hg hr, h2⟩
theorem KM.below {w w' : World} {B n : Nat} {F : Int → Int → Option (Nat → Int)} (h : KM w B n F) (hb : Below w.heap.size w w') : KM w' B n F :=
  h.kept (r := none) ⟨hb.os, hb.tape, hb.output, hb.size, fun k hk _ => hb.block k hk⟩ (by simp)
theorem KM.drewN {w : World} {B n : Nat} {F : Int → Int → Option (Nat → Int)} (h : KM w B n F) (k : Nat) : KM (w.drewN k) B n F := h
theorem km_made (w : World) : KM (w.alloc (.map #[] 0)) w.heap.size 0 (fun _ _ => none) := by
  refine ⟨.map [], World.ownsMap_made w _ _ _, fun a b kl _ => ⟨rfl, fun c h => by cases h⟩⟩
theorem KM.congr {w : World} {B n : Nat} {F F' : Int → Int → Option (Nat → Int)} (h : KM w B n F) (e : ∀ a b, F a b = F' a b) : KM w B n F' := by
  have : F = F' := funext fun a => funext fun b => e a b
  rwa [← this]

theorem KM.look {w : World} {B n : Nat} {F : Int → Int → Option (Nat → Int)} (h : KM w B n F) {a b : Int} (ha : -9223372036854775808 ≤ a ∧ a ≤ 9223372036854775807) (hb : -9223372036854775808 ≤ b ∧ b ≤ 9223372036854775807) :
    (Instr.lookup 91 (.map (some B)) (keyV a b) false).run Try.prog w = .ok (ckV ((F a b).getD (fun _ => 0))) w := by
  obtain ⟨D, h1, h2⟩ := h
  obtain ⟨kl, hk⟩ := key_some a b ha hb
  obtain ⟨v, ps, hr, hv⟩ := h1.lookup law99 Try.underlying91 (zero94 w) (ckElem_mk _) hk
  obtain ⟨g1, g2⟩ := h2 a b kl hk
  rw [hr]
  cases hF : F a b with
  | none =>
    rw [hF] at g1
    rw [Go.Maps.atKey_of_not_has (by simpa using g1)] at hv
    rw [ckElem_inv hv]; rfl
  | some c =>
    rw [g2 c hF] at hv
    rw [ckElem_inv hv]; rfl
theorem KM.look_ok {w : World} {B n : Nat} {F : Int → Int → Option (Nat → Int)} (h : KM w B n F) {a b : Int} (ha : -9223372036854775808 ≤ a ∧ a ≤ 9223372036854775807) (hb : -9223372036854775808 ≤ b ∧ b ≤ 9223372036854775807) :
    (Instr.lookup 91 (.map (some B)) (keyV a b) true).run Try.prog w = .ok (.tuple #[ckV ((F a b).getD (fun _ => 0)), .bool (F a b).isSome]) w := by
  obtain ⟨D, h1, h2⟩ := h
  obtain ⟨kl, hk⟩ := key_some a b ha hb
  obtain ⟨v, ps, hr, hv⟩ := h1.look_ok law99 Try.underlying91 (zero94 w) (ckElem_mk _) hk
  obtain ⟨g1, g2⟩ := h2 a b kl hk
  rw [hr, g1]
  cases hF : F a b with
  | none =>
    rw [hF] at g1
    rw [Go.Maps.atKey_of_not_has (by simpa using g1)] at hv
    rw [ckElem_inv hv]; rfl
  | some c =>
    rw [g2 c hF] at hv
    rw [ckElem_inv hv]; rfl
/-- One more entry. -/
def put2 (F : Int → Int → Option (Nat → Int)) (a b : Int) (c : Nat → Int) : Int → Int → Option (Nat → Int) := fun x y => if x = a ∧ y = b then some c else F x y
theorem KM.put {w : World} {B n : Nat} {F : Int → Int → Option (Nat → Int)} (h : KM w B n F) (hn : n < maxLen) {a b : Int} (ha : -9223372036854775808 ≤ a ∧ a ≤ 9223372036854775807) (hb : -9223372036854775808 ≤ b ∧ b ≤ 9223372036854775807) (c : Nat → Int) :
    ∃ w', (Instr.mapUpdate 91 (.map (some B)) (keyV a b) (ckV c)).run Try.prog w = .ok () w' ∧ KM w' B (n + 1) (put2 F a b c) ∧ w.grownBy w' (some B) := by
  obtain ⟨D, h1, h2⟩ := h
  obtain ⟨kl, hk⟩ := key_some a b ha hb
  obtain ⟨w', hr, h3, h4⟩ := h1.update law99 Try.underlying91 hn hk (ckElem_mk c)
  refine ⟨w', hr, ⟨_, h3, fun x y kl' hk' => ?_⟩, h4⟩
  obtain ⟨g1, g2⟩ := h2 x y kl' hk'
  unfold put2
  by_cases e : x = a ∧ y = b
  · obtain ⟨rfl, rfl⟩ := e
    rw [hk] at hk'
    cases hk'
    rw [if_pos ⟨rfl, rfl⟩]
    refine ⟨Go.Maps.has_put_same h1.isMap (law99.key hk) _, fun c' hc' z => ?_⟩
    cases hc'
    exact Go.Maps.atKey_put_same h1.isMap (law99.key hk) _ _
  · have hne : kl' ≠ kl := by
      intro he
      subst he
      have := law99.inj hk' hk
      simp only [keyV, Value.agg.injEq, Array.mk.injEq, List.cons.injEq, Value.int.injEq, true_and, and_true] at this
      exact e this
    rw [if_neg e, Go.Maps.has_put_other hne]
    refine ⟨g1, fun c' hc' z => ?_⟩
    rw [Go.Maps.atKey_put_other hne]
    exact g2 c' hc' z
end Go.Proofs.Ytacogcfdolmfpaa
