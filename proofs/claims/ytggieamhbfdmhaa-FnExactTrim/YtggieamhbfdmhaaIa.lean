/-
  Several texts in one: Lsq Lwv.
-/
import Derived.Test.YtggieamhbfdmhaaHz
/-
  What the program's SeqOf, SenderOf, IndexOf, Ready and Woven answer, and the walks of the exact laws of the first four FROM that.
-/
namespace Go.Proofs.Ytggieamhbfdmhaa
set_option linter.unusedVariables false
set_option linter.unusedSimpArgs false
open Go.RowKit Go.Sort

/-- A number of 64 bits. -/
def I64 (x : Int) : Prop := -9223372036854775808 ≤ x ∧ x ≤ 9223372036854775807
def ImplSeqOf : Prop := ∀ (n s i : Int) (w : World), I64 n → I64 s → I64 i → Calls Try.prog 88 #[.int .i64 n, .int .i64 s, .int .i64 i] w fun e w' => e = .returned (.int .i64 (seqL n s i)) ∧ Below w.heap.size w w'
def ImplWoven : Prop := ∀ (a : Option Addr) (len cap : Nat) (cs : List Int) (w : World), Vec w a len cs → len ≤ cap → cap ≤ maxLen → Calls Try.prog 68 #[.slice a len cap] w fun e w' => ∃ Z, IsWoven cs Z ∧ AnsN w w' e Z
/-- What Ready answers, told otherwise: the number of those that are ready. -/
theorem readyL_is {cs : List Int} (h : okCt cs = true) : 0 ≤ readyL cs ∧ readyL cs ≤ 800000 ∧ IsReady cs (readyL cs).toNat := by
  obtain ⟨hok, hall⟩ := okCt_all h
  have h18 := okB_len hok
  have hc0 := hall 0 (by omega)
  have m0 : 0 ≤ (cs.length : Int) * el cs 0 := Int.mul_nonneg (by omega) hc0.1
  have m1 : (cs.length : Int) * el cs 0 ≤ 8 * 100000 := Int.mul_le_mul (by omega) hc0.2 hc0.1 (by omega)
  have e : readyL cs = rdy cs cs.length ((cs.length : Int) * el cs 0) := by rw [readyL, if_pos h]
  have hb := rdy_bd hall (by omega) (b := (cs.length : Int) * el cs 0) ⟨m0, by omega⟩ cs.length (Nat.le_refl _)
  rw [e]
  exact ⟨hb.1, hb.2, rdy_ready h18.1 h18.2 hall⟩
theorem readyL_of {cs : List Int} {r : Nat} (h : okCt cs = true) (hr : IsReady cs r) : readyL cs = (r : Int) := by
  obtain ⟨h0, _, h2⟩ := readyL_is h
  have := h2.unique hr
  omega

end Go.Proofs.Ytggieamhbfdmhaa

/-
  The walk of the exact law of Woven FROM its contract.
-/
namespace Go.Proofs.Ytggieamhbfdmhaa
set_option linter.unusedVariables false
set_option linter.unusedSimpArgs false
open Go.RowKit Go.Sort

theorem isWoven_len {cs Z : List Int} (h : IsWoven cs Z) : Z.length ≤ 200 ∧ Fits Z := by
  rcases h with ⟨h1, h2, h3⟩ | ⟨_, rfl⟩
  · obtain ⟨hok, hall⟩ := okCt_all h1
    have h18 := okB_len hok
    have hM : ∀ i, i < cs.length → el cs i ≤ ((100000 : Nat) : Int) := fun i hi => (hall i hi).2
    have e := h3.unique (wovs_is h18.1 hM)
    rw [e]
    have hc := wovs_count (M := 100000) (fun i hi => ⟨(hall i hi).1, hM i hi⟩)
    exact ⟨by omega, wovs_fits h18.2 (Nat.le_refl _)⟩
  · exact ⟨by simp, fun x hx => by simp at hx⟩
theorem RowOf.num7 {w : World} {b : Nat} {xs : List Int} (h : RowOf w b xs) (hm : xs.length ≤ maxLen) : OI w b 0 xs.length xs.length xs := OI.own (h.own hm)
/-- What the law holds: the copy that was handed over, what came back, what is wanted. -/
structure Gv (w cur : World) (b g og cg d od cd : Nat) (xs : List Int) (G Z : List Int) : Prop where
  below : Below w.heap.size w cur
  x0 : OI cur b 0 xs.length xs.length xs
  got : OI cur g og Z.length cg G
  want : OI cur d od Z.length cd Z
theorem Gv.step {w cur next : World} {b g og cg d od cd : Nat} {xs : List Int} {G Z : List Int} (h : Gv w cur b g og cg d od cd xs G Z) (hb : Below cur.heap.size cur next) : Gv w next b g og cg d od cd xs G Z :=
  ⟨h.below.trans (hb.mono h.below.size), h.x0.below hb h.x0.blk, h.got.below hb h.got.blk, h.want.below hb h.want.blk⟩
theorem Gv.drewN {w cur : World} {b g og cg d od cd : Nat} {xs : List Int} {G Z : List Int} (h : Gv w cur b g og cg d od cd xs G Z) (k : Nat) : Gv w (cur.drewN k) b g og cg d od cd xs G Z :=
  ⟨belowN h.below, h.x0.drewN k, h.got.drewN k, h.want.drewN k⟩

end Go.Proofs.Ytggieamhbfdmhaa
