/-
  Several texts in one: Dru Drg.
-/
import Derived.Test.YtbgkfiijfocgiaaHw
import Derived.Test.YtbgkfiijfocgiaaHl
import Derived.Test.YtbgkfiijfocgiaaHt
/-
  The contracts of the specification's DrawSettled, DrawSteady and DrawFired; Settled, Fired as the laws want them.
-/
namespace Go.Proofs.Ytbgkfiijfocgiaa
set_option linter.unusedSimpArgs false
set_option linter.unusedVariables false
open Go.RowKit Go.Sort

/-- A vector in memory, as a value. -/
def VecV (w : World) (v : Value) (zs : List Int) : Prop := ∃ x c, v = .slice x zs.length c ∧ Vec w x zs.length zs ∧ zs.length ≤ c ∧ c ≤ maxLen
/-- A list of rules in memory, as a value. -/
def RusV (w : World) (v : Value) (rs : List Ru) : Prop := ∃ x c, v = .slice x rs.length c ∧ RuS w x rs.length rs ∧ rs.length ≤ c ∧ c ≤ maxLen
theorem VecV.below {w w' : World} {v : Value} {zs : List Int} (h : VecV w v zs) (hb : Below w.heap.size w w') : VecV w' v zs := by
  obtain ⟨x, c, h1, h2, h3⟩ := h
  exact ⟨x, c, h1, h2.below hb (Nat.le_refl _), h3⟩
theorem RusV.below {w w' : World} {v : Value} {rs : List Ru} (h : RusV w v rs) (hb : Below w.heap.size w w') : RusV w' v rs := by
  obtain ⟨x, c, h1, h2, h3⟩ := h
  exact ⟨x, c, h1, h2.below hb (Nat.le_refl _), h3⟩
theorem Dv.vecv {w w' : World} {v : Value} {p : Nat} {a : Option Addr} {len cap : Nat} {zs : List Int} (h : Dv w w' v p a len cap zs) : VecV w' v zs := by
  obtain ⟨g, og, cg, h1, h2, h3⟩ := h.at_
  exact ⟨_, cg, h1, OI.vec h3 (fun z hz => by have := h.small z hz; omega), h3.le, h3.max⟩
theorem Drus.rusv {w w' : World} {v : Value} {p : Nat} {a : Option Addr} {len cap : Nat} {rs : List Ru} (h : Drus w w' v p a len cap rs) : RusV w' v rs := by
  obtain ⟨g, og, cg, h1, h2, h3, h4, _⟩ := h
  exact ⟨_, cg, h1, h2, h3, h4⟩
theorem below_cur {w w1 w2 : World} {p : Nat} (h : Below w.heap.size w w1) (hg : w1.grownBy w2 (some p)) (hp : w.heap.size ≤ p) : Below w.heap.size w w2 := below_grown6 h hg hp h.size
theorem Dv.keep {w w' w2 : World} {v : Value} {p : Nat} {a : Option Addr} {len cap : Nat} {zs : List Int} (h : Dv w w' v p a len cap zs) (hp : p < w.heap.size) (hg : w'.grownBy w2 (some p)) :
    VecV w2 v zs ∧ ∀ X q, q < w.heap.size → w2.grownBy X (some q) → VecV X v zs := by
  obtain ⟨g, og, cg, h1, h2, h3⟩ := h.at_
  have hf : Fits zs := fun z hz => by have := h.small z hz; omega
  have h4 : OI w2 g og zs.length cg zs := OSl.grown h3 hg (by simp; omega)
  exact ⟨⟨_, cg, h1, OI.vec h4 hf, h4.le, h4.max⟩, fun X q hq hX => ⟨_, cg, h1, OI.vec (OSl.grown h4 hX (by simp; omega)) hf, h4.le, h4.max⟩⟩
theorem RuS.grown {w X : World} {g og n q : Nat} {rs : List Ru} (h : RuS w (some ⟨g, og, none⟩) n rs) (hg : w.grownBy X (some q)) (hne : g ≠ q) : RuS X (some ⟨g, og, none⟩) n rs := by
  refine ⟨h.1, ?_⟩
  rcases h.2 with h0 | ⟨b, off, he, hc⟩
  · exact .inl h0
  · simp only [Option.some.injEq, Addr.mk.injEq, and_true] at he
    obtain ⟨rfl, rfl⟩ := he
    refine .inr ⟨g, og, rfl, fun i hi => ?_⟩
    obtain ⟨c0, c1, c2, c3⟩ := hc i hi
    have hn : some g ≠ some q := by simpa using hne
    exact ⟨hg.cell c0 hn, hg.cell c1 hn, hg.cell c2 hn, hg.cell c3 hn⟩
theorem Drus.keep {w w' : World} {v : Value} {p : Nat} {a : Option Addr} {len cap : Nat} {rs : List Ru} (h : Drus w w' v p a len cap rs) : ∀ X q, q < w.heap.size → w'.grownBy X (some q) → RusV X v rs := by
  obtain ⟨g, og, cg, h1, h2, h3, h4, h5, _⟩ := h
  exact fun X q hq hX => ⟨_, cg, h1, h2.grown hX (by omega), h3, h4⟩

set_option maxRecDepth 100000 in
set_option maxHeartbeats 800000 in
theorem drawSettled_any (a : Option Addr) (len cap : Nat) (bs : Nat → Int) (w : World) (hv : BVec w a len bs) (hl : len ≤ 4096) :
    Calls Try.prog 28 #[.slice a len cap] w fun e w' => ∃ v r zs rs, e = .returned (.tuple #[v, r]) ∧ VecV w' v zs ∧ RusV w' r rs ∧ zs.length ≤ 8 ∧ rs.length ≤ 30 ∧ Below w.heap.size w w' ∧ ∀ X q, q < w.heap.size → w'.grownBy X (some q) → VecV X v zs ∧ RusV X r rs := by
  go_enter Try.func28, Try.ntmps28
  go_wp2_with fail
  refine (new_any a len cap bs w hv hl).mono ?_
  rintro e w1 ⟨p, rfl, hp, hc1, hb1⟩
  have hv1 := hv.below hb1 (Nat.le_refl _)
  have hoff : OffB a len p := fun hl b off e => by have := hv.inB hl b off e; omega
  have hpl := hc1.lt
  go_wp2_with fail
  refine (drawV8_any p a len cap bs w1 hc1 hv1 hoff hl).mono ?_
  rintro e w2 ⟨v, zs, rfl, hD⟩
  have hB2 := drawR_any p a len cap bs w2 hD.cur (hv1.grown hD.grown hoff) hoff hl
  go_wp2_with fail
  refine hB2.mono ?_
  rintro e w3 ⟨r, rs, rfl, hR⟩
  have hg3 : w2.grownBy w3 (some p) := by obtain ⟨_, _, _, _, _, _, _, _, _, _, _, h⟩ := hR; exact h
  have hr30 : rs.length ≤ 30 := by obtain ⟨_, _, _, _, _, _, _, _, _, h, _⟩ := hR; exact h
  have F : Hid (VecV w3 v zs ∧ RusV w3 r rs ∧ zs.length ≤ 8 ∧ rs.length ≤ 30 ∧ Below w.heap.size w w3 ∧ ∀ X q, q < w.heap.size → w3.grownBy X (some q) → VecV X v zs ∧ RusV X r rs) := ⟨(hD.keep hpl hg3).1, hR.rusv, hD.long, hr30, below_cur (below_cur hb1 hD.grown hp) hg3 hp, fun X q hq hX => ⟨(hD.keep hpl hg3).2 X q (Nat.lt_of_lt_of_le hq hb1.size) hX, hR.keep X q (Nat.lt_of_lt_of_le hq (Nat.le_trans hb1.size hD.grown.size)) hX⟩⟩
  clear hD hB2 hR hg3 hr30
  go_wp2
  go_ret2
  exact ⟨v, r, zs, rs, rfl, F.out⟩

theorem isSettled_fits {xs : List Int} {rs : List Ru} {Z : List Int} (h : IsSettled xs rs Z) : Fits Z ∧ Z.length ≤ 8 := by
  rcases h with ⟨_, h⟩ | ⟨_, rfl⟩
  · exact ⟨h.1.1.fits, by rw [h.1.1.1]; exact Nat.le_refl _⟩
  · exact ⟨fun x hx => by simp at hx, by simp⟩
theorem AnsN.vecv {w w' : World} {e : Ending} {Z : List Int} (h : AnsN w w' e Z) (hf : Fits Z) : ∃ v, e = .returned v ∧ VecV w' v Z ∧ Below w.heap.size w w' := by
  obtain ⟨g, off, c, rfl, _, ho, hb⟩ := h
  exact ⟨_, rfl, ⟨_, c, rfl, OI.vec ho hf, ho.le, ho.max⟩, hb⟩
theorem setS (v r : Value) (zs : List Int) (rs : List Ru) (w : World) (hv : VecV w v zs) (hr : RusV w r rs) :
    Calls Try.prog 31 #[v, r] w fun e w' => ∃ u Z, e = .returned u ∧ IsSettled zs rs Z ∧ VecV w' u Z ∧ Below w.heap.size w w' := by
  obtain ⟨x, c, rfl, h1, h2, h3⟩ := hv
  obtain ⟨y, d, rfl, h4, h5, h6⟩ := hr
  refine (settled_any x _ c zs y _ d rs w h1 h4 (Nat.le_trans h2 h3) (Nat.le_trans h5 h6)).mono ?_
  rintro e w' ⟨Z, hZ, hA⟩
  obtain ⟨u, hu, hV, hB⟩ := hA.vecv (isSettled_fits hZ).1
  exact ⟨u, Z, hu, hZ, hV, hB⟩
theorem setI (hI : ImplSettled) (v r : Value) (zs : List Int) (rs : List Ru) (w : World) (hv : VecV w v zs) (hr : RusV w r rs) :
    Calls Try.prog 29 #[v, r] w fun e w' => ∃ u Z, e = .returned u ∧ IsSettled zs rs Z ∧ VecV w' u Z ∧ Below w.heap.size w w' := by
  obtain ⟨x, c, rfl, h1, h2, h3⟩ := hv
  obtain ⟨y, d, rfl, h4, h5, h6⟩ := hr
  refine (hI x _ c zs y _ d rs w h1 h4 h2 h3 h5 h6).mono ?_
  rintro e w' ⟨Z, hZ, hA⟩
  obtain ⟨u, hu, hV, hB⟩ := hA.vecv (isSettled_fits hZ).1
  exact ⟨u, Z, hu, hZ, hV, hB⟩
theorem stdS (v r : Value) (zs : List Int) (rs : List Ru) (w : World) (hv : VecV w v zs) (hr : RusV w r rs) :
    Calls Try.prog 33 #[v, r] w fun e w' => e = .returned (.bool (stdB zs rs)) ∧ Below w.heap.size w w' := by
  obtain ⟨x, c, rfl, h1, h2, h3⟩ := hv
  obtain ⟨y, d, rfl, h4, h5, h6⟩ := hr
  exact (steady_any x _ c zs y _ d rs w h1 h4 (Nat.le_trans h2 h3) (Nat.le_trans h5 h6)).mono fun e w' h => ⟨h.1, h.2.1⟩
theorem stdI (hI : ImplSteady) (v r : Value) (zs : List Int) (rs : List Ru) (w : World) (hv : VecV w v zs) (hr : RusV w r rs) :
    Calls Try.prog 32 #[v, r] w fun e w' => e = .returned (.bool (stdB zs rs)) ∧ Below w.heap.size w w' := by
  obtain ⟨x, c, rfl, h1, h2, h3⟩ := hv
  obtain ⟨y, d, rfl, h4, h5, h6⟩ := hr
  exact hI x _ c zs y _ d rs w h1 h4 h2 h3 h5 h6
theorem rokS (r : Value) (rs : List Ru) (w : World) (hr : RusV w r rs) :
    Calls Try.prog 35 #[r] w fun e w' => e = .returned (.bool (okRs rs)) ∧ Below w.heap.size w w' := by
  obtain ⟨y, d, rfl, h4, h5, h6⟩ := hr
  exact (rulesOk_any y _ d rs w h4 (Nat.le_trans h5 h6)).mono fun e w' h => ⟨h.1, h.2.1⟩
theorem rokI (hI : ImplRulesOk) (r : Value) (rs : List Ru) (w : World) (hr : RusV w r rs) :
    Calls Try.prog 34 #[r] w fun e w' => e = .returned (.bool (okRs rs)) ∧ Below w.heap.size w w' := by
  obtain ⟨y, d, rfl, h4, h5, h6⟩ := hr
  exact hI y _ d rs w h4 h5 h6
theorem likeV (v u : Value) (xs ys : List Int) (w : World) (hv : VecV w v xs) (hu : VecV w u ys) :
    Calls Try.prog 16 #[v, u] w fun e w' => e = .returned (.bool (sameB xs ys)) ∧ Below w.heap.size w w' := by
  obtain ⟨x, c, rfl, h1, h2, h3⟩ := hv
  obtain ⟨y, d, rfl, h4, h5, h6⟩ := hu
  refine (like_any x y _ c _ d xs ys w h1 h4 (Nat.le_trans h2 h3)).mono fun e w' h => ⟨h.1, ?_⟩
  obtain ⟨n, rfl⟩ := h.2
  exact ((Grew.refl w).drewN n).1
theorem undI (v u : Value) (xs ys : List Int) (w : World) (hv : VecV w v xs) (hu : VecV w u ys) :
    Calls Try.prog 19 #[v, u] w fun e w' => e = .returned (.bool (underB xs ys)) ∧ Below w.heap.size w w' := by
  obtain ⟨x, c, rfl, h1, h2, h3⟩ := hv
  obtain ⟨y, d, rfl, h4, h5, h6⟩ := hu
  refine (implUnder_any x y _ c _ d xs ys w h1 h4 h2 h5 h3 h6).mono fun e w' h => ⟨h.1, ?_⟩
  obtain ⟨n, rfl⟩ := h.2
  exact ((Grew.refl w).drewN n).1
theorem okS (v : Value) (xs : List Int) (w : World) (hv : VecV w v xs) :
    Calls Try.prog 26 #[v] w fun e w' => e = .returned (.bool (okB xs)) ∧ Below w.heap.size w w' := by
  obtain ⟨x, c, rfl, h1, h2, h3⟩ := hv
  refine (specOk_any x _ c xs w h1 (Nat.le_trans h2 h3)).mono fun e w' h => ⟨h.1, ?_⟩
  rw [h.2]
  exact Below.refl _ _
theorem joiS (v u : Value) (xs ys : List Int) (w : World) (hv : VecV w v xs) (hu : VecV w u ys) :
    Calls Try.prog 17 #[v, u] w fun e w' => ∃ z, e = .returned z ∧ VecV w' z (pairB max xs ys) ∧ Below w.heap.size w w' := by
  obtain ⟨x, c, rfl, h1, h2, h3⟩ := hv
  obtain ⟨y, d, rfl, h4, h5, h6⟩ := hu
  refine (specJoin_any x y _ c _ d xs ys w h1 h4 (Nat.le_trans h2 h3) (Nat.le_trans h5 h6)).mono ?_
  rintro e w' ⟨g, c', rfl, _, ho, hb⟩
  exact ⟨_, rfl, ⟨_, c', rfl, ho.vec (pairB_fits max max_or xs ys), ho.1, ho.2.1⟩, hb⟩

set_option maxRecDepth 100000 in
set_option maxHeartbeats 800000 in
theorem drawSteady_any (a : Option Addr) (len cap : Nat) (bs : Nat → Int) (w : World) (hv : BVec w a len bs) (hl : len ≤ 4096) :
    Calls Try.prog 30 #[.slice a len cap] w fun e w' => ∃ v r zs rs, e = .returned (.tuple #[v, r]) ∧ VecV w' v zs ∧ RusV w' r rs ∧ Below w.heap.size w w' := by
  go_enter Try.func30, Try.ntmps30
  go_wp2_with fail
  refine (new_any a len cap bs w hv hl).mono ?_
  rintro e w1 ⟨p, rfl, hp, hc1, hb1⟩
  have hv1 := hv.below hb1 (Nat.le_refl _)
  have hoff : OffB a len p := fun hl b off e => by have := hv.inB hl b off e; omega
  have hpl := hc1.lt
  go_wp2_with fail
  refine (drawSettled_any a len cap bs w1 hv1 hl).mono ?_
  rintro e w2 ⟨v, r, zs, rs, rfl, hV, hR, _, _, hb2, hst⟩
  have hv2 := hv1.below hb2 (Nat.le_refl _)
  have hc2 : CurAt w2 p a len cap := by
    obtain ⟨i, x, hi, hh⟩ := hc1
    exact ⟨i, x, hi, (hb2.block p hpl).trans hh⟩
  have B2 : Hid (Below w.heap.size w w2) := hb1.trans (hb2.mono hb1.size)
  have HST : Hid (∀ X q, q < w1.heap.size → w2.grownBy X (some q) → VecV X v zs ∧ RusV X r rs) := hst
  have hB3 := once_any p a len cap bs 2 w2 hc2 hv2 hoff hl (by omega)
  clear hV hR hb2 hv2 hc2 hb1 hv1 hst
  go_wp2_with fail
  refine hB3.mono ?_
  rintro e w3 ⟨x, rfl, hc3, hg3⟩
  have B3 : Hid (Below w.heap.size w w3) := below_cur B2.out hg3 hp
  obtain ⟨hV3, hR3⟩ := HST.out w3 p hpl hg3
  have HV3 : Hid (VecV w3 v zs) := hV3
  have HR3 : Hid (RusV w3 r rs) := hR3
  clear hB3 hc3 hg3
  cases x
  · clear hV3 hR3
    go_wp2
    go_ret2
    exact ⟨v, r, zs, rs, rfl, HV3.out, HR3.out, B3.out⟩
  · have hS := setS v r zs rs w3 hV3 hR3
    clear hV3 hR3
    go_wp2_with fail
    refine hS.mono ?_
    rintro e w4 ⟨u, Z, rfl, hZ, hVZ, hb4⟩
    obtain ⟨y, c, rfl, hy1, hy2, hy3⟩ := hVZ
    have HVZ : Hid (VecV w4 (.slice y Z.length c) Z) := ⟨y, c, rfl, hy1, hy2, hy3⟩
    have B4 : Hid (Below w.heap.size w w4) := B3.out.trans (hb4.mono B3.out.size)
    have HV4 : Hid (VecV w4 v zs) := HV3.out.below hb4
    have HR4 : Hid (RusV w4 r rs) := HR3.out.below hb4
    clear hS hZ hb4 hy1
    by_cases h0 : (0 : Int) < (Z.length : Int)
    · go_wp2
      go_ret2
      exact ⟨_, r, Z, rs, rfl, HVZ.out, HR4.out, B4.out⟩
    · have hd : decide ((0 : Int) < (Z.length : Int)) = false := by simpa using h0
      go_wp2
      go_ret2
      exact ⟨v, r, zs, rs, rfl, HV4.out, HR4.out, B4.out⟩
end Go.Proofs.Ytbgkfiijfocgiaa

/-
  The contract of the specification's DrawFired; Fired as the laws want it.
-/
namespace Go.Proofs.Ytbgkfiijfocgiaa
set_option linter.unusedSimpArgs false
set_option linter.unusedVariables false
open Go.RowKit Go.Sort

theorem firedL_fits (xs : List Int) (r : Ru) : Fits (firedL xs r) := by
  unfold firedL
  split
  · rename_i h
    obtain ⟨h1, h2⟩ := told_iff.1 h
    exact (fire_ok h1 (by rwa [okRs_one] at h2)).fits
  · intro x hx; simp at hx
theorem firS (v : Value) (zs : List Int) (r : Ru) (w : World) (hv : VecV w v zs) :
    Calls Try.prog 38 #[v, ruV r] w fun e w' => ∃ u, e = .returned u ∧ VecV w' u (firedL zs r) ∧ Below w.heap.size w w' := by
  obtain ⟨x, c, rfl, h1, h2, h3⟩ := hv
  refine (fired_any x _ c zs r w h1 (Nat.le_trans h2 h3)).mono ?_
  rintro e w' hA
  exact hA.vecv (firedL_fits zs r)
theorem firI (hI : ImplFired) (v : Value) (zs : List Int) (r : Ru) (w : World) (hv : VecV w v zs) :
    Calls Try.prog 37 #[v, ruV r] w fun e w' => ∃ u, e = .returned u ∧ VecV w' u (firedL zs r) ∧ Below w.heap.size w w' := by
  obtain ⟨x, c, rfl, h1, h2, h3⟩ := hv
  refine (hI x _ c zs r w h1 h2 h3).mono ?_
  rintro e w' hA
  exact hA.vecv (firedL_fits zs r)

/-- The four cells of a rule's block are written. -/
def set4 (w : World) (b : Nat) (r : Ru) : World := (((w.setCell ⟨b, 0, none⟩ (.int .i64 r.to)).setCell ⟨b, 1, none⟩ (.int .i64 r.fr)).setCell ⟨b, 2, none⟩ (.int .i64 r.pl)).setCell ⟨b, 3, none⟩ (.int .i64 r.mo)
theorem set4_grown (w : World) (b : Nat) (r : Ru) : w.grownBy (set4 w b r) (some b) := grown_set (grown_set (grown_set (grown_set (grown_refl w _) 0 _) 1 _) 2 _) 3 _

set_option maxRecDepth 100000 in
set_option maxHeartbeats 1600000 in
theorem drawFired_any (a : Option Addr) (len cap : Nat) (bs : Nat → Int) (w : World) (hv : BVec w a len bs) (hl : len ≤ 4096) :
    Calls Try.prog 36 #[.slice a len cap] w fun e w' => ∃ v zs r, e = .returned (.tuple #[v, ruV r]) ∧ VecV w' v zs ∧ Below w.heap.size w w' := by
  have G0 : Grew w (w.alloc (.cells #[.int .i64 0, .int .i64 0, .int .i64 0, .int .i64 0] 40)) := (Grew.refl _).alloc _
  have hH0 := heap_alloc_new w (.cells #[.int .i64 0, .int .i64 0, .int .i64 0, .int .i64 0] 40)
  have hs0 : (w.alloc (.cells #[.int .i64 0, .int .i64 0, .int .i64 0, .int .i64 0] 40)).heap.size = w.heap.size + 1 := by simp
  have hv0 := hv.below G0.1 (Nat.le_refl _)
  have hN := new_any a len cap bs _ hv0 hl
  generalize hW0 : w.alloc (.cells #[.int .i64 0, .int .i64 0, .int .i64 0, .int .i64 0] 40) = W0 at *
  go_enter Try.func36, Try.ntmps36
  go_wp2_with fail
  refine hN.mono ?_
  rintro e w1 ⟨p, rfl, hp, hc1, hb1⟩
  have hv1 := hv0.below hb1 (Nat.le_refl _)
  have hoff : OffB a len p := fun hl b off e => by have := hv0.inB hl b off e; omega
  have hpl := hc1.lt
  clear hN
  go_wp2_with fail
  refine (drawV8_any p a len cap bs w1 hc1 hv1 hoff hl).mono ?_
  rintro e w2 ⟨v, zs, rfl, hD⟩
  have hB2 := drawR_any p a len cap bs w2 hD.cur (hv1.grown hD.grown hoff) hoff hl
  go_wp2_with fail
  refine hB2.mono ?_
  rintro e w3 ⟨r, rs, rfl, hR⟩
  have hg3 : w2.grownBy w3 (some p) := by obtain ⟨_, _, _, _, _, _, _, _, _, _, _, h⟩ := hR; exact h
  have hb13 : Below W0.heap.size W0 w3 := below_cur (below_cur hb1 hD.grown hp) hg3 hp
  have hH3 : w3.heap[w.heap.size]? = some (.cells #[.int .i64 0, .int .i64 0, .int .i64 0, .int .i64 0] 40) := (hb13.block w.heap.size (by omega)).trans hH0
  have d0 : w3.cell? ⟨w.heap.size, 0, none⟩ = some (.int .i64 0) := by simp only [World.cell?, hH3]; rfl
  have d1 : w3.cell? ⟨w.heap.size, 1, none⟩ = some (.int .i64 0) := by simp only [World.cell?, hH3]; rfl
  have d2 : w3.cell? ⟨w.heap.size, 2, none⟩ = some (.int .i64 0) := by simp only [World.cell?, hH3]; rfl
  have d3 : w3.cell? ⟨w.heap.size, 3, none⟩ = some (.int .i64 0) := by simp only [World.cell?, hH3]; rfl
  have f0 : w3.frozen? ⟨w.heap.size, 0, none⟩ = false := by simp only [World.frozen?, hH3]; simp
  have f1 : w3.frozen? ⟨w.heap.size, 1, none⟩ = false := by simp only [World.frozen?, hH3]; simp
  have f2 : w3.frozen? ⟨w.heap.size, 2, none⟩ = false := by simp only [World.frozen?, hH3]; simp
  have f3 : w3.frozen? ⟨w.heap.size, 3, none⟩ = false := by simp only [World.frozen?, hH3]; simp
  have hB3 : Below w.heap.size w w3 := G0.1.trans (hb13.mono (by omega))
  have hs1 := hb1.size
  have F : Hid (∀ q : Ru, VecV (set4 w3 w.heap.size q) v zs ∧ Below w.heap.size w (set4 w3 w.heap.size q)) := fun q => ⟨(hD.keep hpl hg3).2 _ w.heap.size (by omega) (set4_grown _ _ _), below_grown6 hB3 (set4_grown _ _ _) (Nat.le_refl _) hB3.size⟩
  obtain ⟨g, og, cg, rfl, hRS, hrc, hrm, hgn, hgl, _, _, _⟩ := hR
  unfold maxLen at hrm
  have hs2 := hD.grown.size
  have hgne : ¬ g = w.heap.size := by omega
  have hgne' : ¬ w.heap.size = g := by omega
  unfold set4 at F
  clear hD hB2 hg3 hb13 hH3 hB3 hv0 hv1 hH0
  cases rs with
  | nil =>
    have F1 : Hid _ := F.out ⟨1, 2, 3, 9⟩
    go_wp2
    refine bodyPost_ret (v := .tuple #[v, .agg #[.int .i64 1, .int .i64 2, .int .i64 3, .int .i64 9]]) (by simp [results, Try.results36, go_sem, *]) rfl ?_
    exact ⟨v, zs, ⟨1, 2, 3, 9⟩, rfl, F1.out⟩
  | cons q qs =>
    rcases hRS.2 with h0 | ⟨b', off', hbe, hcells⟩
    · simp at h0
    · simp only [Option.some.injEq, Addr.mk.injEq, and_true] at hbe
      obtain ⟨rfl, rfl⟩ := hbe
      obtain ⟨c0, c1, c2, c3⟩ := hcells 0 (by simp)
      have hq : ruAt (q :: qs) 0 = q := rfl
      rw [hq] at c0 c1 c2 c3
      simp only [Nat.zero_mul, Nat.add_zero] at c0 c1 c2 c3
      have F1 : Hid _ := F.out q
      have hlen : (0 : Int) < ((q :: qs).length : Int) := by rw [List.length_cons]; omega
      have hln : (((q :: qs).length : Int) == 0) = false := by simp; omega
      generalize (q :: qs).length = n at *
      clear hcells hRS hq
      go_wp2_with fail
      go_region
      all_goals
        go_wp2
        refine bodyPost_ret (v := .tuple #[v, .agg #[.int .i64 q.to, .int .i64 q.fr, .int .i64 q.pl, .int .i64 q.mo]]) (by simp [results, Try.results36, go_sem, *]) rfl ?_
        exact ⟨v, zs, q, rfl, F1.out.1.below ⟨rfl, rfl, rfl, Nat.le_refl _, fun _ _ => rfl⟩, ⟨F1.out.2.os, F1.out.2.tape, F1.out.2.output, F1.out.2.size, F1.out.2.block⟩⟩
end Go.Proofs.Ytbgkfiijfocgiaa
