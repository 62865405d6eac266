/-
  Several texts in one: Lwi Lws.
-/
import Derived.Test.YtkompamocpnefaaIj
import Derived.Deep.RegionHeld3
/-
  What the program's WindowOk, Open, Sent and Acked answer, and the walks of the exact laws of the first two FROM that.
-/
namespace Go.Proofs.Ytkompamocpnefaa
set_option linter.unusedVariables false
set_option linter.unusedSimpArgs false
open Go.RowKit Go.Sort

/-- A number of 64 bits. -/
def I64w (x : Int) : Prop := -9223372036854775808 ≤ x ∧ x ≤ 9223372036854775807
def ImplWindowOk : Prop := ∀ (sz st : Int) (a : Option Addr) (len cap : Nat) (xs : List Int) (w : World), I64w sz → I64w st → Vec w a len xs → len ≤ cap → cap ≤ maxLen → Calls Try.prog 33 #[wiV sz st a len cap] w fun e w' => e = .returned (.bool (wokB sz st xs)) ∧ Below w.heap.size w w'
def ImplOpen : Prop := ∀ (sz st : Int) (a : Option Addr) (len cap : Nat) (xs : List Int) (w : World), I64w sz → I64w st → Vec w a len xs → len ≤ cap → cap ≤ maxLen → Calls Try.prog 35 #[wiV sz st a len cap] w fun e w' => e = .returned (.bool (opnB sz st xs)) ∧ Below w.heap.size w w'
def ImplSent : Prop := ∀ (sz st : Int) (a : Option Addr) (len cap : Nat) (xs : List Int) (w : World), I64w sz → I64w st → Vec w a len xs → len ≤ cap → cap ≤ maxLen → Calls Try.prog 28 #[wiV sz st a len cap] w fun e w' => AnsW w w' e (sentL sz st xs)
def ImplAcked : Prop := ∀ (sz st : Int) (a : Option Addr) (len cap : Nat) (xs : List Int) (who n : Int) (w : World), I64w sz → I64w st → I64w who → I64w n → Vec w a len xs → len ≤ cap → cap ≤ maxLen → Calls Try.prog 30 #[wiV sz st a len cap, .int .i64 who, .int .i64 n] w fun e w' => AnsW w w' e (ackL sz st xs who n)
/-- The three cells of a window. -/
def W3c (w : World) (B : Nat) (sz st : Int) (v : Value) : Prop := w.cell? ⟨B, 0, none⟩ = some (.int .i64 sz) ∧ w.cell? ⟨B, 1, none⟩ = some (.int .i64 st) ∧ w.cell? ⟨B, 2, none⟩ = some v
theorem Bx.w3 {w : World} {B : Nat} {T : TypeId} {sz st : Int} {v : Value} (h : Bx w B T #[.int .i64 sz, .int .i64 st, v]) : W3c w B sz st v := ⟨h.at 0 rfl, h.at 1 rfl, h.at 2 rfl⟩

set_option maxRecDepth 100000 in
set_option maxHeartbeats 1600000 in
theorem lawWindowOk (hI : ImplWindowOk) (sz st : Int) (a : Option Addr) (len cap : Nat) (xs : List Int) (w : World) (hsz : I64w sz) (hst : I64w st) (hv : Vec w a len xs) (hcap : len ≤ cap) (hm : cap ≤ maxLen) :
    Calls Try.prog 5 #[wiV sz st a len cap] w fun e w' => e = .returned (.bool true) ∧ Below w.heap.size w w' := by
  have hl : len ≤ maxLen := Nat.le_trans hcap hm
  have hf : Fits xs := hv.2.1
  have hlen := hv.1
  subst hlen
  have hP := Bx.new w 43 #[.int .i64 sz, .int .i64 st, .slice a xs.length cap]
  have hB0 := one_alloc w (.cells #[.int .i64 sz, .int .i64 st, .slice a xs.length cap] 43)
  generalize hW0 : w.alloc (.cells #[.int .i64 sz, .int .i64 st, .slice a xs.length cap] 43) = W0 at *
  have hZ := szW_any sz st a xs.length cap W0 hl
  obtain ⟨p0, p1, p2⟩ := hP.w3
  by_cases hsm : (xs.length : Int) ≤ 1048576
  · rw [if_pos hsm] at hZ
    have hpos : decide ((1048576 : Int) - (xs.length : Int) < 0) = false := by simp; omega
    have hlim : xs.length ≤ 17592186044416 := by omega
    have ne : (wokB sz st xs != wokB sz st xs) = false := by simp
    have hvX : ∀ X, Below w.heap.size w X → Vec X a xs.length xs := fun X hX => hv.below hX (Nat.le_refl _)
    unfold wiV at *
    go_enter Try.func5, Try.ntmps5
    go_wp2_with fail
    refine hZ.mono ?_
    rintro e w1 ⟨rfl, hb1⟩
    have B1 : Below w.heap.size w w1 := hB0.trans (hb1.mono hB0.size)
    have P1 := hP.below hb1
    obtain ⟨q0, q1, q2⟩ := P1.w3
    go_wp2_with fail
    refine (toW_any sz st a xs.length cap xs w1 (hvX _ B1) hlim).mono ?_
    rintro e w2 ⟨b1, rfl, hlt1, hr1, hb2⟩
    have B2 : Below w.heap.size w w2 := B1.trans (hb2.mono B1.size)
    have P2 := P1.below hb2
    unfold wiV
    go_wp2_with fail
    refine (winS_any sz st _ _ _ xs w2 (hr1.vec hf) hl).mono ?_
    rintro e w3 ⟨rfl, hg3⟩
    have B3 : Below w.heap.size w w3 := B2.trans (hg3.1.mono B2.size)
    have P3 := P2.below hg3.1
    clear q0 q1 q2
    obtain ⟨q0, q1, q2⟩ := P3.w3
    go_wp2_with fail
    refine (toW_any sz st a xs.length cap xs w3 (hvX _ B3) hlim).mono ?_
    rintro e w4 ⟨b, rfl, hlt4, hr4, hb4⟩
    have B4 : Below w.heap.size w w4 := B3.trans (hb4.mono B3.size)
    have P4 := P3.below hb4
    have hb5 := one_alloc w4 (.cells #[.int .i64 sz, .int .i64 st, .slice (some ⟨b, 0, none⟩) xs.length xs.length] 34)
    have X5 := Bx.new w4 34 #[.int .i64 sz, .int .i64 st, .slice (some ⟨b, 0, none⟩) xs.length xs.length]
    have hr5 := hr4.below hb5 hr4.lt
    generalize hW5 : w4.alloc (.cells #[.int .i64 sz, .int .i64 st, .slice (some ⟨b, 0, none⟩) xs.length xs.length] 34) = W5 at *
    have B5 : Below w.heap.size w W5 := B4.trans (hb5.mono B4.size)
    have P5 := P4.below hb5
    obtain ⟨x0, x1, x2⟩ := X5.w3
    unfold wiV
    go_wp2_with fail
    refine (hI sz st _ _ _ xs W5 hsz hst (hr5.vec hf) (Nat.le_refl _) hl).mono ?_
    rintro e w6 ⟨rfl, hb6⟩
    have B6 : Below w.heap.size w w6 := B5.trans (hb6.mono B5.size)
    have P6 := P5.below hb6
    have X6 := X5.below hb6
    have hr6 := hr5.below hb6 hr5.lt
    have hk4 : w4.heap.size < w6.heap.size := X6.lt
    have KS : ∀ X, Below w6.heap.size w6 X → W3c X w.heap.size sz st (.slice a xs.length cap) ∧ W3c X w4.heap.size sz st (.slice (some ⟨b, 0, none⟩) xs.length xs.length) := fun X hX => ⟨(P6.below hX).w3, (X6.below hX).w3⟩
    clear x0 x1 x2 q0 q1 q2 p0 p1 p2 hr1 hr4 hr5
    unfold W3c at KS
    have bd : Below w6.heap.size w6 (w6.drewN 1) := belowN (Below.refl _ _)
    have hTo := fun X (h : Below w6.heap.size w6 X) => toW_any sz st a xs.length cap xs X (hvX _ (B6.trans (h.mono B6.size))) hlim
    have hEq := fun X (b7 : Nat) (h : Below w6.heap.size w6 X) (h7 : RowOf X b7 xs) => eqW_any sz st (some ⟨b, 0, none⟩) (some ⟨b7, 0, none⟩) xs.length xs.length xs.length xs X ((hr6.below h hr6.lt).vec hf) (h7.vec hf) hl
    unfold wiV at *
    have hmix := mixedW
    generalize wokB sz st xs = R at *
    go_wp2_with fail
    go_region_held3 (fun X => (X.cell? ⟨w.heap.size, 0, none⟩ = some (.int .i64 sz) ∧ X.cell? ⟨w.heap.size, 1, none⟩ = some (.int .i64 st) ∧ X.cell? ⟨w.heap.size, 2, none⟩ = some (.slice a xs.length cap)) ∧ X.cell? ⟨w4.heap.size, 0, none⟩ = some (.int .i64 sz) ∧ X.cell? ⟨w4.heap.size, 1, none⟩ = some (.int .i64 st) ∧ X.cell? ⟨w4.heap.size, 2, none⟩ = some (.slice (some ⟨b, 0, none⟩) xs.length xs.length))
      (first
        | exact KS _ b8
        | exact KS _ b7b
        | exact KS _ bd)
      (first
        | (go_at_call 39; refine (hTo _ bd).mono ?_; rintro e w7 ⟨b7, rfl, hlt7, hr7, hb7⟩; have b7b : Below w6.heap.size w6 w7 := bd.trans (hb7.mono bd.size))
        | (go_at_call 40; refine (hEq w7 b7 b7b hr7).mono ?_; rintro e w8 ⟨rfl, hb8⟩; have b8 : Below w6.heap.size w6 w8 := b7b.trans (hb8.mono b7b.size)))
    have HB : Hid (Below w.heap.size w w8) := B6.trans (b8.mono B6.size)
    go_wp2
    go_ret
    exact ⟨rfl, HB.out⟩
  · rw [if_neg hsm] at hZ
    unfold wiV at *
    go_enter Try.func5, Try.ntmps5
    go_wp2_with (go_at_call 38; refine hZ.mono ?_; rintro e w1 ⟨rfl, hb1⟩)
    go_ret
    exact ⟨rfl, hB0.trans (hb1.mono hB0.size)⟩

set_option maxRecDepth 100000 in
set_option maxHeartbeats 1600000 in
theorem lawOpen (hI : ImplOpen) (sz st : Int) (a : Option Addr) (len cap : Nat) (xs : List Int) (w : World) (hsz : I64w sz) (hst : I64w st) (hv : Vec w a len xs) (hcap : len ≤ cap) (hm : cap ≤ maxLen) :
    Calls Try.prog 6 #[wiV sz st a len cap] w fun e w' => e = .returned (.bool true) ∧ Below w.heap.size w w' := by
  have hl : len ≤ maxLen := Nat.le_trans hcap hm
  have hf : Fits xs := hv.2.1
  have hlen := hv.1
  subst hlen
  have hP := Bx.new w 43 #[.int .i64 sz, .int .i64 st, .slice a xs.length cap]
  have hB0 := one_alloc w (.cells #[.int .i64 sz, .int .i64 st, .slice a xs.length cap] 43)
  generalize hW0 : w.alloc (.cells #[.int .i64 sz, .int .i64 st, .slice a xs.length cap] 43) = W0 at *
  have hZ := szW_any sz st a xs.length cap W0 hl
  obtain ⟨p0, p1, p2⟩ := hP.w3
  by_cases hsm : (xs.length : Int) ≤ 1048576
  · rw [if_pos hsm] at hZ
    have hpos : decide ((1048576 : Int) - (xs.length : Int) < 0) = false := by simp; omega
    have hlim : xs.length ≤ 17592186044416 := by omega
    have ne : (opnB sz st xs != opnB sz st xs) = false := by simp
    have hvX : ∀ X, Below w.heap.size w X → Vec X a xs.length xs := fun X hX => hv.below hX (Nat.le_refl _)
    unfold wiV at *
    go_enter Try.func6, Try.ntmps6
    go_wp2_with fail
    refine hZ.mono ?_
    rintro e w1 ⟨rfl, hb1⟩
    have B1 : Below w.heap.size w w1 := hB0.trans (hb1.mono hB0.size)
    have P1 := hP.below hb1
    obtain ⟨q0, q1, q2⟩ := P1.w3
    go_wp2_with fail
    refine (toW_any sz st a xs.length cap xs w1 (hvX _ B1) hlim).mono ?_
    rintro e w2 ⟨b1, rfl, hlt1, hr1, hb2⟩
    have B2 : Below w.heap.size w w2 := B1.trans (hb2.mono B1.size)
    have P2 := P1.below hb2
    unfold wiV
    go_wp2_with fail
    refine (opnS_any sz st _ _ _ xs w2 (hr1.vec hf) hl).mono ?_
    rintro e w3 ⟨rfl, hg3⟩
    have B3 : Below w.heap.size w w3 := B2.trans (hg3.1.mono B2.size)
    have P3 := P2.below hg3.1
    clear q0 q1 q2
    obtain ⟨q0, q1, q2⟩ := P3.w3
    go_wp2_with fail
    refine (toW_any sz st a xs.length cap xs w3 (hvX _ B3) hlim).mono ?_
    rintro e w4 ⟨b, rfl, hlt4, hr4, hb4⟩
    have B4 : Below w.heap.size w w4 := B3.trans (hb4.mono B3.size)
    have P4 := P3.below hb4
    have hb5 := one_alloc w4 (.cells #[.int .i64 sz, .int .i64 st, .slice (some ⟨b, 0, none⟩) xs.length xs.length] 34)
    have X5 := Bx.new w4 34 #[.int .i64 sz, .int .i64 st, .slice (some ⟨b, 0, none⟩) xs.length xs.length]
    have hr5 := hr4.below hb5 hr4.lt
    generalize hW5 : w4.alloc (.cells #[.int .i64 sz, .int .i64 st, .slice (some ⟨b, 0, none⟩) xs.length xs.length] 34) = W5 at *
    have B5 : Below w.heap.size w W5 := B4.trans (hb5.mono B4.size)
    have P5 := P4.below hb5
    obtain ⟨x0, x1, x2⟩ := X5.w3
    unfold wiV
    go_wp2_with fail
    refine (hI sz st _ _ _ xs W5 hsz hst (hr5.vec hf) (Nat.le_refl _) hl).mono ?_
    rintro e w6 ⟨rfl, hb6⟩
    have B6 : Below w.heap.size w w6 := B5.trans (hb6.mono B5.size)
    have P6 := P5.below hb6
    have X6 := X5.below hb6
    have hr6 := hr5.below hb6 hr5.lt
    have hk4 : w4.heap.size < w6.heap.size := X6.lt
    have KS : ∀ X, Below w6.heap.size w6 X → W3c X w.heap.size sz st (.slice a xs.length cap) ∧ W3c X w4.heap.size sz st (.slice (some ⟨b, 0, none⟩) xs.length xs.length) := fun X hX => ⟨(P6.below hX).w3, (X6.below hX).w3⟩
    clear x0 x1 x2 q0 q1 q2 p0 p1 p2 hr1 hr4 hr5
    unfold W3c at KS
    have bd : Below w6.heap.size w6 (w6.drewN 1) := belowN (Below.refl _ _)
    have hTo := fun X (h : Below w6.heap.size w6 X) => toW_any sz st a xs.length cap xs X (hvX _ (B6.trans (h.mono B6.size))) hlim
    have hEq := fun X (b7 : Nat) (h : Below w6.heap.size w6 X) (h7 : RowOf X b7 xs) => eqW_any sz st (some ⟨b, 0, none⟩) (some ⟨b7, 0, none⟩) xs.length xs.length xs.length xs X ((hr6.below h hr6.lt).vec hf) (h7.vec hf) hl
    unfold wiV at *
    have hmix := mixedW
    generalize opnB sz st xs = R at *
    go_wp2_with fail
    go_region_held3 (fun X => (X.cell? ⟨w.heap.size, 0, none⟩ = some (.int .i64 sz) ∧ X.cell? ⟨w.heap.size, 1, none⟩ = some (.int .i64 st) ∧ X.cell? ⟨w.heap.size, 2, none⟩ = some (.slice a xs.length cap)) ∧ X.cell? ⟨w4.heap.size, 0, none⟩ = some (.int .i64 sz) ∧ X.cell? ⟨w4.heap.size, 1, none⟩ = some (.int .i64 st) ∧ X.cell? ⟨w4.heap.size, 2, none⟩ = some (.slice (some ⟨b, 0, none⟩) xs.length xs.length))
      (first
        | exact KS _ b8
        | exact KS _ b7b
        | exact KS _ bd)
      (first
        | (go_at_call 39; refine (hTo _ bd).mono ?_; rintro e w7 ⟨b7, rfl, hlt7, hr7, hb7⟩; have b7b : Below w6.heap.size w6 w7 := bd.trans (hb7.mono bd.size))
        | (go_at_call 40; refine (hEq w7 b7 b7b hr7).mono ?_; rintro e w8 ⟨rfl, hb8⟩; have b8 : Below w6.heap.size w6 w8 := b7b.trans (hb8.mono b7b.size)))
    have HB : Hid (Below w.heap.size w w8) := B6.trans (b8.mono B6.size)
    go_wp2
    go_ret
    exact ⟨rfl, HB.out⟩
  · rw [if_neg hsm] at hZ
    unfold wiV at *
    go_enter Try.func6, Try.ntmps6
    go_wp2_with (go_at_call 38; refine hZ.mono ?_; rintro e w1 ⟨rfl, hb1⟩)
    go_ret
    exact ⟨rfl, hB0.trans (hb1.mono hB0.size)⟩
end Go.Proofs.Ytkompamocpnefaa

/-
  The walks of the exact laws of Sent and Acked FROM what the program answers.
-/
namespace Go.Proofs.Ytkompamocpnefaa
set_option linter.unusedVariables false
set_option linter.unusedSimpArgs false
open Go.RowKit Go.Sort

/-- The slice of an answer lies above a bound. -/
def Abv (B : Nat) (a : Option Addr) (Z : List Int) : Prop := ∀ k off, Z ≠ [] → a = some ⟨k, off, none⟩ → B ≤ k
theorem SlN.slc {w w' : World} {a : Option Addr} {c : Nat} {Z : List Int} (h : SlN w w' a c Z) : SlC w' a c Z := by
  rcases h with h | ⟨g, off, rfl, _, ho⟩
  · exact .inl h
  · exact .inr ⟨g, off, rfl, ho⟩
theorem SlN.abv {w w' : World} {a : Option Addr} {c : Nat} {Z : List Int} (h : SlN w w' a c Z) : Abv w.heap.size a Z := by
  intro k off hz e
  rcases h with h | ⟨g, off', e2, hg, _⟩
  · exact absurd h.1 hz
  · rw [e] at e2
    simp only [Option.some.injEq, Addr.mk.injEq] at e2
    omega
theorem SlC.blt {w : World} {a : Option Addr} {c : Nat} {Z : List Int} (h : SlC w a c Z) : ∀ k off, Z ≠ [] → a = some ⟨k, off, none⟩ → k < w.heap.size := by
  intro k off hz e
  rcases h with h | ⟨g, off', e2, ho⟩
  · exact absurd h.1 hz
  · rw [e] at e2
    simp only [Option.some.injEq, Addr.mk.injEq] at e2
    have := ho.blk
    omega
theorem okB_fits {xs : List Int} (h : okB xs = true) : Fits xs := fun x hx => by
  obtain ⟨i, hi, rfl⟩ := List.getElem_of_mem hx
  have := okB_el h hi
  rw [el_eq hi] at this
  omega
theorem sentL_fits (sz st : Int) (xs : List Int) : Fits (sentL sz st xs).xs ∧ (sentL sz st xs).xs.length ≤ 8 := by
  cases hb : wokB sz st xs with
  | false => rw [sentL_no hb]; exact ⟨fun x hx => absurd hx (List.not_mem_nil), Nat.zero_le _⟩
  | true =>
    have hok := (wokB_iff.1 hb).2.2.1
    have h8 := (okB_len hok).2
    cases ho : op1B sz st xs with
    | false => rw [sentL_full hb ho]; exact ⟨okB_fits hok, h8⟩
    | true => rw [sentL_ok hb ho]; exact ⟨okB_fits hok, h8⟩
theorem ackL_fits (sz st : Int) (xs : List Int) (who n : Int) (hn : I64w n) : Fits (ackL sz st xs who n).xs ∧ (ackL sz st xs who n).xs.length ≤ 8 := by
  cases hb : wokB sz st xs with
  | false => rw [ackL_no hb]; exact ⟨fun x hx => absurd hx (List.not_mem_nil), Nat.zero_le _⟩
  | true =>
    have hok := (wokB_iff.1 hb).2.2.1
    have h8 := (okB_len hok).2
    cases ho : ackB st xs who n with
    | false => rw [ackL_not hb ho]; exact ⟨okB_fits hok, h8⟩
    | true =>
      rw [ackL_ok hb ho]
      refine ⟨fun x hx => ?_, by simpa using h8⟩
      rcases List.mem_or_eq_of_mem_set hx with h | h
      · exact okB_fits hok x h
      · rw [h]; exact hn

/-- What the laws of Sent and Acked hold as the world goes on: the argument's box, what is wanted, the first argument, what was got. -/
structure Tw (w cur : World) (sz st : Int) (a : Option Addr) (cap : Nat) (xs : List Int) (R : Aw) (bw : Nat) (aw : Option Addr) (cw bx b bg : Nat) (ag : Option Addr) (cg : Nat) (X G : List Int) : Prop where
  below : Below w.heap.size w cur
  par : Bx cur w.heap.size 43 #[.int .i64 sz, .int .i64 st, .slice a xs.length cap]
  wb : Bx cur bw 34 #[.int .i64 R.sz, .int .i64 R.st, .slice aw R.xs.length cw]
  want : SlC cur aw cw R.xs
  xb : Bx cur bx 34 #[.int .i64 sz, .int .i64 st, .slice (some ⟨b, 0, none⟩) xs.length xs.length]
  x0 : SlC cur (some ⟨b, 0, none⟩) xs.length X
  gb : Bx cur bg 34 #[.int .i64 R.sz, .int .i64 R.st, .slice ag R.xs.length cg]
  got : SlC cur ag cg G
theorem Tw.step {w cur next : World} {sz st : Int} {a : Option Addr} {cap : Nat} {xs : List Int} {R : Aw} {bw : Nat} {aw : Option Addr} {cw bx b bg : Nat} {ag : Option Addr} {cg : Nat} {X G : List Int}
    (h : Tw w cur sz st a cap xs R bw aw cw bx b bg ag cg X G) (hb : Below cur.heap.size cur next) : Tw w next sz st a cap xs R bw aw cw bx b bg ag cg X G :=
  ⟨h.below.trans (hb.mono h.below.size), h.par.below hb, h.wb.below hb, h.want.below hb, h.xb.below hb, h.x0.below hb, h.gb.below hb, h.got.below hb⟩
/-- The cells that the walks read. -/
theorem Tw.cells {w cur : World} {sz st : Int} {a : Option Addr} {cap : Nat} {xs : List Int} {R : Aw} {bw : Nat} {aw : Option Addr} {cw bx b bg : Nat} {ag : Option Addr} {cg : Nat} {X G : List Int}
    (h : Tw w cur sz st a cap xs R bw aw cw bx b bg ag cg X G) : W3c cur w.heap.size sz st (.slice a xs.length cap) ∧ W3c cur bw R.sz R.st (.slice aw R.xs.length cw) ∧ W3c cur bx sz st (.slice (some ⟨b, 0, none⟩) xs.length xs.length) ∧ W3c cur bg R.sz R.st (.slice ag R.xs.length cg) :=
  ⟨h.par.w3, h.wb.w3, h.xb.w3, h.gb.w3⟩
/-- The first argument is marked. -/
theorem Tw.markX {w cur next : World} {sz st : Int} {a : Option Addr} {cap : Nat} {xs : List Int} {R : Aw} {bw : Nat} {aw : Option Addr} {cw bx b bg : Nat} {ag : Option Addr} {cg : Nat} {X G Y : List Int}
    (h : Tw w cur sz st a cap xs R bw aw cw bx b bg ag cg X G) (hw : Wr cur next (some ⟨b, 0, none⟩) X) (hx : SlC next (some ⟨b, 0, none⟩) xs.length Y) (c1 : w.heap.size < b) (c2 : bw ≠ b) (c3 : bx ≠ b) (c4 : bg ≠ b)
    (c5 : ∀ k off, R.xs ≠ [] → aw = some ⟨k, off, none⟩ → k ≠ b) (c6 : ∀ k off, G ≠ [] → ag = some ⟨k, off, none⟩ → k ≠ b) : Tw w next sz st a cap xs R bw aw cw bx b bg ag cg Y G := by
  have e : ∀ k off, X ≠ [] → (some (⟨b, 0, none⟩ : Addr)) = some ⟨k, off, none⟩ → k = b := fun k off _ e => by
    simp only [Option.some.injEq, Addr.mk.injEq] at e
    omega
  exact ⟨hw.below h.below h.below.size (fun k off hz ha => by have := e k off hz ha; omega), hw.bx h.par (fun k off hz ha => by have := e k off hz ha; omega), hw.bx h.wb (fun k off hz ha => by have := e k off hz ha; omega),
    hw.slc h.want (fun k off off2 hz hy ha h2 => c5 k off2 hy h2 (e k off hz ha)), hw.bx h.xb (fun k off hz ha => by have := e k off hz ha; omega), hx, hw.bx h.gb (fun k off hz ha => by have := e k off hz ha; omega),
    hw.slc h.got (fun k off off2 hz hy ha h2 => c6 k off2 hy h2 (e k off hz ha))⟩
/-- What was got is marked. -/
theorem Tw.markG {w cur next : World} {sz st : Int} {a : Option Addr} {cap : Nat} {xs : List Int} {R : Aw} {bw : Nat} {aw : Option Addr} {cw bx b bg : Nat} {ag : Option Addr} {cg : Nat} {X G Y : List Int}
    (h : Tw w cur sz st a cap xs R bw aw cw bx b bg ag cg X G) (hw : Wr cur next ag G) (hx : SlC next ag cg Y)
    (c : ∀ k off, G ≠ [] → ag = some ⟨k, off, none⟩ → w.heap.size < k ∧ k ≠ bw ∧ k ≠ bx ∧ k ≠ bg ∧ k ≠ b ∧ ∀ off2, R.xs ≠ [] → aw ≠ some ⟨k, off2, none⟩) : Tw w next sz st a cap xs R bw aw cw bx b bg ag cg X Y := by
  exact ⟨hw.below h.below h.below.size (fun k off hz ha => by have := (c k off hz ha).1; omega), hw.bx h.par (fun k off hz ha => by have := (c k off hz ha).1; omega), hw.bx h.wb (fun k off hz ha => (c k off hz ha).2.1),
    hw.slc h.want (fun k off off2 hz hy ha h2 => (c k off hz ha).2.2.2.2.2 off2 hy h2), hw.bx h.xb (fun k off hz ha => (c k off hz ha).2.2.1), hw.slc h.x0 (fun k off off2 hz hy ha h2 => (c k off hz ha).2.2.2.2.1 (by simp only [Option.some.injEq, Addr.mk.injEq] at h2; omega)), hw.bx h.gb (fun k off hz ha => (c k off hz ha).2.2.2.1), hx⟩

set_option maxRecDepth 100000 in
set_option maxHeartbeats 3200000 in
theorem lawSent (hI : ImplSent) (sz st : Int) (a : Option Addr) (len cap : Nat) (xs : List Int) (w : World) (hsz : I64w sz) (hst : I64w st) (hv : Vec w a len xs) (hcap : len ≤ cap) (hm : cap ≤ maxLen) :
    Calls Try.prog 7 #[wiV sz st a len cap] w fun e w' => e = .returned (.bool true) ∧ Below w.heap.size w w' := by
  have hl : len ≤ maxLen := Nat.le_trans hcap hm
  have hf : Fits xs := hv.2.1
  have hlen := hv.1
  subst hlen
  have hP := Bx.new w 43 #[.int .i64 sz, .int .i64 st, .slice a xs.length cap]
  have hB0 := one_alloc w (.cells #[.int .i64 sz, .int .i64 st, .slice a xs.length cap] 43)
  generalize hW0 : w.alloc (.cells #[.int .i64 sz, .int .i64 st, .slice a xs.length cap] 43) = W0 at *
  have hZ := szW_any sz st a xs.length cap W0 hl
  obtain ⟨p0, p1, p2⟩ := hP.w3
  by_cases hsm : (xs.length : Int) ≤ 1048576
  · rw [if_pos hsm] at hZ
    have hpos : decide ((1048576 : Int) - (xs.length : Int) < 0) = false := by simp; omega
    have hlim : xs.length ≤ 17592186044416 := by omega
    have hn20 : xs.length ≤ 10000000 := by omega
    obtain ⟨hfR, h8R⟩ := sentL_fits sz st xs
    have hvX : ∀ X, Below w.heap.size w X → Vec X a xs.length xs := fun X hX => hv.below hX (Nat.le_refl _)
    have hTo : ∀ X, Below w.heap.size w X → Calls Try.prog 39 #[wiV sz st a xs.length cap] X fun e w' => ∃ b, e = .returned (wiV sz st (some ⟨b, 0, none⟩) xs.length xs.length) ∧ X.heap.size ≤ b ∧ RowOf w' b xs ∧ Below X.heap.size X w' := fun X hX => toW_any sz st a xs.length cap xs X (hvX X hX) hlim
    have hSp : ∀ X b, RowOf X b xs → Calls Try.prog 31 #[wiV sz st (some ⟨b, 0, none⟩) xs.length xs.length] X fun e w' => AnsW X w' e (sentL sz st xs) := fun X b h => sentS_any sz st _ _ _ xs X (h.vec hf) hl
    have hIm : ∀ X b, RowOf X b xs → Calls Try.prog 28 #[wiV sz st (some ⟨b, 0, none⟩) xs.length xs.length] X fun e w' => AnsW X w' e (sentL sz st xs) := fun X b h => hI sz st _ _ _ xs X hsz hst (h.vec hf) (Nat.le_refl _) hl
    clear hI hv
    generalize hR : sentL sz st xs = R at *
    obtain ⟨Rz, Rt, Z, ok⟩ := R
    clear hR
    simp only [] at hfR h8R
    have hok : (ok != ok) = false := by cases ok <;> rfl
    have hn8 : Z.length ≤ 10000000 := by omega
    have hmZ : Z.length ≤ maxLen := by unfold maxLen; omega
    unfold AnsW at hSp hIm
    unfold wiV at *
    simp only [] at hSp hIm
    go_enter Try.func7, Try.ntmps7
    go_wp2_with fail
    refine hZ.mono ?_
    rintro e w1 ⟨rfl, hb1⟩
    have B1 : Below w.heap.size w w1 := hB0.trans (hb1.mono hB0.size)
    have P1 := hP.below hb1
    clear p0 p1 p2
    obtain ⟨p0, p1, p2⟩ := P1.w3
    go_wp2_with fail
    refine (hTo w1 B1).mono ?_
    rintro e w2 ⟨b1, rfl, hlt1, hr1, hb2⟩
    have B2 : Below w.heap.size w w2 := B1.trans (hb2.mono B1.size)
    have P2 := P1.below hb2
    go_wp2_with fail
    refine (hSp w2 b1 hr1).mono ?_
    rintro e w3 ⟨aw, cw, rfl, hw3, hb3⟩
    have S3 := hw3.slc
    have B3 : Below w.heap.size w w3 := B2.trans (hb3.mono B2.size)
    have P3 := P2.below hb3
    have hb4 := one_alloc w3 (.cells #[.int .i64 Rz, .int .i64 Rt, .slice aw Z.length cw] 34)
    have V4 := Bx.new w3 34 #[.int .i64 Rz, .int .i64 Rt, .slice aw Z.length cw]
    have S4 := S3.below hb4
    have P4 := P3.below hb4
    have D3 := S3.blt
    generalize hW4 : w3.alloc (.cells #[.int .i64 Rz, .int .i64 Rt, .slice aw Z.length cw] 34) = W4 at *
    have B4 : Below w.heap.size w W4 := B3.trans (hb4.mono B3.size)
    clear p0 p1 p2 hw3 hb3 hb2 hr1 hlt1 P1 P2 P3 S3
    obtain ⟨p0, p1, p2⟩ := P4.w3
    go_wp2_with fail
    refine (hTo W4 B4).mono ?_
    rintro e w5 ⟨b, rfl, hlt5, hr5, hb5⟩
    have B5 : Below w.heap.size w w5 := B4.trans (hb5.mono B4.size)
    have P5 := P4.below hb5
    have V5 := V4.below hb5
    have S5 := S4.below hb5
    have hb6 := one_alloc w5 (.cells #[.int .i64 sz, .int .i64 st, .slice (some ⟨b, 0, none⟩) xs.length xs.length] 34)
    have X6 := Bx.new w5 34 #[.int .i64 sz, .int .i64 st, .slice (some ⟨b, 0, none⟩) xs.length xs.length]
    have hr6 := hr5.below hb6 hr5.lt
    have P6 := P5.below hb6
    have V6 := V5.below hb6
    have S6 := S5.below hb6
    have lb5 := hr5.lt
    have lw3 := V4.lt
    have lp4 := P4.lt
    generalize hW6 : w5.alloc (.cells #[.int .i64 sz, .int .i64 st, .slice (some ⟨b, 0, none⟩) xs.length xs.length] 34) = W6 at *
    have B6 : Below w.heap.size w W6 := B5.trans (hb6.mono B5.size)
    have h46 : W4.heap.size ≤ W6.heap.size := Nat.le_trans hb5.size hb6.size
    have l5 : w5.heap.size < W6.heap.size := X6.lt
    have s45 := hb5.size
    clear p0 p1 p2 P4 V4 S4 hb5 P5 V5 S5 hr5
    obtain ⟨x0, x1, x2⟩ := X6.w3
    go_wp2_with fail
    refine (hIm W6 b hr6).mono ?_
    rintro e w7 ⟨ag, cg, rfl, hw7, hb7⟩
    have A7 := hw7.abv
    have S7 := hw7.slc
    have hb8 := one_alloc w7 (.cells #[.int .i64 Rz, .int .i64 Rt, .slice ag Z.length cg] 34)
    have G8 := Bx.new w7 34 #[.int .i64 Rz, .int .i64 Rt, .slice ag Z.length cg]
    have D7 := S7.blt
    have l7 := hb7.size
    have X0 : SlC W6 (some ⟨b, 0, none⟩) xs.length xs := .inr ⟨b, 0, rfl, OI.own (hr6.own hl)⟩
    have T : Tw w (w7.alloc (.cells #[.int .i64 Rz, .int .i64 Rt, .slice ag Z.length cg] 34)) sz st a cap xs ⟨Rz, Rt, Z, ok⟩ w3.heap.size aw cw w5.heap.size b w7.heap.size ag cg xs Z :=
      ⟨(B6.trans (hb7.mono B6.size)).trans (hb8.mono (B6.trans (hb7.mono B6.size)).size), (P6.below hb7).below hb8, (V6.below hb7).below hb8, (S6.below hb7).below hb8, (X6.below hb7).below hb8, (X0.below hb7).below hb8, G8, S7.below hb8⟩
    generalize hW8 : w7.alloc (.cells #[.int .i64 Rz, .int .i64 Rt, .slice ag Z.length cg] 34) = W8 at *
    have lW8 := G8.lt
    clear x0 x1 x2 hw7 hb7 hb8 P6 V6 S6 X6 X0 G8 S7 hr6
    obtain ⟨⟨p0, p1, p2⟩, ⟨v0, v1, v2⟩, ⟨x0, x1, x2⟩, g0, g1, g2⟩ := T.cells
    go_wp2_with fail
    refine (eqW_any Rz Rt ag aw Z.length cg cw Z W8 (T.got.vec hfR) (T.want.vec hfR) hmZ).mono ?_
    rintro e w9 ⟨rfl, hb9⟩
    replace T := T.step hb9
    clear p0 p1 p2 v0 v1 v2 x0 x1 x2 g0 g1 g2
    have KS : ∀ X, Below w9.heap.size w9 X → W3c X w.heap.size sz st (.slice a xs.length cap) ∧ W3c X w5.heap.size sz st (.slice (some ⟨b, 0, none⟩) xs.length xs.length) := fun X hX => ⟨(T.par.below hX).w3, (T.xb.below hX).w3⟩
    unfold W3c at KS
    have bd : Below w9.heap.size w9 (w9.drewN 1) := belowN (Below.refl _ _)
    have hT2 := fun X (h : Below w9.heap.size w9 X) => hTo X (T.below.trans (h.mono T.below.size))
    have hEq := fun X (b7 : Nat) (h : Below w9.heap.size w9 X) (h7 : RowOf X b7 xs) => eqW_any sz st (some ⟨b, 0, none⟩) (some ⟨b7, 0, none⟩) xs.length xs.length xs.length xs X ((T.x0.below h).vec hf) (h7.vec hf) hl
    unfold wiV at hEq
    have hmix := mixedW
    go_wp2_with fail
    go_region_held3 (fun X => (X.cell? ⟨w.heap.size, 0, none⟩ = some (.int .i64 sz) ∧ X.cell? ⟨w.heap.size, 1, none⟩ = some (.int .i64 st) ∧ X.cell? ⟨w.heap.size, 2, none⟩ = some (.slice a xs.length cap)) ∧ X.cell? ⟨w5.heap.size, 0, none⟩ = some (.int .i64 sz) ∧ X.cell? ⟨w5.heap.size, 1, none⟩ = some (.int .i64 st) ∧ X.cell? ⟨w5.heap.size, 2, none⟩ = some (.slice (some ⟨b, 0, none⟩) xs.length xs.length))
      (first
        | exact KS _ b11
        | exact KS _ b10
        | exact KS _ bd)
      (first
        | (go_at_call 39; refine (hT2 _ bd).mono ?_; rintro e w10 ⟨b7, rfl, hlt7, hr7, hb10⟩; have b10 : Below w9.heap.size w9 w10 := bd.trans (hb10.mono bd.size))
        | (go_at_call 40; refine (hEq w10 b7 b10 hr7).mono ?_; rintro e w11 ⟨rfl, hb11⟩; have b11 : Below w9.heap.size w9 w11 := b10.trans (hb11.mono b10.size)))
    replace T := T.step b11
    clear KS hT2 hEq bd hb10 hb11 b10 b11 hr7 hlt7 hmix
    obtain ⟨⟨p0, p1, p2⟩, ⟨v0, v1, v2⟩, ⟨x0, x1, x2⟩, g0, g1, g2⟩ := T.cells
    go_wp2_with fail
    refine (markW_any sz st (some ⟨b, 0, none⟩) xs.length xs w11 T.x0 hn20).mono ?_
    rintro e w12 ⟨rfl, h12, hr12⟩
    replace T := T.markX hr12 h12 (by omega) (by omega) (by omega) (by omega) (fun k off hz ha => by have := D3 k off hz ha; omega) (fun k off hz ha => by have := A7 k off hz ha; omega)
    clear p0 p1 p2 v0 v1 v2 x0 x1 x2 g0 g1 g2
    clear h12 hr12
    have hk0 : decide ((1 : Int) + (xs.length : Int) < 0) = false := by simp; omega
    obtain ⟨⟨p0, p1, p2⟩, ⟨v0, v1, v2⟩, ⟨x0, x1, x2⟩, g0, g1, g2⟩ := T.cells
    go_wp2_with fail
    refine (eqW_any Rz Rt ag aw Z.length cg cw Z w12 (T.got.vec hfR) (T.want.vec hfR) hmZ).mono ?_
    rintro e w13 ⟨rfl, hb13⟩
    replace T := T.step hb13
    clear p0 p1 p2 v0 v1 v2 x0 x1 x2 g0 g1 g2
    clear hb13
    obtain ⟨⟨p0, p1, p2⟩, ⟨v0, v1, v2⟩, ⟨x0, x1, x2⟩, g0, g1, g2⟩ := T.cells
    go_wp2_with fail
    refine (markW_any Rz Rt ag cg Z w13 T.got hn8).mono ?_
    rintro e w14 ⟨rfl, h14, hr14⟩
    replace T := T.markG hr14 h14 (fun k off hz ha => by
      have h1 := A7 k off hz ha
      have h2 := D7 k off hz ha
      exact ⟨by omega, by omega, by omega, by omega, by omega, fun off2 hy h3 => by have := D3 k off2 hy h3; omega⟩)
    clear p0 p1 p2 v0 v1 v2 x0 x1 x2 g0 g1 g2
    clear h14 hr14
    obtain ⟨⟨p0, p1, p2⟩, ⟨v0, v1, v2⟩, ⟨x0, x1, x2⟩, g0, g1, g2⟩ := T.cells
    go_wp2_with fail
    refine (heldW_any Rz Rt ag cg Z.length w14 T.got hn8).mono ?_
    rintro e w15 ⟨rfl, hb15⟩
    replace T := T.step hb15
    clear p0 p1 p2 v0 v1 v2 x0 x1 x2 g0 g1 g2
    clear hb15
    have hq0 : decide ((1 : Int) + (Z.length : Int) < 0) = false := by simp; omega
    have hq1 : ((1 : Int) + (Z.length : Int) != (1 : Int) + (Z.length : Int)) = false := by simp
    obtain ⟨⟨p0, p1, p2⟩, ⟨v0, v1, v2⟩, ⟨x0, x1, x2⟩, g0, g1, g2⟩ := T.cells
    go_wp2_with fail
    refine (hTo w15 T.below).mono ?_
    rintro e w16 ⟨b2, rfl, _, hr16, hb16⟩
    replace T := T.step hb16
    clear p0 p1 p2 v0 v1 v2 x0 x1 x2 g0 g1 g2
    go_wp2_with fail
    refine (hIm w16 b2 hr16).mono ?_
    rintro e w17 ⟨ah, ch, rfl, hw17, hb17⟩
    replace T := T.step hb17
    have S17 := hw17.slc
    have hb18 := one_alloc w17 (.cells #[.int .i64 Rz, .int .i64 Rt, .slice ah Z.length ch] 34)
    have H18 := Bx.new w17 34 #[.int .i64 Rz, .int .i64 Rt, .slice ah Z.length ch]
    replace S17 := S17.below hb18
    replace T := T.step hb18
    generalize hW18 : w17.alloc (.cells #[.int .i64 Rz, .int .i64 Rt, .slice ah Z.length ch] 34) = W18 at *
    obtain ⟨y0, y1, y2⟩ := H18.w3
    obtain ⟨⟨p0, p1, p2⟩, ⟨v0, v1, v2⟩, ⟨x0, x1, x2⟩, g0, g1, g2⟩ := T.cells
    go_wp2_with fail
    refine (eqW_any Rz Rt ah aw Z.length ch cw Z W18 (S17.vec hfR) (T.want.vec hfR) hmZ).mono ?_
    rintro e w19 ⟨rfl, hb19⟩
    replace T := T.step hb19
    clear p0 p1 p2 v0 v1 v2 x0 x1 x2 g0 g1 g2
    clear y0 y1 y2
    obtain ⟨⟨p0, p1, p2⟩, ⟨v0, v1, v2⟩, ⟨x0, x1, x2⟩, g0, g1, g2⟩ := T.cells
    go_wp2_with fail
    refine (heldW_any Rz Rt ag cg Z.length w19 T.got hn8).mono ?_
    rintro e w20 ⟨rfl, hb20⟩
    have HB : Hid (Below w.heap.size w w20) := (T.step hb20).below
    clear p0 p1 p2 v0 v1 v2 x0 x1 x2 g0 g1 g2
    go_wp2
    go_ret
    exact ⟨rfl, HB.out⟩
  · rw [if_neg hsm] at hZ
    unfold wiV at *
    go_enter Try.func7, Try.ntmps7
    go_wp2_with (go_at_call 38; refine hZ.mono ?_; rintro e w1 ⟨rfl, hb1⟩)
    go_ret
    exact ⟨rfl, hB0.trans (hb1.mono hB0.size)⟩

set_option maxRecDepth 100000 in
set_option maxHeartbeats 3200000 in
theorem lawAcked (hI : ImplAcked) (sz st : Int) (a : Option Addr) (len cap : Nat) (xs : List Int) (who : Int) (n : Int) (w : World) (hsz : I64w sz) (hst : I64w st) (hwho : I64w who) (hn : I64w n) (hv : Vec w a len xs) (hcap : len ≤ cap) (hm : cap ≤ maxLen) :
    Calls Try.prog 8 #[wiV sz st a len cap, .int .i64 who, .int .i64 n] w fun e w' => e = .returned (.bool true) ∧ Below w.heap.size w w' := by
  have hl : len ≤ maxLen := Nat.le_trans hcap hm
  have hf : Fits xs := hv.2.1
  have hlen := hv.1
  subst hlen
  have hP := Bx.new w 43 #[.int .i64 sz, .int .i64 st, .slice a xs.length cap]
  have hB0 := one_alloc w (.cells #[.int .i64 sz, .int .i64 st, .slice a xs.length cap] 43)
  generalize hW0 : w.alloc (.cells #[.int .i64 sz, .int .i64 st, .slice a xs.length cap] 43) = W0 at *
  have hZ := szW_any sz st a xs.length cap W0 hl
  obtain ⟨p0, p1, p2⟩ := hP.w3
  by_cases hsm : (xs.length : Int) ≤ 1048576
  · rw [if_pos hsm] at hZ
    have hpos : decide ((1048576 : Int) - (xs.length : Int) < 0) = false := by simp; omega
    have hlim : xs.length ≤ 17592186044416 := by omega
    have hn20 : xs.length ≤ 10000000 := by omega
    obtain ⟨hfR, h8R⟩ := ackL_fits sz st xs who n hn
    have hvX : ∀ X, Below w.heap.size w X → Vec X a xs.length xs := fun X hX => hv.below hX (Nat.le_refl _)
    have hTo : ∀ X, Below w.heap.size w X → Calls Try.prog 39 #[wiV sz st a xs.length cap] X fun e w' => ∃ b, e = .returned (wiV sz st (some ⟨b, 0, none⟩) xs.length xs.length) ∧ X.heap.size ≤ b ∧ RowOf w' b xs ∧ Below X.heap.size X w' := fun X hX => toW_any sz st a xs.length cap xs X (hvX X hX) hlim
    have hSp : ∀ X b, RowOf X b xs → Calls Try.prog 37 #[wiV sz st (some ⟨b, 0, none⟩) xs.length xs.length, .int .i64 who, .int .i64 n] X fun e w' => AnsW X w' e (ackL sz st xs who n) := fun X b h => ackS_any sz st _ _ _ xs who n X (h.vec hf) hl
    have hIm : ∀ X b, RowOf X b xs → Calls Try.prog 30 #[wiV sz st (some ⟨b, 0, none⟩) xs.length xs.length, .int .i64 who, .int .i64 n] X fun e w' => AnsW X w' e (ackL sz st xs who n) := fun X b h => hI sz st _ _ _ xs who n X hsz hst hwho hn (h.vec hf) (Nat.le_refl _) hl
    clear hI hv
    generalize hR : ackL sz st xs who n = R at *
    obtain ⟨Rz, Rt, Z, ok⟩ := R
    clear hR
    simp only [] at hfR h8R
    have hok : (ok != ok) = false := by cases ok <;> rfl
    have hn8 : Z.length ≤ 10000000 := by omega
    have hmZ : Z.length ≤ maxLen := by unfold maxLen; omega
    unfold AnsW at hSp hIm
    unfold wiV at *
    simp only [] at hSp hIm
    go_enter Try.func8, Try.ntmps8
    go_wp2_with fail
    refine hZ.mono ?_
    rintro e w1 ⟨rfl, hb1⟩
    have B1 : Below w.heap.size w w1 := hB0.trans (hb1.mono hB0.size)
    have P1 := hP.below hb1
    clear p0 p1 p2
    obtain ⟨p0, p1, p2⟩ := P1.w3
    go_wp2_with fail
    refine (hTo w1 B1).mono ?_
    rintro e w2 ⟨b1, rfl, hlt1, hr1, hb2⟩
    have B2 : Below w.heap.size w w2 := B1.trans (hb2.mono B1.size)
    have P2 := P1.below hb2
    go_wp2_with fail
    refine (hSp w2 b1 hr1).mono ?_
    rintro e w3 ⟨aw, cw, rfl, hw3, hb3⟩
    have S3 := hw3.slc
    have B3 : Below w.heap.size w w3 := B2.trans (hb3.mono B2.size)
    have P3 := P2.below hb3
    have hb4 := one_alloc w3 (.cells #[.int .i64 Rz, .int .i64 Rt, .slice aw Z.length cw] 34)
    have V4 := Bx.new w3 34 #[.int .i64 Rz, .int .i64 Rt, .slice aw Z.length cw]
    have S4 := S3.below hb4
    have P4 := P3.below hb4
    have D3 := S3.blt
    generalize hW4 : w3.alloc (.cells #[.int .i64 Rz, .int .i64 Rt, .slice aw Z.length cw] 34) = W4 at *
    have B4 : Below w.heap.size w W4 := B3.trans (hb4.mono B3.size)
    clear p0 p1 p2 hw3 hb3 hb2 hr1 hlt1 P1 P2 P3 S3
    obtain ⟨p0, p1, p2⟩ := P4.w3
    go_wp2_with fail
    refine (hTo W4 B4).mono ?_
    rintro e w5 ⟨b, rfl, hlt5, hr5, hb5⟩
    have B5 : Below w.heap.size w w5 := B4.trans (hb5.mono B4.size)
    have P5 := P4.below hb5
    have V5 := V4.below hb5
    have S5 := S4.below hb5
    have hb6 := one_alloc w5 (.cells #[.int .i64 sz, .int .i64 st, .slice (some ⟨b, 0, none⟩) xs.length xs.length] 34)
    have X6 := Bx.new w5 34 #[.int .i64 sz, .int .i64 st, .slice (some ⟨b, 0, none⟩) xs.length xs.length]
    have hr6 := hr5.below hb6 hr5.lt
    have P6 := P5.below hb6
    have V6 := V5.below hb6
    have S6 := S5.below hb6
    have lb5 := hr5.lt
    have lw3 := V4.lt
    have lp4 := P4.lt
    generalize hW6 : w5.alloc (.cells #[.int .i64 sz, .int .i64 st, .slice (some ⟨b, 0, none⟩) xs.length xs.length] 34) = W6 at *
    have B6 : Below w.heap.size w W6 := B5.trans (hb6.mono B5.size)
    have h46 : W4.heap.size ≤ W6.heap.size := Nat.le_trans hb5.size hb6.size
    have l5 : w5.heap.size < W6.heap.size := X6.lt
    have s45 := hb5.size
    clear p0 p1 p2 P4 V4 S4 hb5 P5 V5 S5 hr5
    obtain ⟨x0, x1, x2⟩ := X6.w3
    go_wp2_with fail
    refine (hIm W6 b hr6).mono ?_
    rintro e w7 ⟨ag, cg, rfl, hw7, hb7⟩
    have A7 := hw7.abv
    have S7 := hw7.slc
    have hb8 := one_alloc w7 (.cells #[.int .i64 Rz, .int .i64 Rt, .slice ag Z.length cg] 34)
    have G8 := Bx.new w7 34 #[.int .i64 Rz, .int .i64 Rt, .slice ag Z.length cg]
    have D7 := S7.blt
    have l7 := hb7.size
    have X0 : SlC W6 (some ⟨b, 0, none⟩) xs.length xs := .inr ⟨b, 0, rfl, OI.own (hr6.own hl)⟩
    have T : Tw w (w7.alloc (.cells #[.int .i64 Rz, .int .i64 Rt, .slice ag Z.length cg] 34)) sz st a cap xs ⟨Rz, Rt, Z, ok⟩ w3.heap.size aw cw w5.heap.size b w7.heap.size ag cg xs Z :=
      ⟨(B6.trans (hb7.mono B6.size)).trans (hb8.mono (B6.trans (hb7.mono B6.size)).size), (P6.below hb7).below hb8, (V6.below hb7).below hb8, (S6.below hb7).below hb8, (X6.below hb7).below hb8, (X0.below hb7).below hb8, G8, S7.below hb8⟩
    generalize hW8 : w7.alloc (.cells #[.int .i64 Rz, .int .i64 Rt, .slice ag Z.length cg] 34) = W8 at *
    have lW8 := G8.lt
    clear x0 x1 x2 hw7 hb7 hb8 P6 V6 S6 X6 X0 G8 S7 hr6
    obtain ⟨⟨p0, p1, p2⟩, ⟨v0, v1, v2⟩, ⟨x0, x1, x2⟩, g0, g1, g2⟩ := T.cells
    go_wp2_with fail
    refine (eqW_any Rz Rt ag aw Z.length cg cw Z W8 (T.got.vec hfR) (T.want.vec hfR) hmZ).mono ?_
    rintro e w9 ⟨rfl, hb9⟩
    replace T := T.step hb9
    clear p0 p1 p2 v0 v1 v2 x0 x1 x2 g0 g1 g2
    have KS : ∀ X, Below w9.heap.size w9 X → W3c X w.heap.size sz st (.slice a xs.length cap) ∧ W3c X w5.heap.size sz st (.slice (some ⟨b, 0, none⟩) xs.length xs.length) := fun X hX => ⟨(T.par.below hX).w3, (T.xb.below hX).w3⟩
    unfold W3c at KS
    have bd : Below w9.heap.size w9 (w9.drewN 1) := belowN (Below.refl _ _)
    have hT2 := fun X (h : Below w9.heap.size w9 X) => hTo X (T.below.trans (h.mono T.below.size))
    have hEq := fun X (b7 : Nat) (h : Below w9.heap.size w9 X) (h7 : RowOf X b7 xs) => eqW_any sz st (some ⟨b, 0, none⟩) (some ⟨b7, 0, none⟩) xs.length xs.length xs.length xs X ((T.x0.below h).vec hf) (h7.vec hf) hl
    unfold wiV at hEq
    have hmix := mixedW
    go_wp2_with fail
    go_region_held3 (fun X => (X.cell? ⟨w.heap.size, 0, none⟩ = some (.int .i64 sz) ∧ X.cell? ⟨w.heap.size, 1, none⟩ = some (.int .i64 st) ∧ X.cell? ⟨w.heap.size, 2, none⟩ = some (.slice a xs.length cap)) ∧ X.cell? ⟨w5.heap.size, 0, none⟩ = some (.int .i64 sz) ∧ X.cell? ⟨w5.heap.size, 1, none⟩ = some (.int .i64 st) ∧ X.cell? ⟨w5.heap.size, 2, none⟩ = some (.slice (some ⟨b, 0, none⟩) xs.length xs.length))
      (first
        | exact KS _ b11
        | exact KS _ b10
        | exact KS _ bd)
      (first
        | (go_at_call 39; refine (hT2 _ bd).mono ?_; rintro e w10 ⟨b7, rfl, hlt7, hr7, hb10⟩; have b10 : Below w9.heap.size w9 w10 := bd.trans (hb10.mono bd.size))
        | (go_at_call 40; refine (hEq w10 b7 b10 hr7).mono ?_; rintro e w11 ⟨rfl, hb11⟩; have b11 : Below w9.heap.size w9 w11 := b10.trans (hb11.mono b10.size)))
    replace T := T.step b11
    clear KS hT2 hEq bd hb10 hb11 b10 b11 hr7 hlt7 hmix
    obtain ⟨⟨p0, p1, p2⟩, ⟨v0, v1, v2⟩, ⟨x0, x1, x2⟩, g0, g1, g2⟩ := T.cells
    go_wp2_with fail
    refine (markW_any sz st (some ⟨b, 0, none⟩) xs.length xs w11 T.x0 hn20).mono ?_
    rintro e w12 ⟨rfl, h12, hr12⟩
    replace T := T.markX hr12 h12 (by omega) (by omega) (by omega) (by omega) (fun k off hz ha => by have := D3 k off hz ha; omega) (fun k off hz ha => by have := A7 k off hz ha; omega)
    clear p0 p1 p2 v0 v1 v2 x0 x1 x2 g0 g1 g2
    clear h12 hr12
    have hk0 : decide ((1 : Int) + (xs.length : Int) < 0) = false := by simp; omega
    obtain ⟨⟨p0, p1, p2⟩, ⟨v0, v1, v2⟩, ⟨x0, x1, x2⟩, g0, g1, g2⟩ := T.cells
    go_wp2_with fail
    refine (eqW_any Rz Rt ag aw Z.length cg cw Z w12 (T.got.vec hfR) (T.want.vec hfR) hmZ).mono ?_
    rintro e w13 ⟨rfl, hb13⟩
    replace T := T.step hb13
    clear p0 p1 p2 v0 v1 v2 x0 x1 x2 g0 g1 g2
    clear hb13
    obtain ⟨⟨p0, p1, p2⟩, ⟨v0, v1, v2⟩, ⟨x0, x1, x2⟩, g0, g1, g2⟩ := T.cells
    go_wp2_with fail
    refine (markW_any Rz Rt ag cg Z w13 T.got hn8).mono ?_
    rintro e w14 ⟨rfl, h14, hr14⟩
    replace T := T.markG hr14 h14 (fun k off hz ha => by
      have h1 := A7 k off hz ha
      have h2 := D7 k off hz ha
      exact ⟨by omega, by omega, by omega, by omega, by omega, fun off2 hy h3 => by have := D3 k off2 hy h3; omega⟩)
    clear p0 p1 p2 v0 v1 v2 x0 x1 x2 g0 g1 g2
    clear h14 hr14
    obtain ⟨⟨p0, p1, p2⟩, ⟨v0, v1, v2⟩, ⟨x0, x1, x2⟩, g0, g1, g2⟩ := T.cells
    go_wp2_with fail
    refine (heldW_any Rz Rt ag cg Z.length w14 T.got hn8).mono ?_
    rintro e w15 ⟨rfl, hb15⟩
    replace T := T.step hb15
    clear p0 p1 p2 v0 v1 v2 x0 x1 x2 g0 g1 g2
    clear hb15
    have hq0 : decide ((1 : Int) + (Z.length : Int) < 0) = false := by simp; omega
    have hq1 : ((1 : Int) + (Z.length : Int) != (1 : Int) + (Z.length : Int)) = false := by simp
    obtain ⟨⟨p0, p1, p2⟩, ⟨v0, v1, v2⟩, ⟨x0, x1, x2⟩, g0, g1, g2⟩ := T.cells
    go_wp2_with fail
    refine (hTo w15 T.below).mono ?_
    rintro e w16 ⟨b2, rfl, _, hr16, hb16⟩
    replace T := T.step hb16
    clear p0 p1 p2 v0 v1 v2 x0 x1 x2 g0 g1 g2
    go_wp2_with fail
    refine (hIm w16 b2 hr16).mono ?_
    rintro e w17 ⟨ah, ch, rfl, hw17, hb17⟩
    replace T := T.step hb17
    have S17 := hw17.slc
    have hb18 := one_alloc w17 (.cells #[.int .i64 Rz, .int .i64 Rt, .slice ah Z.length ch] 34)
    have H18 := Bx.new w17 34 #[.int .i64 Rz, .int .i64 Rt, .slice ah Z.length ch]
    replace S17 := S17.below hb18
    replace T := T.step hb18
    generalize hW18 : w17.alloc (.cells #[.int .i64 Rz, .int .i64 Rt, .slice ah Z.length ch] 34) = W18 at *
    obtain ⟨y0, y1, y2⟩ := H18.w3
    obtain ⟨⟨p0, p1, p2⟩, ⟨v0, v1, v2⟩, ⟨x0, x1, x2⟩, g0, g1, g2⟩ := T.cells
    go_wp2_with fail
    refine (eqW_any Rz Rt ah aw Z.length ch cw Z W18 (S17.vec hfR) (T.want.vec hfR) hmZ).mono ?_
    rintro e w19 ⟨rfl, hb19⟩
    replace T := T.step hb19
    clear p0 p1 p2 v0 v1 v2 x0 x1 x2 g0 g1 g2
    clear y0 y1 y2
    obtain ⟨⟨p0, p1, p2⟩, ⟨v0, v1, v2⟩, ⟨x0, x1, x2⟩, g0, g1, g2⟩ := T.cells
    go_wp2_with fail
    refine (heldW_any Rz Rt ag cg Z.length w19 T.got hn8).mono ?_
    rintro e w20 ⟨rfl, hb20⟩
    have HB : Hid (Below w.heap.size w w20) := (T.step hb20).below
    clear p0 p1 p2 v0 v1 v2 x0 x1 x2 g0 g1 g2
    go_wp2
    go_ret
    exact ⟨rfl, HB.out⟩
  · rw [if_neg hsm] at hZ
    unfold wiV at *
    go_enter Try.func8, Try.ntmps8
    go_wp2_with (go_at_call 38; refine hZ.mono ?_; rintro e w1 ⟨rfl, hb1⟩)
    go_ret
    exact ⟨rfl, hB0.trans (hb1.mono hB0.size)⟩
end Go.Proofs.Ytkompamocpnefaa
