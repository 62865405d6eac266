/-
  Several texts in one: LawCh.
-/
import Derived.Test.YtdniajogojlmdaaKe
import Derived.Test.YtdniajogojlmdaaJu
import Derived.Test.YtdniajogojlmdaaIr
import Derived.Deep.RegionHeld3
import Derived.Deep.CutRange
/-
  The law FnChained FROM what the program's functions of relays answer.
-/
namespace Go.Proofs.Ytdniajogojlmdaa
set_option linter.unusedVariables false
set_option linter.unusedSimpArgs false
open Go.RowKit Go.Sort

/-- A relay in a block, to be read. -/
structure Rb (W : World) (b : Nat) (N B : Int) (a' : Option Addr) (c : Nat) (H : List (List Int)) : Prop where
  bx : Bx W b 35 #[.int .i64 N, .int .i64 B, .slice a' H.length c]
  vv : VV W a' H.length c H
theorem Rb.below {W W' : World} {b : Nat} {N B : Int} {a' : Option Addr} {c : Nat} {H : List (List Int)} (h : Rb W b N B a' c H) (hb : Below W.heap.size W W') : Rb W' b N B a' c H := ⟨h.bx.below hb, h.vv.below hb⟩
theorem Rb.new {W : World} {N B : Int} {a' : Option Addr} {c : Nat} {H : List (List Int)} (h : VV W a' H.length c H) : Rb (W.alloc (.cells #[.int .i64 N, .int .i64 B, .slice a' H.length c] 35)) W.heap.size N B a' c H := ⟨Bx.new _ _ _, h.below (one_alloc10 _ _)⟩
theorem newO_vv {w w' : World} {a : Option Addr} {c : Nat} {H : List (List Int)} (h : NewO w w' (iicl H) (.slice a H.length c)) (hf : FitsH H) : VV w' a H.length c H := by
  obtain ⟨f, h1, _, _⟩ := h
  exact vv_of_vw (Cel.ow_vw h1) hf
theorem newO_below {w w' : World} {c : Cel} {v : Value} (h : NewO w w' c v) : Below w.heap.size w w' := by
  obtain ⟨_, _, _, h⟩ := h
  exact h
theorem newO_ps {w w' : World} {a : Option Addr} {c : Nat} {L : List Ps} (h : NewO w w' (pcl L) (.slice a L.length c)) : PsS w' a L.length L := by
  obtain ⟨f, h1, _, _⟩ := h
  exact it_ps (It.of1 (lo := 0) (hi := w'.heap.size) h1 (fun b hb => ⟨Nat.zero_le _, Cel.ow_lt h1 b hb⟩))
theorem newO_le {w w' : World} {a : Option Addr} {c : Nat} {L : List Ps} (h : NewO w w' (pcl L) (.slice a L.length c)) : L.length ≤ c ∧ c ≤ maxLen := by
  obtain ⟨f, ⟨a0, c0, us, G, f0, e, ho, _⟩, _, _⟩ := h
  cases e
  exact ho.le
/-- What stands when a relay has been asked for by its chain: the answer in a block of its own. -/
def XC (W wx : World) (N B : Int) (H2 : List (List Int)) (s24 s25 : Value) : Prop :=
  ∃ (xb : Nat) (a5 : Option Addr) (c5 : Nat) (f5 : Fp), s24 = .pointer (some ⟨xb, 0, none⟩) ∧ s25 = .bool true ∧ Bx wx xb 35 #[.int .i64 N, .int .i64 B, .slice a5 H2.length c5] ∧ Cel.ow wx (iicl H2) (.slice a5 H2.length c5) f5 ∧ (∀ b, f5 b → W.heap.size ≤ b) ∧ Below W.heap.size W wx
theorem xc_set {W V : World} {xb : Nat} (q : Bx V xb 35 #[.int .i64 0, .int .i64 0, .slice none 0 0]) (hxb : W.heap.size ≤ xb) {N B : Int} {a5 : Option Addr} {c5 : Nat} {H2 : List (List Int)} {f5 : Fp} (ho : Cel.ow V (iicl H2) (.slice a5 H2.length c5) f5) (hf : ∀ b, f5 b → xb < b) (hb : Below W.heap.size W V) :
    XC W (((V.setCell ⟨xb, 0, none⟩ (.int .i64 N)).setCell ⟨xb, 1, none⟩ (.int .i64 B)).setCell ⟨xb, 2, none⟩ (.slice a5 H2.length c5)) N B H2 (.pointer (some ⟨xb, 0, none⟩)) (.bool true) :=
  ⟨xb, a5, c5, f5, rfl, rfl, ((q.setC 0 _).setC 1 _).setC 2 _, Cel.ow_wrt ho (wrt3 V xb) (fun b hb e => by have := hf b hb; omega), fun b hb => by have := hf b hb; omega, below3 hb hxb⟩
theorem xc_new {W V : World} {N B : Int} {a5 : Option Addr} {c5 : Nat} {H2 : List (List Int)} {f5 : Fp} (ho : Cel.ow V (iicl H2) (.slice a5 H2.length c5) f5) (hf : ∀ b, f5 b → W.heap.size ≤ b) (hb : Below W.heap.size W V) :
    XC W (V.alloc (.cells #[.int .i64 N, .int .i64 B, .slice a5 H2.length c5] 35)) N B H2 (.pointer (some ⟨V.heap.size, 0, none⟩)) (.bool true) :=
  ⟨V.heap.size, a5, c5, f5, rfl, rfl, Bx.new _ _ _, Cel.ow_below ho (one_alloc10 _ _), hf, hb.alloc hb.size _⟩
theorem zc_drew {Y0 V : World} {T : TypeId} {cs : Array Value} (g : Below ((Y0.alloc (.cells cs T)).drew).heap.size ((Y0.alloc (.cells cs T)).drew) V) : Bx V Y0.heap.size T cs := Bx.below (w := (Y0.alloc (.cells cs T)).drew) (Bx.new Y0 T cs) g
theorem zc_alloc {Y0 V : World} {T : TypeId} {cs : Array Value} (g : Below (Y0.alloc (.cells cs T)).heap.size (Y0.alloc (.cells cs T)) V) : Bx V Y0.heap.size T cs := Bx.below (Bx.new Y0 T cs) g
theorem turnL_keeps {N B : Int} {H : List (List Int)} {cs : List Ps} (h : (turnL N B H cs).2 = true) : (turnL N B H cs).1.2.2.length = H.length ∧ ∀ i q, q ∈ row H i → q ∈ row (turnL N B H cs).1.2.2 i := by
  obtain ⟨h1, h2, h3⟩ := turnL_yes h
  rw [h3]
  exact ⟨outs_len _ _ _, fun i q hq => outs_mem _ hq⟩
theorem turnL_nb (N B : Int) (H : List (List Int)) (cs : List Ps) : ((turnL N B H cs).1.1 = N ∧ (turnL N B H cs).1.2.1 = B) ∨ ((turnL N B H cs).1.1 = 0 ∧ (turnL N B H cs).1.2.1 = 0) := by
  unfold turnL
  split
  · exact .inl ⟨rfl, rfl⟩
  · exact .inr ⟨rfl, rfl⟩
theorem mem_el10 {xs : List Int} {k : Nat} (h : k < xs.length) : el xs k ∈ xs := by
  simp [el, h]
theorem i64r_small {x : Int} (h : -1000 ≤ x ∧ x ≤ 1000) : I64r x := ⟨by omega, by omega⟩

set_option maxRecDepth 100000 in
set_option maxHeartbeats 12800000 in
/-- The law FnChained. -/
theorem lawFnChained (hRok : ImplRelayOk) (hFul : ImplFull) (hNew : ImplNewRelay) (hTrn : ImplTurn) (hChn : ImplChain) (a : Option Addr) (len cap : Nat) (bs : Nat → Int) (w : World) (hv : BVec w a len bs) :
    Calls Try.prog 4 #[.slice a len cap] w fun e w' => e = .returned (.bool true) ∧ Below w.heap.size w w' := by
  have hmix := mixedR
  by_cases hbig : (4096 : Int) < (len : Int)
  · have hB := big_any a len cap w
    rw [decide_eq_true hbig] at hB
    go_enter Try.func4, Try.ntmps4
    go_wp2_with fail
    refine hB.mono ?_
    rintro e w1 ⟨rfl, hw1⟩
    have HW : Hid (w1 = w) := hw1
    clear hw1
    go_wp2
    go_ret
    exact ⟨rfl, by rw [HW.out]; exact Below.refl _ _⟩
  · have hB := big_any a len cap w
    rw [decide_eq_false hbig] at hB
    have hl : len ≤ 4096 := by omega
    go_enter Try.func4, Try.ntmps4
    go_wp2_with fail
    refine hB.mono ?_
    rintro e w0 ⟨rfl, hw0⟩
    have B0 : Below w.heap.size w w0 := by rw [hw0]; exact Below.refl _ _
    clear hw0 hB
    go_wp2_with fail
    refine (drawTurn_any a len cap bs w0 (hv.below B0 (Nat.le_refl _)) hl).mono ?_
    rintro e w1 ⟨N, B, a1, c1, H, pa, pc, cs, rfl, hR1, hP, hFP, hpc, hcl, hb1⟩
    have BW : Below w.heap.size w w1 := B0.trans (hb1.mono B0.size)
    clear hb1 B0
    unfold rlV
    have hN := hR1.sm.1
    have hB := hR1.sm.2.1
    have hN6 : I64r N := i64r_small hN
    have hB6 : I64r B := i64r_small hB
    have b1R := Rb.new (N := N) (B := B) (hR1.vv)
    have b1b := one_alloc10 w1 (.cells #[.int .i64 N, .int .i64 B, .slice a1 H.length c1] 35)
    have hPn := hP.below b1b
    have BWn := BW.trans (b1b.mono BW.size)
    go_wp2_with fail
    generalize hXb1 : w1.alloc (.cells #[.int .i64 N, .int .i64 B, .slice a1 H.length c1] 35) = W1 at *
    generalize hYb1 : w1.heap.size = b1 at *
    clear hXb1 hYb1 hP BW
    have hP := hPn
    have BW := BWn
    clear hPn BWn
    have HPS : Hid (∀ Y, Below W1.heap.size W1 Y → PsS Y pa cs.length cs) := fun Y hY => hP.below hY
    obtain ⟨N2, B2, H2, ok, hR⟩ : ∃ N2 B2 H2 ok, turnL N B H cs = ((N2, B2, H2), ok) := ⟨_, _, _, _, rfl⟩
    have HF2 : Hid (FitsH H2) := by have := (turnL_small N B H cs).1; rw [hR] at this; exact this
    have HOK : Hid (ok = true → okRel N2 B2 H2 ∧ H2.length = H.length ∧ ∀ i q, q ∈ row H i → q ∈ row H2 i) := fun h => by
      have h1 := turnL_ok (N := N) (B := B) (H := H) (cs := cs)
      have h2 := turnL_keeps (N := N) (B := B) (H := H) (cs := cs)
      rw [hR] at h1 h2
      exact ⟨h1 h, h2 h⟩
    have hNB2 : I64r N2 ∧ I64r B2 := by
      have := turnL_nb N B H cs
      rw [hR] at this
      simp only [] at this
      unfold I64r
      omega
    have hT1 := hTrn N B a1 c1 H pa pc cs W1 hN6 hB6 b1R.vv hP hFP hpc.1 hpc.2 (by omega)
    have HT2 : Hid (∀ Y, Below W1.heap.size W1 Y → Calls Try.prog 34 #[.agg #[.int .i64 N, .int .i64 B, .slice a1 H.length c1], .slice pa cs.length pc] Y fun e w' => ∃ a c, e = .returned (.tuple #[.agg #[.int .i64 N2, .int .i64 B2, .slice a H2.length c], .bool ok]) ∧ NewO Y w' (iicl H2) (.slice a H2.length c)) := fun Y hY => by
      have := turnS_any N B a1 H.length c1 H pa cs.length pc cs Y (b1R.vv.below hY) (hP.below hY) (by omega)
      rw [hR] at this
      exact this
    rw [hR] at hT1
    unfold AnsRl rlV at hT1
    simp only [] at hT1
    clear hP hR
    refine hT1.mono ?_
    rintro e w2 ⟨a2, c2, rfl, hO2⟩
    have v2 := newO_vv hO2 HF2.out
    have hb2 := newO_below hO2
    have K1 := hb2
    clear hO2 hT1
    have b1Rn := b1R.below hb2
    have BWn := BW.trans (hb2.mono BW.size)
    clear b1R BW
    have b1R := b1Rn
    have BW := BWn
    clear b1Rn BWn
    have b2R := Rb.new (N := N2) (B := B2) (v2)
    have b2b := one_alloc10 w2 (.cells #[.int .i64 N2, .int .i64 B2, .slice a2 H2.length c2] 35)
    have b1Rn := b1R.below b2b
    have BWn := BW.trans (b2b.mono BW.size)
    have K2 := K1.trans (b2b.mono K1.size)
    go_wp2_with fail
    generalize hXb2 : w2.alloc (.cells #[.int .i64 N2, .int .i64 B2, .slice a2 H2.length c2] 35) = W2 at *
    generalize hYb2 : w2.heap.size = b2 at *
    clear hXb2 hYb2 b1R BW
    have b1R := b1Rn
    have BW := BWn
    clear b1Rn BWn
    refine (drawChn_any a len cap bs W2 (hv.below BW (Nat.le_refl _)) hl).mono ?_
    rintro e w3 ⟨Nq, Bq, a3, c3, Hq, rfl, hR3, hb3⟩
    unfold rlV
    have hNq := hR3.sm.1
    have hBq := hR3.sm.2.1
    have HFq : Hid (SmR Nq Bq Hq) := hR3.sm
    have K3 := K2.trans (hb3.mono K2.size)
    have b1Rn := b1R.below hb3
    have b2Rn := b2R.below hb3
    have BWn := BW.trans (hb3.mono BW.size)
    clear b1R b2R BW
    have b1R := b1Rn
    have b2R := b2Rn
    have BW := BWn
    clear b1Rn b2Rn BWn
    have b3R := Rb.new (N := Nq) (B := Bq) (hR3.vv)
    have b3b := one_alloc10 w3 (.cells #[.int .i64 Nq, .int .i64 Bq, .slice a3 Hq.length c3] 35)
    have b1Rn := b1R.below b3b
    have b2Rn := b2R.below b3b
    have BWn := BW.trans (b3b.mono BW.size)
    have K4 := K3.trans (b3b.mono K3.size)
    go_wp2_with fail
    generalize hXb3 : w3.alloc (.cells #[.int .i64 Nq, .int .i64 Bq, .slice a3 Hq.length c3] 35) = W3 at *
    generalize hYb3 : w3.heap.size = b3 at *
    clear hXb3 hYb3 b1R b2R BW
    have b1R := b1Rn
    have b2R := b2Rn
    have BW := BWn
    clear b1Rn b2Rn BWn
    refine (drawFull_any a len cap bs W3 (hv.below BW (Nat.le_refl _)) hl).mono ?_
    rintro e w4 ⟨Nf, Bf, a4, c4, Hf, rfl, hR4, hb4⟩
    unfold rlV
    have hNf := hR4.sm.1
    have hBf := hR4.sm.2.1
    have K5 := K4.trans (hb4.mono K4.size)
    have b1Rn := b1R.below hb4
    have b2Rn := b2R.below hb4
    have b3Rn := b3R.below hb4
    have BWn := BW.trans (hb4.mono BW.size)
    clear b1R b2R b3R BW
    have b1R := b1Rn
    have b2R := b2Rn
    have b3R := b3Rn
    have BW := BWn
    clear b1Rn b2Rn b3Rn BWn
    have b4R := Rb.new (N := Nf) (B := Bf) (hR4.vv)
    have b4b := one_alloc10 w4 (.cells #[.int .i64 Nf, .int .i64 Bf, .slice a4 Hf.length c4] 35)
    have b1Rn := b1R.below b4b
    have b2Rn := b2R.below b4b
    have b3Rn := b3R.below b4b
    have BWn := BW.trans (b4b.mono BW.size)
    have K6 := K5.trans (b4b.mono K5.size)
    go_wp2_with fail
    generalize hXb4 : w4.alloc (.cells #[.int .i64 Nf, .int .i64 Bf, .slice a4 Hf.length c4] 35) = W4 at *
    generalize hYb4 : w4.heap.size = b4 at *
    clear hXb4 hYb4 b1R b2R b3R BW
    have b1R := b1Rn
    have b2R := b2Rn
    have b3R := b3Rn
    have BW := BWn
    clear b1Rn b2Rn b3Rn BWn
    refine (drawNew_any a len cap bs W4 (hv.below BW (Nat.le_refl _)) hl).mono ?_
    rintro e w5 ⟨Na, Ba, rfl, hNa, hBa, hb5⟩
    have K7 := K6.trans (hb5.mono K6.size)
    have b1Rn := b1R.below hb5
    have b2Rn := b2R.below hb5
    have b3Rn := b3R.below hb5
    have b4Rn := b4R.below hb5
    have BWn := BW.trans (hb5.mono BW.size)
    clear b1R b2R b3R b4R BW
    have b1R := b1Rn
    have b2R := b2Rn
    have b3R := b3Rn
    have b4R := b4Rn
    have BW := BWn
    clear b1Rn b2Rn b3Rn b4Rn BWn
    obtain ⟨Nw, Bw, Hw, okw, hRw⟩ : ∃ Nw Bw Hw okw, newL Na Ba = ((Nw, Bw, Hw), okw) := ⟨_, _, _, _, rfl⟩
    have HFw : Hid (FitsH Hw) := by have := (newL_small Na Ba).1; rw [hRw] at this; exact this
    have hNw1 := hNew Na Ba w5 ⟨by omega, by omega⟩ ⟨by omega, by omega⟩
    have HNw2 : Hid (∀ Y, Calls Try.prog 43 #[.int .i64 Na, .int .i64 Ba] Y fun e w' => ∃ a c, e = .returned (.tuple #[.agg #[.int .i64 Nw, .int .i64 Bw, .slice a Hw.length c], .bool okw]) ∧ NewO Y w' (iicl Hw) (.slice a Hw.length c)) := fun Y => by
      have := newS_any Na Ba Y
      rw [hRw] at this
      exact this
    rw [hRw] at hNw1
    unfold AnsRl rlV at hNw1
    simp only [] at hNw1
    clear hRw
    go_wp2_with fail
    refine hNw1.mono ?_
    rintro e w6 ⟨a6, c6, rfl, hO6⟩
    have v6 := newO_vv hO6 HFw.out
    have hb6 := newO_below hO6
    have K8 := K7.trans (hb6.mono K7.size)
    clear hO6 hNw1
    have b1Rn := b1R.below hb6
    have b2Rn := b2R.below hb6
    have b3Rn := b3R.below hb6
    have b4Rn := b4R.below hb6
    have BWn := BW.trans (hb6.mono BW.size)
    clear b1R b2R b3R b4R BW
    have b1R := b1Rn
    have b2R := b2Rn
    have b3R := b3Rn
    have b4R := b4Rn
    have BW := BWn
    clear b1Rn b2Rn b3Rn b4Rn BWn
    have b5R := Rb.new (N := Nw) (B := Bw) (v6)
    have b5b := one_alloc10 w6 (.cells #[.int .i64 Nw, .int .i64 Bw, .slice a6 Hw.length c6] 35)
    have b1Rn := b1R.below b5b
    have b2Rn := b2R.below b5b
    have b3Rn := b3R.below b5b
    have b4Rn := b4R.below b5b
    have BWn := BW.trans (b5b.mono BW.size)
    have K9 := K8.trans (b5b.mono K8.size)
    obtain ⟨p0, p1, p2⟩ := b1Rn.bx.r3
    go_wp2_with fail
    generalize hXb5 : w6.alloc (.cells #[.int .i64 Nw, .int .i64 Bw, .slice a6 Hw.length c6] 35) = W5 at *
    generalize hYb5 : w6.heap.size = b5 at *
    clear hXb5 hYb5 b1R b2R b3R b4R BW
    have b1R := b1Rn
    have b2R := b2Rn
    have b3R := b3Rn
    have b4R := b4Rn
    have BW := BWn
    clear b1Rn b2Rn b3Rn b4Rn BWn
    clear p0 p1 p2
    refine (HT2.out W5 K9).mono ?_
    rintro e w7 ⟨a7, c7, rfl, hO7⟩
    have v7 := newO_vv hO7 HF2.out
    have hb7 := newO_below hO7
    clear hO7 K1 K2 K3 K4 K5 K6 K7 K8 K9 HT2
    have b1Rn := b1R.below hb7
    have b2Rn := b2R.below hb7
    have b3Rn := b3R.below hb7
    have b4Rn := b4R.below hb7
    have b5Rn := b5R.below hb7
    have BWn := BW.trans (hb7.mono BW.size)
    clear b1R b2R b3R b4R b5R BW
    have b1R := b1Rn
    have b2R := b2Rn
    have b3R := b3Rn
    have b4R := b4Rn
    have b5R := b5Rn
    have BW := BWn
    clear b1Rn b2Rn b3Rn b4Rn b5Rn BWn
    have b6R := Rb.new (N := N2) (B := B2) (v7)
    have b6b := one_alloc10 w7 (.cells #[.int .i64 N2, .int .i64 B2, .slice a7 H2.length c7] 35)
    have b1Rn := b1R.below b6b
    have b2Rn := b2R.below b6b
    have b3Rn := b3R.below b6b
    have b4Rn := b4R.below b6b
    have b5Rn := b5R.below b6b
    have BWn := BW.trans (b6b.mono BW.size)
    go_wp2_with fail
    generalize hXb6 : w7.alloc (.cells #[.int .i64 N2, .int .i64 B2, .slice a7 H2.length c7] 35) = W6 at *
    generalize hYb6 : w7.heap.size = b6 at *
    clear hXb6 hYb6 b1R b2R b3R b4R b5R BW
    have b1R := b1Rn
    have b2R := b2Rn
    have b3R := b3Rn
    have b4R := b4Rn
    have b5R := b5Rn
    have BW := BWn
    clear b1Rn b2Rn b3Rn b4Rn b5Rn BWn
    have hW6 : Below W6.heap.size W6 W6.drew := (Same.drewN W6 1).below
    have KS : ∀ Y, Below W6.heap.size W6 Y → (fun Y : World => Y.cell? ⟨b1, 0, none⟩ = some (.int .i64 N) ∧ Y.cell? ⟨b1, 1, none⟩ = some (.int .i64 B) ∧ Y.cell? ⟨b1, 2, none⟩ = some (.slice a1 H.length c1) ∧ Y.cell? ⟨b2, 0, none⟩ = some (.int .i64 N2) ∧ Y.cell? ⟨b2, 1, none⟩ = some (.int .i64 B2) ∧ Y.cell? ⟨b2, 2, none⟩ = some (.slice a2 H2.length c2) ∧ Y.cell? ⟨b3, 0, none⟩ = some (.int .i64 Nq) ∧ Y.cell? ⟨b3, 1, none⟩ = some (.int .i64 Bq) ∧ Y.cell? ⟨b3, 2, none⟩ = some (.slice a3 Hq.length c3) ∧ Y.cell? ⟨b4, 0, none⟩ = some (.int .i64 Nf) ∧ Y.cell? ⟨b4, 1, none⟩ = some (.int .i64 Bf) ∧ Y.cell? ⟨b4, 2, none⟩ = some (.slice a4 Hf.length c4) ∧ Y.cell? ⟨b6, 0, none⟩ = some (.int .i64 N2) ∧ Y.cell? ⟨b6, 1, none⟩ = some (.int .i64 B2) ∧ Y.cell? ⟨b6, 2, none⟩ = some (.slice a7 H2.length c7)) Y := fun Y h => ⟨(b1R.bx.below h).r3.1, (b1R.bx.below h).r3.2.1, (b1R.bx.below h).r3.2.2, (b2R.bx.below h).r3.1, (b2R.bx.below h).r3.2.1, (b2R.bx.below h).r3.2.2, (b3R.bx.below h).r3.1, (b3R.bx.below h).r3.2.1, (b3R.bx.below h).r3.2.2, (b4R.bx.below h).r3.1, (b4R.bx.below h).r3.2.1, (b4R.bx.below h).r3.2.2, (b6R.bx.below h).r3.1, (b6R.bx.below h).r3.2.1, (b6R.bx.below h).r3.2.2⟩
    have hqN : I64r Nq := i64r_small hNq
    have hqB : I64r Bq := i64r_small hBq
    have hfN : I64r Nf := i64r_small hNf
    have hfB : I64r Bf := i64r_small hBf
    have hzl : (chainL Nq Bq Hq).length ≤ maxLen := by have := chainL_len Nq Bq Hq; unfold maxLen; omega
    have C1 := likeR_any N2 B2 a2 a7 H2.length c2 c7 H2 W6.drew (b2R.vv.below hW6) (b6R.vv.below hW6)
    have C2 := fun Y hY => hChn Nq Bq a3 c3 Hq Y hqN hqB (b3R.vv.below hY)
    have C3 := fun Y hY => chnS_any Nq Bq a3 Hq.length c3 Hq Y (b3R.vv.below hY)
    have C5 := fun Y hY => hFul Nf Bf a4 c4 Hf Y hfN hfB (b4R.vv.below hY)
    have C6 := fun Y hY => fulS_any Nf Bf a4 Hf.length c4 Hf Y (b4R.vv.below hY)
    have C7 := fun Y hY => hRok N B a1 c1 H Y hN6 hB6 (b1R.vv.below hY)
    have C8 := fun Y hY => rokS_any N B a1 H.length c1 H Y (b1R.vv.below hY)
    generalize chainL Nq Bq Hq = Z at *
    generalize fullB Nf Bf Hf = tf at *
    generalize decide (okRel N B H) = tr at *
    unfold rlV at C1 C2 C3 C5 C6 C7 C8
    go_region_held3 (fun Y : World => Y.cell? ⟨b1, 0, none⟩ = some (.int .i64 N) ∧ Y.cell? ⟨b1, 1, none⟩ = some (.int .i64 B) ∧ Y.cell? ⟨b1, 2, none⟩ = some (.slice a1 H.length c1) ∧ Y.cell? ⟨b2, 0, none⟩ = some (.int .i64 N2) ∧ Y.cell? ⟨b2, 1, none⟩ = some (.int .i64 B2) ∧ Y.cell? ⟨b2, 2, none⟩ = some (.slice a2 H2.length c2) ∧ Y.cell? ⟨b3, 0, none⟩ = some (.int .i64 Nq) ∧ Y.cell? ⟨b3, 1, none⟩ = some (.int .i64 Bq) ∧ Y.cell? ⟨b3, 2, none⟩ = some (.slice a3 Hq.length c3) ∧ Y.cell? ⟨b4, 0, none⟩ = some (.int .i64 Nf) ∧ Y.cell? ⟨b4, 1, none⟩ = some (.int .i64 Bf) ∧ Y.cell? ⟨b4, 2, none⟩ = some (.slice a4 Hf.length c4) ∧ Y.cell? ⟨b6, 0, none⟩ = some (.int .i64 N2) ∧ Y.cell? ⟨b6, 1, none⟩ = some (.int .i64 B2) ∧ Y.cell? ⟨b6, 2, none⟩ = some (.slice a7 H2.length c7))
      (first | (with_reducible exact KS _ bV8) | (with_reducible exact KS _ bV7) | (with_reducible exact KS _ bV6) | (with_reducible exact KS _ bV5) | (with_reducible exact KS _ bV4) | (with_reducible exact KS _ bV3) | (with_reducible exact KS _ bV2) | (with_reducible exact KS _ bV1) | exact KS _ hW6)
      (first
        | (go_at_call 35; refine C1.mono ?_; rintro e V1 ⟨rfl, gr1⟩; have bV1 : Below W6.heap.size W6 V1 := hW6.trans (gr1.1.mono hW6.size))
        | (go_at_call 37; refine (C2 V1 bV1).mono ?_; rintro e V2 ⟨a8, c8, rfl, hO8⟩; have hP8 := newO_ps hO8; have bV2 : Below W6.heap.size W6 V2 := bV1.trans ((newO_below hO8).mono bV1.size))
        | (go_at_call 38; refine (C3 V2 bV2).mono ?_; rintro e V3 h9; obtain ⟨a9, c9, rfl, hO9⟩ := h9.ps; have hP9 := newO_ps hO9; have hP8' := hP8.below (newO_below hO9); have bV3 : Below W6.heap.size W6 V3 := bV2.trans ((newO_below hO9).mono bV2.size))
        | (go_at_call 36; refine (likePsV_any a8 a9 Z.length c8 c9 Z V3 hP8' hP9 hzl).mono ?_; rintro e V4 ⟨rfl, gr4⟩; have bV4 : Below W6.heap.size W6 V4 := bV3.trans (gr4.1.mono bV3.size))
        | (go_at_call 39; refine (C5 V4 bV4).mono ?_; rintro e V5 ⟨rfl, gr5⟩; have bV5 : Below W6.heap.size W6 V5 := bV4.trans (gr5.mono bV4.size))
        | (go_at_call 40; refine (C6 V5 bV5).mono ?_; rintro e V6 ⟨rfl, gr6⟩; have bV6 : Below W6.heap.size W6 V6 := bV5.trans (gr6.1.mono bV5.size))
        | (go_at_call 41; refine (C7 V6 bV6).mono ?_; rintro e V7 ⟨rfl, gr7⟩; have bV7 : Below W6.heap.size W6 V7 := bV6.trans (gr7.mono bV6.size))
        | (go_at_call 42; refine (C8 V7 bV7).mono ?_; rintro e V8 ⟨rfl, gr8⟩; have bV8 : Below W6.heap.size W6 V8 := bV7.trans (gr8.1.mono bV7.size)))
    clear C1 C2 C3 C5 C6 C7 C8 KS gr1 gr4 gr5 gr6 gr7 gr8 hO8 hP8 h9 hO9 hP9 hP8' bV1 bV2 bV3 bV4 bV5 bV6 bV7
    have b1Rn := b1R.below bV8
    have b2Rn := b2R.below bV8
    have b5Rn := b5R.below bV8
    have BWn := BW.trans (bV8.mono BW.size)
    clear b1R b2R b5R BW
    have b1R := b1Rn
    have b2R := b2Rn
    have b5R := b5Rn
    have BW := BWn
    clear b1Rn b2Rn b5Rn BWn
    go_wp2_with fail
    refine (HNw2.out V8).mono ?_
    rintro e w8 ⟨a8, c8, rfl, hO8⟩
    have v8 := newO_vv hO8 HFw.out
    have hb8 := newO_below hO8
    clear hO8 HNw2
    have b1Rn := b1R.below hb8
    have b2Rn := b2R.below hb8
    have b5Rn := b5R.below hb8
    have BWn := BW.trans (hb8.mono BW.size)
    clear b1R b2R b5R BW
    have b1R := b1Rn
    have b2R := b2Rn
    have b5R := b5Rn
    have BW := BWn
    clear b1Rn b2Rn b5Rn BWn
    have b7R := Rb.new (N := Nw) (B := Bw) (v8)
    have b7b := one_alloc10 w8 (.cells #[.int .i64 Nw, .int .i64 Bw, .slice a8 Hw.length c8] 35)
    have b1Rn := b1R.below b7b
    have b2Rn := b2R.below b7b
    have b5Rn := b5R.below b7b
    have BWn := BW.trans (b7b.mono BW.size)
    obtain ⟨p0, p1, p2⟩ := b5Rn.bx.r3
    go_wp2_with fail
    generalize hXb7 : w8.alloc (.cells #[.int .i64 Nw, .int .i64 Bw, .slice a8 Hw.length c8] 35) = W7 at *
    generalize hYb7 : w8.heap.size = b7 at *
    clear hXb7 hYb7 b1R b2R b5R BW
    have b1R := b1Rn
    have b2R := b2Rn
    have b5R := b5Rn
    have BW := BWn
    clear b1Rn b2Rn b5Rn BWn
    clear p0 p1 p2
    refine (likeR_any Nw Bw a6 a8 Hw.length c6 c8 Hw W7 b5R.vv b7R.vv).mono ?_
    rintro e V9 ⟨rfl, gr9⟩
    have gr9b := gr9.1
    have b1Rn := b1R.below gr9b
    have b2Rn := b2R.below gr9b
    have BWn := BW.trans (gr9b.mono BW.size)
    clear b1R b2R BW
    have b1R := b1Rn
    have b2R := b2Rn
    have BW := BWn
    clear b1Rn b2Rn BWn
    clear b5R b7R gr9 gr9b v8
    cases ok
    · skip
      have hv9 := hv.below BW (Nat.le_refl _)
      go_wp2_with fail
      refine (pick_any a len cap bs 1 6 V9 hv9 hl (by omega) (by omega) (by omega) (by omega)).mono ?_
      rintro e w9 ⟨x1, rfl, hx0, hx1, hw9⟩
      rw [hw9]
      clear hw9
      obtain ⟨NN, hNN, hNN1, hNN7⟩ : ∃ NN : Nat, 1 + x1 = (NN : Int) ∧ 1 ≤ NN ∧ NN < 7 := ⟨(1 + x1).toNat, by omega, by omega, by omega⟩
      have o1 : 1 + x1 ≤ 9223372036854775807 := by omega
      go_wp2_with fail
      refine (pick_any a len cap bs 2 6 V9 hv9 hl (by omega) (by omega) (by omega) (by omega)).mono ?_
      rintro e w9 ⟨x2, rfl, hy0, hy1, hw9⟩
      rw [hw9]
      clear hw9
      obtain ⟨BB, hBB, hBB1, hBB7⟩ : ∃ BB : Nat, 1 + x2 = (BB : Int) ∧ 1 ≤ BB ∧ BB < 7 := ⟨(1 + x2).toNat, by omega, by omega, by omega⟩
      have o2 : 1 + x2 ≤ 9223372036854775807 := by omega
      have hNw := hNew (NN : Int) (BB : Int) V9 ⟨by omega, by omega⟩ ⟨by omega, by omega⟩
      have hnl : newL (NN : Int) (BB : Int) = (((NN : Int), (BB : Int), newH NN BB), true) := by
        rw [newL, if_pos (by omega)]
        simp
      have HOK0 : Hid (okRel (NN : Int) (BB : Int) (newH NN BB)) := new_ok (by omega) (by omega)
      have HCK0 : Hid (chkC NN BB (newH NN BB) (if NN = 1 then 0 else BB + NN - 2) = true) := chain_turns hNN1 hNN7 hBB1 hBB7
      rw [hnl] at hNw
      unfold AnsRl rlV at hNw
      simp only [] at hNw
      clear hnl
      generalize newH NN BB = H8 at *
      go_wp2_with fail
      refine hNw.mono ?_
      rintro e wA ⟨a8, c8, rfl, hO8⟩
      have v8 := newO_vv hO8 (okRel_small HOK0.out).1
      have hb8 := newO_below hO8
      clear hO8 hNw hv9
      have BWn := BW.trans (hb8.mono BW.size)
      clear BW hb8
      have BW := BWn
      clear BWn
      have hb8w := BW.size
      have b8R := Rb.new (N := (NN : Int)) (B := (BB : Int)) (v8)
      have b8b := one_alloc10 wA (.cells #[.int .i64 (NN : Int), .int .i64 (BB : Int), .slice a8 H8.length c8] 35)
      have BWn := BW.trans (b8b.mono BW.size)
      go_wp2_with fail
      generalize hXb8 : wA.alloc (.cells #[.int .i64 (NN : Int), .int .i64 (BB : Int), .slice a8 H8.length c8] 35) = W8 at *
      generalize hYb8 : wA.heap.size = b8 at *
      clear hXb8 hYb8 BW
      have BW := BWn
      clear BWn
      obtain ⟨tt, htt⟩ : ∃ tt, tt = (if NN = 1 then 0 else BB + NN - 2) := ⟨_, rfl⟩
      have HTT : Hid (tt = (if NN = 1 then 0 else BB + NN - 2)) := htt
      have htt12 : tt ≤ 12 := by rw [htt]; split <;> omega
      rw [← htt] at HCK0
      clear htt
      go_loopw [23] (fun v wr => ∃ (t m : Nat) (a9 : Option Addr) (c9 : Nat) (H9 : List (List Int)), t + m = tt ∧ v = .int .i64 (t : Int) ∧ chkC NN BB H9 m = true ∧ okRel (NN : Int) (BB : Int) H9 ∧ Rb wr b8 (NN : Int) (BB : Int) a9 c9 H9 ∧ Below w.heap.size w wr) (fun v _ => tt - (intOf v).toNat)
      case atStart => exact ⟨0, tt, a8, c8, H8, by omega, rfl, HCK0.out, HOK0.out, b8R, BW⟩
      case round =>
        clear b8R BW HOK0 HCK0 v8
        obtain ⟨t, m, a9, c9, H9, htm, rfl, hck, hok9, hR9, BW⟩ := hrel
        have HCK : Hid (chkC NN BB H9 m = true) := hck
        have HOK9 : Hid (okRel (NN : Int) (BB : Int) H9) := hok9
        have HTM : Hid (t + m = tt) := htm
        have ht12 : t ≤ 12 := by omega
        have C1 := hFul (NN : Int) (BB : Int) a9 c9 H9 wr ⟨by omega, by omega⟩ ⟨by omega, by omega⟩ hR9.vv
        unfold rlV at C1
        obtain ⟨y0, y1, y2⟩ := hR9.bx.r3
        clear hck hok9 htm
        by_cases hf : fullH (BB : Int) H9
        · have hfb : fullB (NN : Int) (BB : Int) H9 = true := decide_eq_true ⟨HOK9.out, hf⟩
          have HM : Hid (m = 0) := chkC_full HCK.out hf
          rw [hfb] at C1
          clear hfb
          go_wp2_with fail
          refine C1.mono ?_
          rintro e wB ⟨rfl, hbB⟩
          have HB : Hid (Below w.heap.size w wB) := BW.trans (hbB.mono BW.size)
          clear hbB BW hR9 y0 y1 y2 C1
          have u1 : (BB : Int) + (NN : Int) ≤ 9223372036854775807 := by omega
          have u2 : (BB : Int) + (NN : Int) - 2 ≤ 9223372036854775807 := by omega
          have u3 : -9223372036854775808 ≤ (BB : Int) + (NN : Int) - 2 := by omega
          by_cases hn1 : NN = 1
          · have n1 : ((NN : Int) == 1) = true := by simp; omega
            have HE : Hid (((t : Int) == 0) = true) := by
              have h1 := HTT.out
              have h2 := HTM.out
              have h3 := HM.out
              rw [if_pos hn1] at h1
              rw [Hid]
              simp
              omega
            go_wp2
            go_ret
            exact ⟨ret_bool HE.out, HB.out⟩
          · have n1 : ((NN : Int) == 1) = false := by simp; omega
            have HE : Hid (((t : Int) == (BB : Int) + (NN : Int) - 2) = true) := by
              have h1 := HTT.out
              have h2 := HTM.out
              have h3 := HM.out
              rw [if_neg hn1] at h1
              rw [Hid]
              simp
              omega
            go_wp2
            go_ret
            exact ⟨ret_bool HE.out, HB.out⟩
        · have hfb : fullB (NN : Int) (BB : Int) H9 = false := decide_eq_false (fun h => hf h.2)
          obtain ⟨m', hm', hto, hck'⟩ := chkC_next HCK.out hf
          rw [hfb] at C1
          have hcl : chainL (NN : Int) (BB : Int) H9 = chn H9 (NN - 1) := by rw [chainL, if_pos HOK9.out]; simp
          rw [← hcl] at hto hck'
          have HM : Hid (t + 1 + m' = tt) := by have := HTM.out; rw [Hid]; omega
          have HCK2 : Hid (chkC NN BB (outs H9 (chainL (NN : Int) (BB : Int) H9) (chainL (NN : Int) (BB : Int) H9).length) m' = true) := hck'
          have HOK2 : Hid (okRel (NN : Int) (BB : Int) (outs H9 (chainL (NN : Int) (BB : Int) H9) (chainL (NN : Int) (BB : Int) H9).length)) := outs_ok HOK9.out hto _ (Nat.le_refl _)
          have t40 : (t : Int) < 40 := by omega
          go_wp2_with fail
          refine C1.mono ?_
          rintro e WF ⟨rfl, hbF⟩
          have BF : Below w.heap.size w WF := BW.trans (hbF.mono BW.size)
          have RF := hR9.below hbF
          have bF0 : Below WF.heap.size WF WF.drew := (Same.drewN WF 1).below
          have SS : ∀ Y, Below WF.heap.size WF Y → (Y.cell? ⟨b8, 0, none⟩ = some (.int .i64 (NN : Int)) ∧ Y.cell? ⟨b8, 1, none⟩ = some (.int .i64 (BB : Int)) ∧ Y.cell? ⟨b8, 2, none⟩ = some (.slice a9 H9.length c9) ∧ Below WF.heap.size WF Y) := fun Y h => ⟨(RF.bx.below h).r3.1, (RF.bx.below h).r3.2.1, (RF.bx.below h).r3.2.2, h⟩
          have hfp := pass_fits (okRel_sm HOK9.out)
          have hcn := chainL_len (NN : Int) (BB : Int) H9
          have C2 : ∀ Y, (Y.cell? ⟨b8, 0, none⟩ = some (.int .i64 (NN : Int)) ∧ Y.cell? ⟨b8, 1, none⟩ = some (.int .i64 (BB : Int)) ∧ Y.cell? ⟨b8, 2, none⟩ = some (.slice a9 H9.length c9) ∧ Below WF.heap.size WF Y) → Calls Try.prog 37 #[.agg #[.int .i64 (NN : Int), .int .i64 (BB : Int), .slice a9 H9.length c9]] Y fun e w' => ∃ ca cc, e = .returned (.slice ca (chainL (NN : Int) (BB : Int) H9).length cc) ∧ PsS w' ca (chainL (NN : Int) (BB : Int) H9).length (chainL (NN : Int) (BB : Int) H9) ∧ ((chainL (NN : Int) (BB : Int) H9).length ≤ cc ∧ cc ≤ maxLen) ∧ Below WF.heap.size WF w' ∧ Below Y.heap.size Y w' := fun Y hY => (hChn (NN : Int) (BB : Int) a9 c9 H9 Y ⟨by omega, by omega⟩ ⟨by omega, by omega⟩ (RF.vv.below hY.2.2.2)).mono (fun e w' ⟨ca, cc, he, hO⟩ => ⟨ca, cc, he, newO_ps hO, newO_le hO, hY.2.2.2.trans ((newO_below hO).mono hY.2.2.2.size), newO_below hO⟩)
          have C3 : ∀ Y ca cc, (Y.cell? ⟨b8, 0, none⟩ = some (.int .i64 (NN : Int)) ∧ Y.cell? ⟨b8, 1, none⟩ = some (.int .i64 (BB : Int)) ∧ Y.cell? ⟨b8, 2, none⟩ = some (.slice a9 H9.length c9) ∧ Below WF.heap.size WF Y) → PsS Y ca (chainL (NN : Int) (BB : Int) H9).length (chainL (NN : Int) (BB : Int) H9) → (chainL (NN : Int) (BB : Int) H9).length ≤ cc ∧ cc ≤ maxLen → Calls Try.prog 29 #[.agg #[.int .i64 (NN : Int), .int .i64 (BB : Int), .slice a9 H9.length c9], .slice ca (chainL (NN : Int) (BB : Int) H9).length cc] Y fun e w' => ∃ a5 c5 f5, e = .returned (.tuple #[.agg #[.int .i64 (NN : Int), .int .i64 (BB : Int), .slice a5 (outs H9 (chainL (NN : Int) (BB : Int) H9) (chainL (NN : Int) (BB : Int) H9).length).length c5], .bool true]) ∧ Cel.ow w' (iicl (outs H9 (chainL (NN : Int) (BB : Int) H9) (chainL (NN : Int) (BB : Int) H9).length)) (.slice a5 (outs H9 (chainL (NN : Int) (BB : Int) H9) (chainL (NN : Int) (BB : Int) H9).length).length c5) f5 ∧ (∀ b, f5 b → Y.heap.size ≤ b) ∧ Below WF.heap.size WF w' ∧ Below Y.heap.size Y w' := fun Y ca cc hY hp hc => by
            have h := hTrn (NN : Int) (BB : Int) a9 c9 H9 ca cc (chainL (NN : Int) (BB : Int) H9) Y ⟨by omega, by omega⟩ ⟨by omega, by omega⟩ (RF.vv.below hY.2.2.2) hp hfp hc.1 hc.2 (by omega)
            rw [turnL, if_pos ⟨HOK9.out, chain_turn HOK9.out⟩] at h
            refine h.mono ?_
            rintro e w' ⟨a5, c5, he, f5, h1, h2, h3⟩
            exact ⟨a5, c5, f5, he, h1, h2, hY.2.2.2.trans (h3.mono hY.2.2.2.size), h3⟩
          generalize chainL (NN : Int) (BB : Int) H9 = cs9 at *
          generalize outs H9 cs9 cs9.length = HX at *
          clear hto hck' hcl hfb hfp hcn C1 y0 y1 y2
          have b8l := RF.bx.lt
          go_wp2_with fail
          go_cut [24, 25] from 154 to 172 (fun s24 s25 wx => XC WF wx (NN : Int) (BB : Int) HX s24 s25)
          case first =>
            go_region_held3 (fun Y : World => Y.cell? ⟨b8, 0, none⟩ = some (.int .i64 (NN : Int)) ∧ Y.cell? ⟨b8, 1, none⟩ = some (.int .i64 (BB : Int)) ∧ Y.cell? ⟨b8, 2, none⟩ = some (.slice a9 H9.length c9) ∧ Below WF.heap.size WF Y)
              (first | (with_reducible exact SS _ D3) | (with_reducible exact SS _ D2) | exact SS _ (D3.alloc D3.size _) | exact SS _ (below3 D3 (by omega)) | exact SS _ (D2.alloc D2.size _) | exact SS _ (bF0.alloc bF0.size _) | exact SS _ (belowN (n := 1) ((Below.refl _ _).alloc (Nat.le_refl _) _)) | exact SS _ bF0)
              (first
                | (go_at_call 37; refine (C2 _ (by assumption)).mono ?_; rintro e V2 ⟨ca, cc, rfl, hP2, hc2, D2, E2⟩; have s2 := D2.size; (try have z2 := zc_drew E2); (try have z2 := zc_alloc E2))
                | (go_at_call 29; refine (C3 _ _ _ (by assumption) (by first | exact hP2 | exact hP2.below (one_alloc10 _ _)) hc2).mono ?_; rintro e V3 ⟨a5, c5, f5, rfl, ho5, hf5, D3, E3⟩; have s3 := D3.size; have e3 := E3.size; (try have z3 := z2.below E3); (try have z3 := (Bx.new V2 35 #[.int .i64 0, .int .i64 0, .slice none 0 0]).below E3); (try obtain ⟨zc0, zc1, zc2⟩ := z3.r3); (try have zf0 := z3.f 0); (try have zf1 := z3.f 1); (try have zf2 := z3.f 2)))
            all_goals (try go_wp2_with fail)
            all_goals go_meet
            all_goals first
              | exact xc_set z3 (by first | omega | exact Nat.le_refl _) ho5 (fun b hb => by have := hf5 b hb; have := E2.size; simp at *; omega) D3
              | exact xc_new ho5 (fun b hb => by have := hf5 b hb; omega) D3
          case rest =>
            obtain ⟨xb, a5, c5, f5, rfl, rfl, q5, ho5, hf5, hb5⟩ := hcut
            obtain ⟨z0, z1, z2⟩ := q5.r3
            have bx5 := RF.bx.below hb5
            have tf0 := bx5.f 0
            have tf1 := bx5.f 1
            have tf2 := bx5.f 2
            obtain ⟨t0, t1, t2⟩ := bx5.r3
            have HN : Hid (Rb (((wc.setCell ⟨b8, 0, none⟩ (.int .i64 (NN : Int))).setCell ⟨b8, 1, none⟩ (.int .i64 (BB : Int))).setCell ⟨b8, 2, none⟩ (.slice a5 HX.length c5)) b8 (NN : Int) (BB : Int) a5 c5 HX ∧ Below w.heap.size w (((wc.setCell ⟨b8, 0, none⟩ (.int .i64 (NN : Int))).setCell ⟨b8, 1, none⟩ (.int .i64 (BB : Int))).setCell ⟨b8, 2, none⟩ (.slice a5 HX.length c5))) :=
              ⟨⟨((bx5.setC 0 _).setC 1 _).setC 2 _, vv_of_vw (Cel.ow_vw (Cel.ow_wrt ho5 (wrt3 wc b8) (fun b hb e => by have := hf5 b hb; omega))) (okRel_small HOK2.out).1⟩, below3 (BF.trans (hb5.mono BF.size)) hb8w⟩
            have ht1 : (t : Int) + 1 ≤ 9223372036854775807 := by omega
            clear SS C2 C3 q5 ho5 hf5 hb5 bx5 RF hR9
            go_wp2
            go_roundw
            case rel => exact ⟨t + 1, m', a5, c5, HX, HM.out, by go_num, HCK2.out, HOK2.out, HN.out.1, HN.out.2⟩
            case measure => have := HM.out; simp [intOf]; omega
    · obtain ⟨hokx, hlx, hkeep⟩ := HOK.out rfl
      have HLX : Hid (H2.length = H.length) := hlx
      have HKP : Hid (∀ i q, q ∈ row H i → q ∈ row H2 i) := hkeep
      have C9 := hRok N2 B2 a2 c2 H2 V9 hNB2.1 hNB2.2 b2R.vv
      rw [decide_eq_true hokx] at C9
      unfold rlV at C9
      clear hlx hkeep hokx
      obtain ⟨x0, x1, x2⟩ := b2R.bx.r3
      go_wp2_with fail
      refine C9.mono ?_
      rintro e VA ⟨rfl, grA⟩
      clear x0 x1 x2 C9
      have b1Rn := b1R.below grA
      have b2Rn := b2R.below grA
      have BWn := BW.trans (grA.mono BW.size)
      clear b1R b2R BW
      have b1R := b1Rn
      have b2R := b2Rn
      have BW := BWn
      clear b1Rn b2Rn BWn
      go_wp2_with fail
      go_loopw [17] (fun v wr => ∃ j : Nat, j ≤ H.length ∧ v = .int .i64 (j : Int) ∧ Below VA.heap.size VA wr) (fun v _ => H.length - (intOf v).toNat)
      case atStart => exact ⟨0, Nat.zero_le _, rfl, Below.refl _ _⟩
      case round =>
        obtain ⟨j, hj, rfl, hbr⟩ := hrel
        have b1W := b1R.below hbr
        obtain ⟨p0, p1, p2⟩ := b1W.bx.r3
        have hHm : H.length ≤ 12 := hR1.sm.2.2.2.1
        by_cases hjl : j < H.length
        · have j1 : (j : Int) < (H.length : Int) := by omega
          have HBR : Hid (Below VA.heap.size VA wr) := hbr
          clear b1W hbr
          go_wp2_with fail
          clear p0 p1 p2
          go_loopw [18] (fun v wi => ∃ k : Nat, k ≤ (row H j).length ∧ v = .int .i64 (k : Int) ∧ Below VA.heap.size VA wi) (fun v _ => (row H j).length - (intOf v).toNat)
          case atStart => exact ⟨0, Nat.zero_le _, rfl, HBR.out⟩
          case round =>
            clear HBR
            obtain ⟨k, hk, rfl, hbi⟩ := hrel
            have b1W := b1R.below hbi
            have b2W := b2R.below hbi
            obtain ⟨p0, p1, p2⟩ := b1W.bx.r3
            obtain ⟨s0, s1, s2⟩ := b2W.bx.r3
            obtain ⟨rb, ro, rx, rc, ra, rcell, rvec, rle, rmx⟩ := b1W.vv.row j hjl
            obtain ⟨xb, xo, xx, xc, xa, xcell, xvec, xle, xmx⟩ := b2W.vv.row j (by rw [HLX.out]; exact hjl)
            subst ra xa
            have j0 : (0 : Int) ≤ (j : Int) := by omega
            have j2 : (j : Int) < (H2.length : Int) := by rw [HLX.out]; omega
            have hrm : (row H j).length ≤ 156 := Nat.le_trans (tot_mono H hjl) hR1.sm.2.2.2.2
            have HBI : Hid (Below VA.heap.size VA wr) := hbi
            clear b1W b2W hbi
            by_cases hkl : k < (row H j).length
            · have k1 : (k : Int) < ((row H j).length : Int) := by omega
              have k0 : (0 : Int) ≤ (k : Int) := by omega
              have hin : el (row H j) k ∈ row H2 j := HKP.out j _ (mem_el10 hkl)
              obtain ⟨hrl, _, hrc⟩ := rvec
              obtain ⟨hxl, _, hxc⟩ := xvec
              rcases hrc with h0 | ⟨rvb, rvo, rfl, hrc⟩
              · omega
              rcases hxc with h0 | ⟨xvb, xvo, rfl, hxc⟩
              · rw [List.eq_nil_of_length_eq_zero h0] at hin; simp at hin
              have kc := hrc k hkl
              have hHas := fun q => has9_any xvb xvo (row H2 j).length xc (el (row H j) k) (row H2 j) (wr.drewN q) rfl (fun i hi => hxc i hi) (by omega)
              rw [decide_eq_true hin] at hHas
              clear hin hrc hxc hrl hxl
              generalize el (row H j) k = z at *
              generalize (row H2 j).length = rl2 at *
              go_wp2_with fail
              go_quiet ((go_at_call 44; exact (hHas _).mono (fun e w' h => ⟨h.1, _, h.2⟩)))
              go_wp2
              go_roundw
              case rel => exact ⟨k + 1, by omega, by go_num, belowN HBI.out⟩
              case measure => simp [intOf]; omega
            · have k1 : ¬ ((k : Int) < ((row H j).length : Int)) := by omega
              clear rvec xvec
              go_wp2
              go_roundw
              case rel => exact ⟨j + 1, by omega, by go_num, HBI.out⟩
              case measure => simp [intOf]; omega
        · have j1 : ¬ ((j : Int) < (H.length : Int)) := by omega
          have BWn := BW.trans (hbr.mono BW.size)
          clear BW b1W hjl
          have BW := BWn
          clear BWn
          have hv9 := hv.below BW (Nat.le_refl _)
          go_wp2_with fail
          refine (pick_any a len cap bs 1 6 wr hv9 hl (by omega) (by omega) (by omega) (by omega)).mono ?_
          rintro e w9 ⟨x1, rfl, hx0, hx1, hw9⟩
          rw [hw9]
          clear hw9
          obtain ⟨NN, hNN, hNN1, hNN7⟩ : ∃ NN : Nat, 1 + x1 = (NN : Int) ∧ 1 ≤ NN ∧ NN < 7 := ⟨(1 + x1).toNat, by omega, by omega, by omega⟩
          have o1 : 1 + x1 ≤ 9223372036854775807 := by omega
          go_wp2_with fail
          refine (pick_any a len cap bs 2 6 wr hv9 hl (by omega) (by omega) (by omega) (by omega)).mono ?_
          rintro e w9 ⟨x2, rfl, hy0, hy1, hw9⟩
          rw [hw9]
          clear hw9
          obtain ⟨BB, hBB, hBB1, hBB7⟩ : ∃ BB : Nat, 1 + x2 = (BB : Int) ∧ 1 ≤ BB ∧ BB < 7 := ⟨(1 + x2).toNat, by omega, by omega, by omega⟩
          have o2 : 1 + x2 ≤ 9223372036854775807 := by omega
          have hNw := hNew (NN : Int) (BB : Int) wr ⟨by omega, by omega⟩ ⟨by omega, by omega⟩
          have hnl : newL (NN : Int) (BB : Int) = (((NN : Int), (BB : Int), newH NN BB), true) := by
            rw [newL, if_pos (by omega)]
            simp
          have HOK0 : Hid (okRel (NN : Int) (BB : Int) (newH NN BB)) := new_ok (by omega) (by omega)
          have HCK0 : Hid (chkC NN BB (newH NN BB) (if NN = 1 then 0 else BB + NN - 2) = true) := chain_turns hNN1 hNN7 hBB1 hBB7
          rw [hnl] at hNw
          unfold AnsRl rlV at hNw
          simp only [] at hNw
          clear hnl
          generalize newH NN BB = H8 at *
          go_wp2_with fail
          refine hNw.mono ?_
          rintro e wA ⟨a8, c8, rfl, hO8⟩
          have v8 := newO_vv hO8 (okRel_small HOK0.out).1
          have hb8 := newO_below hO8
          clear hO8 hNw hv9
          have BWn := BW.trans (hb8.mono BW.size)
          clear BW hb8
          have BW := BWn
          clear BWn
          have hb8w := BW.size
          have b8R := Rb.new (N := (NN : Int)) (B := (BB : Int)) (v8)
          have b8b := one_alloc10 wA (.cells #[.int .i64 (NN : Int), .int .i64 (BB : Int), .slice a8 H8.length c8] 35)
          have BWn := BW.trans (b8b.mono BW.size)
          go_wp2_with fail
          generalize hXb8 : wA.alloc (.cells #[.int .i64 (NN : Int), .int .i64 (BB : Int), .slice a8 H8.length c8] 35) = W8 at *
          generalize hYb8 : wA.heap.size = b8 at *
          clear hXb8 hYb8 BW
          have BW := BWn
          clear BWn
          obtain ⟨tt, htt⟩ : ∃ tt, tt = (if NN = 1 then 0 else BB + NN - 2) := ⟨_, rfl⟩
          have HTT : Hid (tt = (if NN = 1 then 0 else BB + NN - 2)) := htt
          have htt12 : tt ≤ 12 := by rw [htt]; split <;> omega
          rw [← htt] at HCK0
          clear htt
          go_loopw [23] (fun v wr => ∃ (t m : Nat) (a9 : Option Addr) (c9 : Nat) (H9 : List (List Int)), t + m = tt ∧ v = .int .i64 (t : Int) ∧ chkC NN BB H9 m = true ∧ okRel (NN : Int) (BB : Int) H9 ∧ Rb wr b8 (NN : Int) (BB : Int) a9 c9 H9 ∧ Below w.heap.size w wr) (fun v _ => tt - (intOf v).toNat)
          case atStart => exact ⟨0, tt, a8, c8, H8, by omega, rfl, HCK0.out, HOK0.out, b8R, BW⟩
          case round =>
            clear b8R BW HOK0 HCK0 v8
            obtain ⟨t, m, a9, c9, H9, htm, rfl, hck, hok9, hR9, BW⟩ := hrel
            have HCK : Hid (chkC NN BB H9 m = true) := hck
            have HOK9 : Hid (okRel (NN : Int) (BB : Int) H9) := hok9
            have HTM : Hid (t + m = tt) := htm
            have ht12 : t ≤ 12 := by omega
            have C1 := hFul (NN : Int) (BB : Int) a9 c9 H9 wr ⟨by omega, by omega⟩ ⟨by omega, by omega⟩ hR9.vv
            unfold rlV at C1
            obtain ⟨y0, y1, y2⟩ := hR9.bx.r3
            clear hck hok9 htm
            by_cases hf : fullH (BB : Int) H9
            · have hfb : fullB (NN : Int) (BB : Int) H9 = true := decide_eq_true ⟨HOK9.out, hf⟩
              have HM : Hid (m = 0) := chkC_full HCK.out hf
              rw [hfb] at C1
              clear hfb
              go_wp2_with fail
              refine C1.mono ?_
              rintro e wB ⟨rfl, hbB⟩
              have HB : Hid (Below w.heap.size w wB) := BW.trans (hbB.mono BW.size)
              clear hbB BW hR9 y0 y1 y2 C1
              have u1 : (BB : Int) + (NN : Int) ≤ 9223372036854775807 := by omega
              have u2 : (BB : Int) + (NN : Int) - 2 ≤ 9223372036854775807 := by omega
              have u3 : -9223372036854775808 ≤ (BB : Int) + (NN : Int) - 2 := by omega
              by_cases hn1 : NN = 1
              · have n1 : ((NN : Int) == 1) = true := by simp; omega
                have HE : Hid (((t : Int) == 0) = true) := by
                  have h1 := HTT.out
                  have h2 := HTM.out
                  have h3 := HM.out
                  rw [if_pos hn1] at h1
                  rw [Hid]
                  simp
                  omega
                go_wp2
                go_ret
                exact ⟨ret_bool HE.out, HB.out⟩
              · have n1 : ((NN : Int) == 1) = false := by simp; omega
                have HE : Hid (((t : Int) == (BB : Int) + (NN : Int) - 2) = true) := by
                  have h1 := HTT.out
                  have h2 := HTM.out
                  have h3 := HM.out
                  rw [if_neg hn1] at h1
                  rw [Hid]
                  simp
                  omega
                go_wp2
                go_ret
                exact ⟨ret_bool HE.out, HB.out⟩
            · have hfb : fullB (NN : Int) (BB : Int) H9 = false := decide_eq_false (fun h => hf h.2)
              obtain ⟨m', hm', hto, hck'⟩ := chkC_next HCK.out hf
              rw [hfb] at C1
              have hcl : chainL (NN : Int) (BB : Int) H9 = chn H9 (NN - 1) := by rw [chainL, if_pos HOK9.out]; simp
              rw [← hcl] at hto hck'
              have HM : Hid (t + 1 + m' = tt) := by have := HTM.out; rw [Hid]; omega
              have HCK2 : Hid (chkC NN BB (outs H9 (chainL (NN : Int) (BB : Int) H9) (chainL (NN : Int) (BB : Int) H9).length) m' = true) := hck'
              have HOK2 : Hid (okRel (NN : Int) (BB : Int) (outs H9 (chainL (NN : Int) (BB : Int) H9) (chainL (NN : Int) (BB : Int) H9).length)) := outs_ok HOK9.out hto _ (Nat.le_refl _)
              have t40 : (t : Int) < 40 := by omega
              go_wp2_with fail
              refine C1.mono ?_
              rintro e WF ⟨rfl, hbF⟩
              have BF : Below w.heap.size w WF := BW.trans (hbF.mono BW.size)
              have RF := hR9.below hbF
              have bF0 : Below WF.heap.size WF WF.drew := (Same.drewN WF 1).below
              have SS : ∀ Y, Below WF.heap.size WF Y → (Y.cell? ⟨b8, 0, none⟩ = some (.int .i64 (NN : Int)) ∧ Y.cell? ⟨b8, 1, none⟩ = some (.int .i64 (BB : Int)) ∧ Y.cell? ⟨b8, 2, none⟩ = some (.slice a9 H9.length c9) ∧ Below WF.heap.size WF Y) := fun Y h => ⟨(RF.bx.below h).r3.1, (RF.bx.below h).r3.2.1, (RF.bx.below h).r3.2.2, h⟩
              have hfp := pass_fits (okRel_sm HOK9.out)
              have hcn := chainL_len (NN : Int) (BB : Int) H9
              have C2 : ∀ Y, (Y.cell? ⟨b8, 0, none⟩ = some (.int .i64 (NN : Int)) ∧ Y.cell? ⟨b8, 1, none⟩ = some (.int .i64 (BB : Int)) ∧ Y.cell? ⟨b8, 2, none⟩ = some (.slice a9 H9.length c9) ∧ Below WF.heap.size WF Y) → Calls Try.prog 37 #[.agg #[.int .i64 (NN : Int), .int .i64 (BB : Int), .slice a9 H9.length c9]] Y fun e w' => ∃ ca cc, e = .returned (.slice ca (chainL (NN : Int) (BB : Int) H9).length cc) ∧ PsS w' ca (chainL (NN : Int) (BB : Int) H9).length (chainL (NN : Int) (BB : Int) H9) ∧ ((chainL (NN : Int) (BB : Int) H9).length ≤ cc ∧ cc ≤ maxLen) ∧ Below WF.heap.size WF w' ∧ Below Y.heap.size Y w' := fun Y hY => (hChn (NN : Int) (BB : Int) a9 c9 H9 Y ⟨by omega, by omega⟩ ⟨by omega, by omega⟩ (RF.vv.below hY.2.2.2)).mono (fun e w' ⟨ca, cc, he, hO⟩ => ⟨ca, cc, he, newO_ps hO, newO_le hO, hY.2.2.2.trans ((newO_below hO).mono hY.2.2.2.size), newO_below hO⟩)
              have C3 : ∀ Y ca cc, (Y.cell? ⟨b8, 0, none⟩ = some (.int .i64 (NN : Int)) ∧ Y.cell? ⟨b8, 1, none⟩ = some (.int .i64 (BB : Int)) ∧ Y.cell? ⟨b8, 2, none⟩ = some (.slice a9 H9.length c9) ∧ Below WF.heap.size WF Y) → PsS Y ca (chainL (NN : Int) (BB : Int) H9).length (chainL (NN : Int) (BB : Int) H9) → (chainL (NN : Int) (BB : Int) H9).length ≤ cc ∧ cc ≤ maxLen → Calls Try.prog 29 #[.agg #[.int .i64 (NN : Int), .int .i64 (BB : Int), .slice a9 H9.length c9], .slice ca (chainL (NN : Int) (BB : Int) H9).length cc] Y fun e w' => ∃ a5 c5 f5, e = .returned (.tuple #[.agg #[.int .i64 (NN : Int), .int .i64 (BB : Int), .slice a5 (outs H9 (chainL (NN : Int) (BB : Int) H9) (chainL (NN : Int) (BB : Int) H9).length).length c5], .bool true]) ∧ Cel.ow w' (iicl (outs H9 (chainL (NN : Int) (BB : Int) H9) (chainL (NN : Int) (BB : Int) H9).length)) (.slice a5 (outs H9 (chainL (NN : Int) (BB : Int) H9) (chainL (NN : Int) (BB : Int) H9).length).length c5) f5 ∧ (∀ b, f5 b → Y.heap.size ≤ b) ∧ Below WF.heap.size WF w' ∧ Below Y.heap.size Y w' := fun Y ca cc hY hp hc => by
                have h := hTrn (NN : Int) (BB : Int) a9 c9 H9 ca cc (chainL (NN : Int) (BB : Int) H9) Y ⟨by omega, by omega⟩ ⟨by omega, by omega⟩ (RF.vv.below hY.2.2.2) hp hfp hc.1 hc.2 (by omega)
                rw [turnL, if_pos ⟨HOK9.out, chain_turn HOK9.out⟩] at h
                refine h.mono ?_
                rintro e w' ⟨a5, c5, he, f5, h1, h2, h3⟩
                exact ⟨a5, c5, f5, he, h1, h2, hY.2.2.2.trans (h3.mono hY.2.2.2.size), h3⟩
              generalize chainL (NN : Int) (BB : Int) H9 = cs9 at *
              generalize outs H9 cs9 cs9.length = HX at *
              clear hto hck' hcl hfb hfp hcn C1 y0 y1 y2
              have b8l := RF.bx.lt
              go_wp2_with fail
              go_cut [24, 25] from 154 to 172 (fun s24 s25 wx => XC WF wx (NN : Int) (BB : Int) HX s24 s25)
              case first =>
                go_region_held3 (fun Y : World => Y.cell? ⟨b8, 0, none⟩ = some (.int .i64 (NN : Int)) ∧ Y.cell? ⟨b8, 1, none⟩ = some (.int .i64 (BB : Int)) ∧ Y.cell? ⟨b8, 2, none⟩ = some (.slice a9 H9.length c9) ∧ Below WF.heap.size WF Y)
                  (first | (with_reducible exact SS _ D3) | (with_reducible exact SS _ D2) | exact SS _ (D3.alloc D3.size _) | exact SS _ (below3 D3 (by omega)) | exact SS _ (D2.alloc D2.size _) | exact SS _ (bF0.alloc bF0.size _) | exact SS _ (belowN (n := 1) ((Below.refl _ _).alloc (Nat.le_refl _) _)) | exact SS _ bF0)
                  (first
                    | (go_at_call 37; refine (C2 _ (by assumption)).mono ?_; rintro e V2 ⟨ca, cc, rfl, hP2, hc2, D2, E2⟩; have s2 := D2.size; (try have z2 := zc_drew E2); (try have z2 := zc_alloc E2))
                    | (go_at_call 29; refine (C3 _ _ _ (by assumption) (by first | exact hP2 | exact hP2.below (one_alloc10 _ _)) hc2).mono ?_; rintro e V3 ⟨a5, c5, f5, rfl, ho5, hf5, D3, E3⟩; have s3 := D3.size; have e3 := E3.size; (try have z3 := z2.below E3); (try have z3 := (Bx.new V2 35 #[.int .i64 0, .int .i64 0, .slice none 0 0]).below E3); (try obtain ⟨zc0, zc1, zc2⟩ := z3.r3); (try have zf0 := z3.f 0); (try have zf1 := z3.f 1); (try have zf2 := z3.f 2)))
                all_goals (try go_wp2_with fail)
                all_goals go_meet
                all_goals first
                  | exact xc_set z3 (by first | omega | exact Nat.le_refl _) ho5 (fun b hb => by have := hf5 b hb; have := E2.size; simp at *; omega) D3
                  | exact xc_new ho5 (fun b hb => by have := hf5 b hb; omega) D3
              case rest =>
                obtain ⟨xb, a5, c5, f5, rfl, rfl, q5, ho5, hf5, hb5⟩ := hcut
                obtain ⟨z0, z1, z2⟩ := q5.r3
                have bx5 := RF.bx.below hb5
                have tf0 := bx5.f 0
                have tf1 := bx5.f 1
                have tf2 := bx5.f 2
                obtain ⟨t0, t1, t2⟩ := bx5.r3
                have HN : Hid (Rb (((wc.setCell ⟨b8, 0, none⟩ (.int .i64 (NN : Int))).setCell ⟨b8, 1, none⟩ (.int .i64 (BB : Int))).setCell ⟨b8, 2, none⟩ (.slice a5 HX.length c5)) b8 (NN : Int) (BB : Int) a5 c5 HX ∧ Below w.heap.size w (((wc.setCell ⟨b8, 0, none⟩ (.int .i64 (NN : Int))).setCell ⟨b8, 1, none⟩ (.int .i64 (BB : Int))).setCell ⟨b8, 2, none⟩ (.slice a5 HX.length c5))) :=
                  ⟨⟨((bx5.setC 0 _).setC 1 _).setC 2 _, vv_of_vw (Cel.ow_vw (Cel.ow_wrt ho5 (wrt3 wc b8) (fun b hb e => by have := hf5 b hb; omega))) (okRel_small HOK2.out).1⟩, below3 (BF.trans (hb5.mono BF.size)) hb8w⟩
                have ht1 : (t : Int) + 1 ≤ 9223372036854775807 := by omega
                clear SS C2 C3 q5 ho5 hf5 hb5 bx5 RF hR9
                go_wp2
                go_roundw
                case rel => exact ⟨t + 1, m', a5, c5, HX, HM.out, by go_num, HCK2.out, HOK2.out, HN.out.1, HN.out.2⟩
                case measure => have := HM.out; simp [intOf]; omega
end Go.Proofs.Ytdniajogojlmdaa
