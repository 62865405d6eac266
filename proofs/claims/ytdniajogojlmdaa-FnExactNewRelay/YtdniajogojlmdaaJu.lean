/-
  Several texts in one: Rit Rip Lrh.
-/
import Derived.Test.YtdniajogojlmdaaJn
import Derived.Test.YtdniajogojlmdaaJt
import Derived.Test.YtdniajogojlmdaaJr
import Derived.Deep.RegionHeld3
/-
  Relays and passes as things that an exact law holds.
-/
namespace Go.Proofs.Ytdniajogojlmdaa
set_option linter.unusedVariables false
set_option linter.unusedSimpArgs false
open Go.RowKit Go.Sort

/-- All rows are numbers of 64 bits. -/
def FitsH (H : List (List Int)) : Prop := ∀ i, i < H.length → Fits (row H i)
theorem it_vv {w : World} {a : Option Addr} {c lo hi : Nat} {H : List (List Int)} (h : It w [iicl H] [.slice a H.length c] lo hi) (hf : FitsH H) : VV w a H.length c H := vv_of_vw h.vw1 hf
theorem toR_it (N B : Int) (a : Option Addr) (cap : Nat) (H : List (List Int)) (w : World) (hv : VV w a H.length cap H) (hl : H.length ≤ 1048576) (hr : tot H H.length ≤ 1048576) :
    Calls Try.prog 47 #[rlV N B a H.length cap] w fun e w' => ∃ a', e = .returned (rlV N B a' H.length H.length) ∧ It w' [iicl H] [.slice a' H.length H.length] w.heap.size w'.heap.size ∧ Below w.heap.size w w' :=
  (toR_any N B a H.length cap H w hv hl (fun i hi => by have := tot_mono H hi; omega)).mono (fun e w' ⟨a', he, h⟩ => ⟨a', he, It.of_newO h, by obtain ⟨_, _, _, h⟩ := h; exact h⟩)
theorem markR_it (N B : Int) (a : Option Addr) (c k0 lo hi : Nat) (H : List (List Int)) (w : World) (h : It w [iicl H] [.slice a H.length c] lo hi) (hk : k0 ≤ 1000) (hn : H.length ≤ 1048576) (ht : tot H H.length ≤ 9000000) :
    Calls Try.prog 49 #[rlV N B a H.length c, .int .i64 (k0 : Int)] w fun e w' => e = .returned (.int .i64 ((k0 + tot H H.length : Nat) : Int)) ∧ It w' [iicl (mkd H k0 H.length)] [.slice a H.length c] lo hi ∧ Wrt (Iv lo hi) w w' := by
  obtain ⟨f, h1, h2⟩ := h.ow1
  exact (markR_any N B a c k0 H f w h1 hk hn ht).mono (fun e w' ⟨he, h3, h4⟩ => ⟨he, It.of1 h3 h2, h4.iv h2⟩)
theorem heldR_it (N B : Int) (a : Option Addr) (c k0 lo hi : Nat) (H : List (List Int)) (w : World) (h : It w [iicl (mkd H k0 H.length)] [.slice a H.length c] lo hi) (hk : k0 ≤ 1000) (hn : H.length ≤ 1048576) (ht : tot H H.length ≤ 9000000) :
    Calls Try.prog 50 #[rlV N B a H.length c, .int .i64 (k0 : Int)] w fun e w' => e = .returned (.int .i64 ((k0 + tot H H.length : Nat) : Int)) ∧ Below w.heap.size w w' := by
  obtain ⟨f, h1, h2⟩ := h.ow1
  exact heldR_any N B a c k0 H f w h1 hk hn ht

/-- A list of passes. -/
def pcl (L : List Ps) : Cel := .sl 3 L.length (pl (pvs L))
theorem it_op {w : World} {g off n c lo hi : Nat} {L : List Ps} (h : OP w g off n c L) (hn : L.length = n) (hg : lo ≤ g ∧ g < hi) : It w [pcl L] [.slice (some ⟨g, off, none⟩) n c] lo hi := by
  subst hn
  exact It.of1 (f := fun b => b = g) ⟨_, c, pvs L, some g, fun _ => False, rfl, OSo.of h, owL_pl.2 ⟨rfl, fun _ h => h⟩, fun _ _ h => h, fun b => by simp [eq_comm]⟩ (fun b hb => by rw [hb]; exact hg)
theorem it_ps {w : World} {a : Option Addr} {c lo hi : Nat} {L : List Ps} (h : It w [pcl L] [.slice a L.length c] lo hi) : PsS w a L.length L := by
  obtain ⟨a0, c0, us, e0, h1, h2, h3, h4, hL⟩ := h.vw1
  cases e0
  have e := vwL_pl.1 hL
  subst e
  refine ⟨rfl, ?_⟩
  rcases h4 with h4 | ⟨b, off, rfl, hc⟩
  · exact .inl h4
  · refine .inr ⟨b, off, rfl, fun i hi => ?_⟩
    obtain ⟨x0, x1, x2⟩ := pvs_at L i hi
    exact ⟨(hc _ (by omega)).trans x0, by rw [Nat.add_assoc]; exact (hc _ (by omega)).trans x1, by rw [Nat.add_assoc]; exact (hc _ (by omega)).trans x2⟩
end Go.Proofs.Ytdniajogojlmdaa

/-
  eqPassS, markPassS, heldPassS, likePasses at lists of passes that an exact law holds, those without an element too.
-/
namespace Go.Proofs.Ytdniajogojlmdaa
set_option linter.unusedVariables false
set_option linter.unusedSimpArgs false
open Go.RowKit Go.Sort

set_option maxRecDepth 100000 in
set_option maxHeartbeats 1600000 in
theorem eqPsV_any (a a' : Option Addr) (n cap cap' : Nat) (L : List Ps) (w : World) (hc : PsS w a n L) (hc' : PsS w a' n L) (hm : n ≤ maxLen) :
    Calls Try.prog 53 #[.slice a n cap, .slice a' n cap'] w fun e w' => e = .returned (.bool true) ∧ Grew w w' := by
  unfold maxLen at hm
  have HC : Hid (PsS w a n L) := hc
  have HC' : Hid (PsS w a' n L) := hc'
  have hbb : ((n : Int) != (n : Int)) = false := by simp
  clear hc hc'
  go_enter Try.func53, Try.ntmps53
  go_wp2
  go_loopw [5] (fun i wr => ∃ k : Nat, k ≤ n ∧ i = .int .i64 k ∧ Grew w wr) (fun i _ => n - (intOf i).toNat)
  case atStart => exact ⟨0, Nat.zero_le _, rfl, Grew.refl _⟩
  case round =>
    obtain ⟨k, hk, rfl, hgr⟩ := hrel
    have HG : Hid (Grew w wr) := hgr
    by_cases hlt : k < n
    · obtain ⟨_, h0 | ⟨b, off, rfl, hcs⟩⟩ := HC.out.below hgr.1
      · omega
      obtain ⟨_, h0 | ⟨b', off', rfl, hcs'⟩⟩ := HC'.out.below hgr.1
      · omega
      obtain ⟨c0, c1, c2⟩ := hcs k hlt
      obtain ⟨d0, d1, d2⟩ := hcs' k hlt
      have p0 := fun n os => (Grew.of_grow wr n os).cell c0
      have p1 := fun n os => (Grew.of_grow wr n os).cell c1
      have p2 := fun n os => (Grew.of_grow wr n os).cell c2
      have q0 := fun n os => (Grew.of_grow wr n os).cell d0
      have q1 := fun n os => (Grew.of_grow wr n os).cell d1
      have q2 := fun n os => (Grew.of_grow wr n os).cell d2
      have hE := fun X => eqPs1_any (pat L k).1 (pat L k).2.1 (pat L k).2.2 X
      have hi1 : (k : Int) < (n : Int) := by omega
      have hi0 : (0 : Int) ≤ (k : Int) := by omega
      clear hgr c0 c1 c2 d0 d1 d2 hcs hcs'
      go_wp2_with fail
      have hmix := mixedR
      go_quiet_grown (first | (go_at_call 94; exact grown_at (hE _)))
      go_wp2
      go_roundw
      case rel => exact ⟨k + 1, by omega, by go_num, HG.out.trans (Grew.of_grow _ _ _)⟩
      case measure => simp [intOf]; omega
    · go_wp2
      go_ret
      exact ⟨rfl, HG.out⟩

set_option maxRecDepth 100000 in
set_option maxHeartbeats 1600000 in
theorem likePsV_any (a a' : Option Addr) (n cap cap' : Nat) (L : List Ps) (w : World) (hc : PsS w a n L) (hc' : PsS w a' n L) (hm : n ≤ maxLen) :
    Calls Try.prog 36 #[.slice a n cap, .slice a' n cap'] w fun e w' => e = .returned (.bool true) ∧ Grew w w' := by
  unfold maxLen at hm
  have HC : Hid (PsS w a n L) := hc
  have HC' : Hid (PsS w a' n L) := hc'
  have hbb : ((n : Int) != (n : Int)) = false := by simp
  clear hc hc'
  go_enter Try.func36, Try.ntmps36
  go_wp2
  go_loopw [5] (fun i wr => ∃ k : Nat, k ≤ n ∧ i = .int .i64 k ∧ ∃ q, wr = w.drewN q) (fun i _ => n - (intOf i).toNat)
  case atStart => exact ⟨0, Nat.zero_le _, rfl, 0, rfl⟩
  case round =>
    obtain ⟨k, hk, rfl, q, rfl⟩ := hrel
    by_cases hlt : k < n
    · obtain ⟨_, h0 | ⟨b, off, rfl, hcs⟩⟩ := HC.out
      · omega
      obtain ⟨_, h0 | ⟨b', off', rfl, hcs'⟩⟩ := HC'.out
      · omega
      obtain ⟨c0, c1, c2⟩ := hcs k hlt
      obtain ⟨d0, d1, d2⟩ := hcs' k hlt
      have hi1 : (k : Int) < (n : Int) := by omega
      have hi0 : (0 : Int) ≤ (k : Int) := by omega
      clear hcs hcs'
      generalize (pat L k).1 = x at *
      generalize (pat L k).2.1 = y at *
      generalize (pat L k).2.2 = z at *
      have hmix := mixedR
      go_wp2_with fail
      go_quiet (fail)
      go_wp2
      go_roundw
      case rel => exact ⟨k + 1, by omega, by go_num, _, rfl⟩
      case measure => simp [intOf]; omega
    · go_wp2
      go_ret
      exact ⟨rfl, (Grew.refl _).drewN _⟩

set_option maxHeartbeats 400000 in
theorem markP0_any (a : Option Addr) (cap : Nat) (q : Int) (w : World) : Calls Try.prog 54 #[.slice a 0 cap, .int .i64 q] w fun e w' => e = .returned (.int .i64 q) ∧ w' = w := by
  go_enter Try.func54, Try.ntmps54
  go_wp2
  go_loop [1, 5] (fun p i => i = .int .i64 0 ∧ p = .int .i64 q) (fun _ _ => 0)
  case atStart => exact ⟨rfl, rfl⟩
  case round =>
    obtain ⟨rfl, rfl⟩ := hrel
    go_wp2
    go_ret
    exact ⟨rfl, rfl⟩
set_option maxHeartbeats 400000 in
theorem heldP0_any (a : Option Addr) (cap : Nat) (q : Int) (w : World) : Calls Try.prog 55 #[.slice a 0 cap, .int .i64 q] w fun e w' => e = .returned (.int .i64 q) ∧ w' = w := by
  go_enter Try.func55, Try.ntmps55
  go_wp2
  go_loop [1, 5] (fun p i => i = .int .i64 0 ∧ p = .int .i64 q) (fun _ _ => 0)
  case atStart => exact ⟨rfl, rfl⟩
  case round =>
    obtain ⟨rfl, rfl⟩ := hrel
    go_wp2
    go_ret
    exact ⟨rfl, rfl⟩

/-- Triples of numbers. -/
def tcl (n : Nat) (zs : List Int) : Cel := .sl 3 n (pl (zs.map (Value.int .i64)))
theorem pcl_tcl (L : List Ps) : pcl L = tcl L.length (fl3 L) := by rw [pcl, tcl, pvs_fl]
theorem it_tcl {w : World} {a : Option Addr} {n c lo hi : Nat} {zs : List Int} (h : It w [tcl n zs] [.slice a n c] lo hi) : (n = 0 ∧ zs = []) ∨ ∃ g off, a = some ⟨g, off, none⟩ ∧ O3 w g off n c zs ∧ lo ≤ g ∧ g < hi := by
  obtain ⟨f, ⟨a0, c0, us, G, f', e0, hs, hL, _, hf⟩, h2⟩ := h.ow1
  cases e0
  obtain ⟨rfl, h0⟩ := owL_pl.1 hL
  rcases hs with ⟨h1, _, h3, _⟩ | ⟨g, off, rfl, ho, rfl⟩
  · exact .inl ⟨h1, by simpa using h3⟩
  · exact .inr ⟨g, off, rfl, ho, h2 g ((hf g).2 (.inl rfl))⟩
theorem it_of_o3 {w : World} {g off n c lo hi : Nat} {zs : List Int} (h : O3 w g off n c zs) (hg : lo ≤ g ∧ g < hi) : It w [tcl n zs] [.slice (some ⟨g, off, none⟩) n c] lo hi :=
  It.of1 (f := fun b => b = g) ⟨_, c, _, some g, fun _ => False, rfl, OSo.of h, owL_pl.2 ⟨rfl, fun _ h => h⟩, fun _ _ h => h, fun b => by simp [eq_comm]⟩ (fun b hb => by rw [hb]; exact hg)
theorem markPs_it (a : Option Addr) (n c k0 lo hi : Nat) (zs : List Int) (w : World) (h : It w [tcl n zs] [.slice a n c] lo hi) (hn : n ≤ 1048576) (hk : k0 ≤ 10000000) :
    Calls Try.prog 54 #[.slice a n c, .int .i64 (k0 : Int)] w fun e w' => e = .returned (.int .i64 ((k0 + n * 3 : Nat) : Int)) ∧ It w' [tcl n (marks (n * 3) k0)] [.slice a n c] lo hi ∧ Wrt (Iv lo hi) w w' := by
  rcases it_tcl h with ⟨rfl, rfl⟩ | ⟨g, off, rfl, ho, hg⟩
  · refine (markP0_any a c (k0 : Int) w).mono ?_
    rintro e w' ⟨rfl, rfl⟩
    exact ⟨rfl, h, Wrt.refl _ _⟩
  · refine (markPs_any g off c n k0 zs w ho (by omega) hk).mono ?_
    rintro e w' ⟨rfl, h1, h2⟩
    exact ⟨rfl, it_of_o3 h1 hg, h2.wrt.mono (fun b _ e => by rw [e]; exact hg)⟩
theorem heldPs_it (a : Option Addr) (n c lo hi : Nat) (w : World) (h : It w [tcl n (marks (n * 3) 1)] [.slice a n c] lo hi) (hn : n ≤ 1000000) :
    Calls Try.prog 55 #[.slice a n c, .int .i64 1] w fun e w' => e = .returned (.int .i64 ((1 + n * 3 : Nat) : Int)) ∧ w' = w := by
  rcases it_tcl h with ⟨rfl, _⟩ | ⟨g, off, rfl, ho, hg⟩
  · exact heldP0_any a c 1 w
  · exact heldPs_any g off c n w ho hn
end Go.Proofs.Ytdniajogojlmdaa

/-
  What the program's RelayOk, NewRelay, Turn, Full and Chain answer, and facts on what is answered.
-/
namespace Go.Proofs.Ytdniajogojlmdaa
set_option linter.unusedVariables false
set_option linter.unusedSimpArgs false
open Go.RowKit Go.Sort

/-- A number of 64 bits. -/
def I64r (x : Int) : Prop := -9223372036854775808 ≤ x ∧ x ≤ 9223372036854775807
def FitsP (cs : List Ps) : Prop := ∀ i, i < cs.length → I64r (pat cs i).1 ∧ I64r (pat cs i).2.1 ∧ I64r (pat cs i).2.2
def ImplRelayOk : Prop := ∀ (N B : Int) (a : Option Addr) (cap : Nat) (H : List (List Int)) (w : World), I64r N → I64r B → VV w a H.length cap H → Calls Try.prog 41 #[rlV N B a H.length cap] w fun e w' => e = .returned (.bool (decide (okRel N B H))) ∧ Below w.heap.size w w'
def ImplFull : Prop := ∀ (N B : Int) (a : Option Addr) (cap : Nat) (H : List (List Int)) (w : World), I64r N → I64r B → VV w a H.length cap H → Calls Try.prog 39 #[rlV N B a H.length cap] w fun e w' => e = .returned (.bool (fullB N B H)) ∧ Below w.heap.size w w'
def ImplNewRelay : Prop := ∀ (N B : Int) (w : World), I64r N → I64r B → Calls Try.prog 33 #[.int .i64 N, .int .i64 B] w fun e w' => AnsRl w w' e (newL N B)
def ImplTurn : Prop := ∀ (N B : Int) (a : Option Addr) (cap : Nat) (H : List (List Int)) (ca : Option Addr) (cc : Nat) (cs : List Ps) (w : World), I64r N → I64r B → VV w a H.length cap H → PsS w ca cs.length cs → FitsP cs → cs.length ≤ cc → cc ≤ maxLen → cs.length ≤ 1048576 → Calls Try.prog 29 #[rlV N B a H.length cap, .slice ca cs.length cc] w fun e w' => AnsRl w w' e (turnL N B H cs)
/-- A list of passes as an answer. -/
def AnsPs (w w' : World) (e : Ending) (Z : List Ps) : Prop := ∃ a c, e = .returned (.slice a Z.length c) ∧ NewO w w' (pcl Z) (.slice a Z.length c)
def ImplChain : Prop := ∀ (N B : Int) (a : Option Addr) (cap : Nat) (H : List (List Int)) (w : World), I64r N → I64r B → VV w a H.length cap H → Calls Try.prog 37 #[rlV N B a H.length cap] w fun e w' => AnsPs w w' e (chainL N B H)
theorem AnsP.ps {w w' : World} {e : Ending} {Z : List Ps} (h : AnsP w w' e Z) : AnsPs w w' e Z := by
  obtain ⟨g, off, c, he, hg, ho, hb⟩ := h
  exact ⟨_, c, he, fun b => b = g, ⟨_, c, pvs Z, some g, fun _ => False, rfl, OSo.of ho, owL_pl.2 ⟨rfl, fun _ h => h⟩, fun _ _ h => h, fun b => by simp [eq_comm]⟩, fun b hb => by rw [hb]; exact hg, hb⟩

theorem zero_small : FitsH ([] : List (List Int)) ∧ ([] : List (List Int)).length ≤ 12 ∧ tot [] ([] : List (List Int)).length ≤ 144 := ⟨fun i hi => by simp at hi, by simp, by simp [tot]⟩
theorem tot_le12 (H : List (List Int)) {m : Nat} : ∀ n, (∀ i, i < n → (row H i).length ≤ m) → tot H n ≤ n * m
  | 0, h => by simp [tot]
  | n + 1, h => by
    have := tot_le12 H n (fun i hi => h i (by omega))
    have := h n (by omega)
    simp only [tot, Nat.add_mul]; omega
theorem okRel_small {N B : Int} {H : List (List Int)} (h : okRel N B H) : FitsH H ∧ H.length ≤ 12 ∧ tot H H.length ≤ 144 := by
  obtain ⟨hN, hB, hl, _, hr⟩ := h
  have h12 : H.length ≤ 12 := by omega
  refine ⟨fun i hi x hx => by have := (okRow_iff.1 (hr i hi)).1 x hx; omega, h12, ?_⟩
  have := tot_le12 H (m := 12) H.length (fun i hi => okRow_len (hr i hi) hB.2)
  omega
theorem turnL_small (N B : Int) (H : List (List Int)) (cs : List Ps) : FitsH (turnL N B H cs).1.2.2 ∧ (turnL N B H cs).1.2.2.length ≤ 12 ∧ tot (turnL N B H cs).1.2.2 (turnL N B H cs).1.2.2.length ≤ 144 := by
  unfold turnL
  split
  · rename_i h
    exact okRel_small (outs_ok h.1 h.2 cs.length (Nat.le_refl _))
  · exact zero_small
theorem newL_small (N B : Int) : FitsH (newL N B).1.2.2 ∧ (newL N B).1.2.2.length ≤ 12 ∧ tot (newL N B).1.2.2 (newL N B).1.2.2.length ≤ 144 := by
  unfold newL
  split
  · rename_i h
    have := new_ok (N := N.toNat) (B := B.toNat) (by omega) (by omega)
    exact okRel_small this
  · exact zero_small
theorem chainL_len (N B : Int) (H : List (List Int)) : (chainL N B H).length ≤ 12 := by
  unfold chainL
  split
  · rename_i h
    have hN := h.1
    have : ∀ m, (chn H m).length ≤ m := by
      intro m
      induction m with
      | zero => simp [chn]
      | succ m ih => rw [chn_succ, List.length_append]; have := chnAt_len H m; omega
    have := this (N.toNat - 1)
    omega
  · simp
end Go.Proofs.Ytdniajogojlmdaa
