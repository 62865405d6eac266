/-
  Several texts in one: Fnb Fnv.
-/
import Derived.Test.YtggieamhbfdmhaaLs
import Derived.Test.YtggieamhbfdmhaaKp
import Derived.Test.YtggieamhbfdmhaaJu
import Derived.BigQuiet
/-
  Lists of flags in memory of one's own; the laws' own toBoolS, eqBoolS and markBoolS.
-/
namespace Go.Proofs.Ytggieamhbfdmhaa
set_option linter.unusedVariables false
set_option linter.unusedSimpArgs false
open Go.RowKit Go.Sort

theorem Try.info4b : (Try.prog.info? 4).map (fun i => (i.zero, i.size, i.bytes)) = some (some (.bool false), 1, 1) := by kernel_rfl
def bov (al : List Bool) : List Value := al.map Value.bool
theorem bov_len (al : List Bool) : (bov al).length = al.length := by simp [bov]
theorem bov_get {al : List Bool} {i : Nat} (h : i < al.length) : (bov al)[i]? = some (.bool (fl al i)) := by simp [bov, fl, h]
/-- Flags in a slice of one's own. -/
def OF (w : World) (g off n cap : Nat) (al : List Bool) : Prop := OSl w 1 g off n cap (bov al)
def bocl (al : List Bool) : Cel := .sl 1 al.length (pl (bov al))
theorem ow_bocl {w : World} {al : List Bool} {u : Value} {fp : Fp} : Cel.ow w (bocl al) u fp ↔ ∃ a c G, u = .slice a al.length c ∧ OSo w 1 a al.length c (bov al) G ∧ ∀ b, fp b ↔ G = some b := by
  constructor
  · rintro ⟨a, c, us, G, f, e, h1, h2, h3, h4⟩
    obtain ⟨rfl, h5⟩ := owL_pl.1 h2
    exact ⟨a, c, G, e, h1, fun b => by rw [h4 b]; exact ⟨fun h => h.elim id (fun k => absurd k (h5 b)), .inl⟩⟩
  · rintro ⟨a, c, G, e, h1, h2⟩
    exact ⟨a, c, bov al, G, fun _ => False, e, h1, owL_pl.2 ⟨rfl, fun _ h => h⟩, fun _ _ h => h, fun b => by rw [h2 b]; simp⟩
theorem OF.length {w : World} {g off n cap : Nat} {al : List Bool} (h : OF w g off n cap al) : al.length = n := by have := h.len; rw [bov_len] at this; omega
theorem OF.cellAt {w : World} {g off n cap : Nat} {al : List Bool} (h : OF w g off n cap al) {i : Nat} (hi : i < n) : w.cell? ⟨g, off + i, none⟩ = some (.bool (fl al i)) := by
  have hl := h.length
  rw [h.cell i (by omega)]
  exact bov_get (by omega)
theorem OF.set {w : World} {g off n cap : Nat} {al : List Bool} (h : OF w g off n cap al) {i : Nat} (hi : i < n) (y : Bool) : OF (w.setCell ⟨g, off + i, none⟩ (.bool y)) g off n cap (al.set i y) := by
  have := osl_put h (j := i) (by omega) (.bool y)
  unfold OF
  rw [show bov (al.set i y) = (bov al).set i (.bool y) by simp [bov, List.map_set]]
  exact this
theorem OF.fls {w : World} {g off cap : Nat} {al : List Bool} (h : OF w g off al.length cap al) : FlS w (some ⟨g, off, none⟩) al := .inr ⟨g, off, rfl, fun i hi => h.cellAt hi⟩
theorem OSo.of_of {w : World} {a : Option Addr} {c : Nat} {al : List Bool} {G : Option Nat} (h : OSo w 1 a al.length c (bov al) G) : (al = [] ∧ c = 0 ∧ G = none) ∨ ∃ g off, a = some ⟨g, off, none⟩ ∧ OF w g off al.length c al ∧ G = some g := by
  rcases h with ⟨h1, h2, _, h3, _⟩ | ⟨g, off, ha, ho, hG⟩
  · exact .inl ⟨List.eq_nil_of_length_eq_zero h1, h2, h3⟩
  · exact .inr ⟨g, off, ha, ho, hG⟩
theorem it_fls {w : World} {a : Option Addr} {c lo hi : Nat} {al : List Bool} (h : It w [bocl al] [.slice a al.length c] lo hi) : FlS w a al ∧ al.length ≤ c ∧ c ≤ maxLen := by
  obtain ⟨f, h1, _⟩ := h.ow1
  obtain ⟨a', c', G, e, ho, _⟩ := ow_bocl.1 h1
  cases e
  rcases ho.of_of with ⟨rfl, rfl, _⟩ | ⟨g, off, rfl, hof, _⟩
  · exact ⟨.inl rfl, Nat.le_refl _, Nat.zero_le _⟩
  · exact ⟨hof.fls, hof.le, hof.max⟩
theorem made_of (w : World) (n : Nat) (hn : n ≤ maxLen) : OF (w.alloc (.cells (madeCells #[.bool false] n) 4)) w.heap.size 0 n n (List.replicate n false) := by
  have h := osl_made w #[.bool false] 1 n 4 rfl (by omega) hn
  have e : (List.replicate n (#[Value.bool false] : Array Value).toList).flatten = bov (List.replicate n false) := by
    unfold bov
    rw [List.map_replicate]
    simp
  rw [e, Nat.mul_one] at h
  exact h
def cpF (al : List Bool) (k : Nat) : List Bool := al.take k ++ List.replicate (al.length - k) false
theorem cpF_zero (al : List Bool) : cpF al 0 = List.replicate al.length false := by simp [cpF]
theorem cpF_all (al : List Bool) : cpF al al.length = al := by simp [cpF]
theorem cpF_step {al : List Bool} {k : Nat} (h : k < al.length) : (cpF al k).set k (fl al k) = cpF al (k + 1) := by
  apply List.ext_getElem?
  intro i
  have h1 : ∀ m, m ≤ al.length → (cpF al m)[i]? = if i < m then al[i]? else if i < al.length then some false else none := fun m hm => by
    unfold cpF
    by_cases hi : i < m
    · rw [List.getElem?_append_left (by simp; omega), if_pos hi, List.getElem?_take, if_pos hi]
    · rw [List.getElem?_append_right (by simp; omega), if_neg hi, List.getElem?_replicate]
      simp only [List.length_take]
      by_cases h2 : i < al.length
      · rw [if_pos (by omega), if_pos h2]
      · rw [if_neg (by omega), if_neg h2]
  rw [List.getElem?_set, h1 k (by omega), h1 (k + 1) (by omega)]
  have hl : (cpF al k).length = al.length := by simp [cpF]; omega
  by_cases e : k = i
  · subst e
    simp [hl, h, fl]
  · rw [if_neg e]
    by_cases h2 : i < k
    · rw [if_pos h2, if_pos (by omega)]
    · simp only [h2, show ¬ i < k + 1 by omega, if_false]
set_option maxRecDepth 100000 in
set_option maxHeartbeats 1600000 in
theorem toF_any (a : Option Addr) (cap : Nat) (al : List Bool) (w : World) (hv : FlS w a al) (hm : al.length ≤ 1048576) :
    Calls Try.prog 29 #[.slice a al.length cap] w fun e w' => ∃ a' c', e = .returned (.slice a' al.length c') ∧ NewO w w' (bocl al) (.slice a' al.length c') := by
  have HV : Hid (FlS w a al) := hv
  have hmk := run_make_row' (P := Try.prog) 34 4 (.bool false) 1 Try.underlying34 Try.info4b rfl .i64 .i64 al.length (by omega) (by omega)
  have HS0 : Hid (OF (w.alloc (.cells (madeCells #[.bool false] al.length) 4)) w.heap.size 0 al.length al.length (cpF al 0)) := by
    rw [Hid, cpF_zero]
    exact made_of w al.length (by unfold maxLen; omega)
  have HB0 : Hid (Below w.heap.size w (w.alloc (.cells (madeCells #[.bool false] al.length) 4))) := (Below.refl _ _).alloc (Nat.le_refl _) _
  clear hv
  go_enter Try.func29, Try.ntmps29
  go_wp2_with fail
  clear hmk
  go_loopw [4] (fun i wr => ∃ k : Nat, k ≤ al.length ∧ i = .int .i64 k ∧ OF wr w.heap.size 0 al.length al.length (cpF al k) ∧ Below w.heap.size w wr) (fun i _ => al.length - (intOf i).toNat)
  case atStart => exact ⟨0, Nat.zero_le _, rfl, HS0.out, HB0.out⟩
  case round =>
    obtain ⟨k, hk, rfl, ho, hb⟩ := hrel
    by_cases hlt : k < al.length
    · rcases HV.out with h0 | ⟨b, off, rfl, hc⟩
      · omega
      have hck := (hb.cell (World.block_lt_of_cell? _ _ (hc k hlt))).trans (hc k hlt)
      have hcg := ho.cellAt hlt
      have hfr := ho.free k (by omega)
      rw [Nat.zero_add] at hcg hfr
      have k1 : (k : Int) < (al.length : Int) := by omega
      have k0 : (0 : Int) ≤ (k : Int) := by omega
      have HO : Hid (OF (wr.setCell ⟨w.heap.size, k, none⟩ (.bool (fl al k))) w.heap.size 0 al.length al.length (cpF al (k + 1))) := by
        have := ho.set hlt (fl al k)
        rw [Nat.zero_add, cpF_step hlt] at this
        exact this
      have HB : Hid (Below w.heap.size w (wr.setCell ⟨w.heap.size, k, none⟩ (.bool (fl al k)))) := hb.setCell (p := ⟨w.heap.size, k, none⟩) (Nat.le_refl _) _
      clear ho hb hc
      generalize fl al k = t at *
      go_wp2
      go_roundw
      case rel => exact ⟨k + 1, by omega, by go_num, HO.out, HB.out⟩
      case measure => simp [intOf]; omega
    · have hkl : k = al.length := by omega
      subst hkl
      rw [cpF_all] at ho
      have HE : Hid (NewO w wr (bocl al) (.slice (some ⟨w.heap.size, 0, none⟩) al.length al.length)) := ⟨fun b => b = w.heap.size, ow_bocl.2 ⟨_, _, some w.heap.size, rfl, OSo.of ho, fun b => by simp [eq_comm]⟩, fun b hb => by omega, hb⟩
      clear ho hb
      go_wp2
      go_ret
      exact ⟨_, _, rfl, HE.out⟩
set_option maxRecDepth 100000 in
set_option maxHeartbeats 1600000 in
theorem eqF_any (a a' : Option Addr) (cap cap' : Nat) (al : List Bool) (w : World) (hz : FlS w a al) (hy : FlS w a' al) (hm : al.length ≤ maxLen) :
    Calls Try.prog 33 #[.slice a al.length cap, .slice a' al.length cap'] w fun e w' => e = .returned (.bool true) ∧ Grew w w' := by
  unfold maxLen at hm
  have HZ : Hid (FlS w a al) := hz
  have HY : Hid (FlS w a' al) := hy
  have hne : ((al.length : Int) != (al.length : Int)) = false := by simp
  clear hz hy
  go_enter Try.func33, Try.ntmps33
  go_wp2
  clear hne
  go_loopw [5] (fun i wr => ∃ j : Nat, j ≤ al.length ∧ i = .int .i64 j ∧ ∃ q, wr = w.drewN q) (fun i _ => al.length - (intOf i).toNat)
  case atStart => exact ⟨0, Nat.zero_le _, rfl, 0, rfl⟩
  case round =>
    obtain ⟨j, hj, rfl, q, rfl⟩ := hrel
    by_cases hlt : j < al.length
    · rcases HZ.out with h0 | ⟨b, off, rfl, hc⟩
      · omega
      rcases HY.out with h0 | ⟨b', off', rfl, hc'⟩
      · omega
      have c1 := hc j hlt
      have c2 := hc' j hlt
      have j1 : (j : Int) < (al.length : Int) := by omega
      have j0 : (0 : Int) ≤ (j : Int) := by omega
      generalize fl al j = A at *
      have hb : (A != A) = false := by simp
      clear hc hc'
      have hmix := mixed13
      go_wp2_with fail
      go_quiet (fail)
      go_wp2
      go_roundw
      case rel => exact ⟨j + 1, by omega, by go_num, _, rfl⟩
      case measure => simp [intOf]; omega
    · have hjl : j = al.length := by omega
      subst hjl
      go_wp2
      go_ret
      exact ⟨rfl, (Grew.refl _).drewN _⟩
/-- Flags as they are marked. -/
def mkF (al : List Bool) (k0 : Nat) : Nat → List Bool
  | 0 => al
  | j + 1 => (mkF al k0 j).set j (((k0 + j : Nat) : Int) % 3 == 0)
theorem mkF_len (al : List Bool) (k0 : Nat) : ∀ j, (mkF al k0 j).length = al.length
  | 0 => rfl
  | j + 1 => by rw [mkF, List.length_set]; exact mkF_len al k0 j
set_option maxRecDepth 100000 in
set_option maxHeartbeats 1600000 in
theorem markF_it (a : Option Addr) (c k0 lo hi : Nat) (al : List Bool) (w : World) (h : It w [bocl al] [.slice a al.length c] lo hi) (hk : k0 ≤ 10000000) (hn : al.length ≤ 10000000) :
    Calls Try.prog 35 #[.slice a al.length c, .int .i64 (k0 : Int)] w fun e w' => e = .returned (.int .i64 ((k0 + al.length : Nat) : Int)) ∧ It w' [bocl (mkF al k0 al.length)] [.slice a al.length c] lo hi ∧ Wrt (Iv lo hi) w w' := by
  obtain ⟨f, h1, h2⟩ := h.ow1
  obtain ⟨a', c', G, e, ho, hG⟩ := ow_bocl.1 h1
  cases e
  rcases ho.of_of with ⟨rfl, rfl, _⟩ | ⟨g, off, rfl, hof, rfl⟩
  · have HIT : Hid (It w [bocl []] [.slice a 0 0] lo hi) := h
    clear h h1 h2 ho hG
    simp only [List.length_nil]
    go_enter Try.func35, Try.ntmps35
    go_wp2
    go_loop [1, 5] (fun q i => i = .int .i64 0 ∧ q = .int .i64 (k0 : Int)) (fun _ _ => 0)
    case atStart => exact ⟨rfl, rfl⟩
    case round =>
      obtain ⟨rfl, rfl⟩ := hrel
      go_wp2
      go_ret
      exact ⟨rfl, HIT.out, Wrt.refl _ _⟩
  · have hg := h2 g ((hG g).2 rfl)
    have HG : Hid (lo ≤ g ∧ g < hi) := hg
    have HO0 : Hid (OF w g off al.length c (mkF al k0 0)) := hof
    clear h h1 h2 ho hG hof hg
    go_enter Try.func35, Try.ntmps35
    go_wp2
    go_loopw [1, 5] (fun q i wr => ∃ j : Nat, j ≤ al.length ∧ i = .int .i64 j ∧ q = .int .i64 ((k0 + j : Nat) : Int) ∧ OF wr g off al.length c (mkF al k0 j) ∧ Wrt (Iv lo hi) w wr) (fun _ i _ => al.length - (intOf i).toNat)
    case atStart => exact ⟨0, Nat.zero_le _, rfl, rfl, HO0.out, Wrt.refl _ _⟩
    case round =>
      obtain ⟨j, hj, rfl, rfl, hO, hW⟩ := hrel
      have HO : Hid (OF wr g off al.length c (mkF al k0 j)) := hO
      have HW : Hid (Wrt (Iv lo hi) w wr) := hW
      clear HO0 hW
      by_cases hlt : j < al.length
      · have hc := hO.cellAt hlt
        have hf := hO.free j (by have := hO.le; omega)
        have j1 : (j : Int) < (al.length : Int) := by omega
        have j0 : (0 : Int) ≤ (j : Int) := by omega
        have NO : Hid (OF (wr.setCell ⟨g, off + j, none⟩ (.bool (((k0 + j : Nat) : Int) % 3 == 0))) g off al.length c (mkF al k0 (j + 1))) := hO.set hlt _
        have NW : Hid (Wrt (Iv lo hi) w (wr.setCell ⟨g, off + j, none⟩ (.bool (((k0 + j : Nat) : Int) % 3 == 0)))) := HW.out.trans (Wrt.set wr g (off + j) _) (fun b _ e => by rw [e]; exact HG.out)
        clear hO
        generalize fl (mkF al k0 j) j = old at *
        generalize hKJ : k0 + j = KJ at *
        have hkb : (KJ : Int) + 1 ≤ 9223372036854775807 := by omega
        have hkc : -9223372036854775808 ≤ (KJ : Int) + 1 := by omega
        go_wp2
        go_roundw
        case rel => exact ⟨j + 1, by omega, by go_num, by rw [show k0 + (j + 1) = KJ + 1 by omega]; go_num, NO.out, NW.out⟩
        case measure => simp [intOf]; omega
      · obtain rfl : j = al.length := by omega
        have HIT : Hid (It wr [bocl (mkF al k0 al.length)] [.slice (some ⟨g, off, none⟩) al.length c] lo hi) := by
          have h3 := mkF_len al k0 al.length
          refine It.of1 (f := fun b => b = g) (ow_bocl.2 ⟨some ⟨g, off, none⟩, c, some g, by rw [h3], ?_, fun b => by simp [eq_comm]⟩) (fun b hb => by rw [hb]; exact HG.out)
          rw [h3]
          exact OSo.of HO.out
        clear hO
        go_wp2
        go_ret
        exact ⟨rfl, HIT.out, HW.out⟩
end Go.Proofs.Ytggieamhbfdmhaa

/-
  What the program's RowsOk, Stable, Column and Lag answer, and facts on what is answered.
-/
namespace Go.Proofs.Ytggieamhbfdmhaa
set_option linter.unusedVariables false
set_option linter.unusedSimpArgs false
open Go.RowKit Go.Sort

/-- A number of 64 bits. -/
def I64f (x : Int) : Prop := -9223372036854775808 ≤ x ∧ x ≤ 9223372036854775807
/-- A list of numbers as an answer. -/
def AnsI3 (w w' : World) (e : Ending) (Z : List Int) : Prop := ∃ a c, e = .returned (.slice a Z.length c) ∧ NewO w w' (icl Z) (.slice a Z.length c)
theorem AnsN.i3 {w w' : World} {e : Ending} {Z : List Int} (h : AnsN w w' e Z) : AnsI3 w w' e Z := by
  obtain ⟨g, off, c, he, hg, ho, hb⟩ := h
  exact ⟨_, c, he, fun b => b = g, ow_icl.2 ⟨_, c, some g, rfl, OSo.of ho, fun b => by simp [eq_comm]⟩, fun b hb => by rw [hb]; exact hg, hb⟩
def ImplRowsOk : Prop := ∀ (a : Option Addr) (cap : Nat) (H : List (List Int)) (w : World), VV w a H.length cap H → Calls Try.prog 75 #[.slice a H.length cap] w fun e w' => e = .returned (.bool (okFr H)) ∧ Below w.heap.size w w'
def ImplStable : Prop := ∀ (a : Option Addr) (cap : Nat) (H : List (List Int)) (a2 : Option Addr) (c2 : Nat) (al : List Bool) (w : World), VV w a H.length cap H → FlS w a2 al → al.length ≤ c2 → c2 ≤ maxLen → al.length ≤ 1048576 → Calls Try.prog 66 #[.slice a H.length cap, .slice a2 al.length c2] w fun e w' => AnsI3 w w' e (stL H al)
theorem vv_fits {w : World} {a : Option Addr} {n c : Nat} {H : List (List Int)} (h : VV w a n c H) : FitsH H := fun i hi => by
  obtain ⟨_, _, x, cx, _, _, hv, _⟩ := h.row i (by rw [← h.n]; exact hi)
  exact fun x hx => by have := hv.2.1 x hx; omega
theorem stL_fits (H : List (List Int)) (al : List Bool) : Fits (stL H al) ∧ (stL H al).length ≤ 8 := ⟨fun x hx => by have := (stL_small H al).2 x hx; omega, (stL_small H al).1⟩
theorem colL_fits (H : List (List Int)) (k : Int) : Fits (colL H k) ∧ (colL H k).length ≤ 8 := by
  unfold colL
  split
  · rename_i h
    have h8 := (okFr_iff.1 h.1).1.2
    refine ⟨fun x hx => ?_, by rw [colF_len]; exact h8⟩
    simp only [colF, List.mem_map, List.mem_range] at hx
    obtain ⟨i, hi, rfl⟩ := hx
    obtain ⟨h1, h2⟩ := (okFr_iff.1 h.1).2 i hi
    have := okB_el h1 (i := k.toNat) (by omega)
    omega
  · exact ⟨fun x hx => absurd hx List.not_mem_nil, by simp⟩
theorem markII_it (a : Option Addr) (c k0 lo hi : Nat) (H : List (List Int)) (w : World) (h : It w [iicl H] [.slice a H.length c] lo hi) (hk : k0 ≤ 1000) (hn : H.length ≤ 1048576) (ht : tot H H.length ≤ 9000000) :
    Calls Try.prog 34 #[.slice a H.length c, .int .i64 (k0 : Int)] w fun e w' => e = .returned (.int .i64 ((k0 + tot H H.length : Nat) : Int)) ∧ It w' [iicl (mkd H k0 H.length)] [.slice a H.length c] lo hi ∧ Wrt (Iv lo hi) w w' := by
  obtain ⟨f, h1, h2⟩ := h.ow1
  refine (markII_any a c k0 H f w h1 hk hn ht).mono ?_
  rintro e w' ⟨he, h3, h4⟩
  exact ⟨he, It.of1 h3 h2, h4.iv h2⟩
theorem toII_it (a : Option Addr) (cap : Nat) (H : List (List Int)) (w : World) (hv : VV w a H.length cap H) (hl : H.length ≤ 1048576) (hr : tot H H.length ≤ 1048576) :
    Calls Try.prog 28 #[.slice a H.length cap] w fun e w' => ∃ a', e = .returned (.slice a' H.length H.length) ∧ It w' [iicl H] [.slice a' H.length H.length] w.heap.size w'.heap.size ∧ Below w.heap.size w w' := by
  refine (toII_any a H.length cap H w hv hl (fun i hi => by have := tot_mono H hi; omega)).mono ?_
  rintro e w' ⟨he, hN⟩
  exact ⟨_, he, It.of_newO hN, hN.choose_spec.2.2⟩
end Go.Proofs.Ytggieamhbfdmhaa
