/-
  Several texts in one: Stx.
-/
import Derived.Test.YthlaaldicmfcnaaGr
import Derived.Deep.RegionHeld3
/-
  Texts that the laws compare, mark and hold: the contracts of laws.markText, eqStringS, likeTexts, markStringS, heldStringS.
-/
namespace Go.Proofs.Ythlaaldicmfcnaa
set_option linter.unusedSimpArgs false
set_option linter.unusedVariables false
open Go.RowKit Go.Sort

theorem OS.set {w : World} {g off n cap : Nat} {zs : List (List UInt8)} (h : OS w g off n cap zs) {i : Nat} (hi : i < n) (y : List UInt8) : OS (w.setCell ⟨g, off + i, none⟩ (.string (sv y))) g off n cap (zs.set i y) := by
  have hl := h.length
  have hc := h.cellAt hi
  refine ⟨by simp [svs, hl], h.le, h.max, by simp [World.setCell]; exact h.blk, fun j hj => ?_, fun j hj => ?_, fun j hj => by rw [World.frozen?_setCell]; exact h.free j hj⟩
  · by_cases e : i = j
    · subst e
      rw [World.cell?_setCell_same _ _ _ hc]
      simp [svs, show i < zs.length by omega]
    · rw [World.cell?_setCell_other _ _ _ _ (by simp [e]), h.cell j hj]
      simp [svs, e]
  · by_cases e : i = j
    · subst e
      rw [World.cell?_setCell_same _ _ _ hc]; rfl
    · rw [World.cell?_setCell_other _ _ _ _ (by simp [e])]; exact h.some j hj
theorem OS.take {w : World} {g off n cap : Nat} {zs : List (List UInt8)} (h : OS w g off n cap zs) {k : Nat} (hk : k ≤ n) : OS w g off k cap (zs.take k) := by
  have hl := h.length
  have hle := h.le
  refine ⟨by simp [svs, hl]; omega, by omega, h.max, h.blk, fun i hi => ?_, h.some, h.free⟩
  rw [h.cell i (by omega)]
  simp [svs, show i < k by omega]
theorem OS.setFar {w : World} {g g' off n cap i : Nat} {zs : List (List UInt8)} {u : Value} (h : OS w g off n cap zs) (hne : g ≠ g') : OS (w.setCell ⟨g', i, none⟩ u) g off n cap zs :=
  OSl.of_block h (Below.heap_setCell _ _ _ _ (by exact hne)) (by simp [World.setCell]; exact h.blk)
/-- The mark k. -/
def mtL (k : Nat) : List UInt8 := 109 :: dec k
/-- Texts of which the first j are marked from k on. -/
def mkS (zs : List (List UInt8)) (k j : Nat) : List (List UInt8) := (List.range j).map (fun i => mtL (k + i)) ++ zs.drop j
theorem mkS_zero (zs : List (List UInt8)) (k : Nat) : mkS zs k 0 = zs := by simp [mkS]
theorem mkS_step {zs : List (List UInt8)} {k j : Nat} (h : j < zs.length) : (mkS zs k j).set j (mtL (k + j)) = mkS zs k (j + 1) := by
  unfold mkS
  rw [List.set_append_right _ _ (by simp)]
  simp only [List.length_map, List.length_range, Nat.sub_self]
  rw [List.drop_eq_getElem_cons h, List.set_cons_zero, List.range_succ, List.map_append, List.append_assoc]
  rfl
def marksS (n k : Nat) : List (List UInt8) := (List.range n).map (fun i => mtL (k + i))
theorem mkS_done (zs : List (List UInt8)) (k : Nat) : mkS zs k zs.length = marksS zs.length k := by simp [mkS, marksS]
theorem marksS_get {n k i : Nat} (h : i < n) : (marksS n k).getD i [] = mtL (k + i) := by simp [marksS, h]

attribute [local irreducible] sv
set_option maxRecDepth 100000 in
set_option maxHeartbeats 1600000 in
theorem markText_any (k : Nat) (w : World) (h1 : 1 ≤ k) (hk : k ≤ 1000000000000) :
    Calls Try.prog 72 #[.int .i64 (k : Int)] w fun e w' => e = .returned (.string (sv (mtL k))) ∧ Below w.heap.size w w' := by
  have hk0 : ¬ ((k : Int) ≤ 0) := by omega
  have hk1 : decide ((k : Int) ≤ 0) = false := by simp; omega
  have hnil : (⟨#[]⟩ : ByteArray) = sv [] := by unfold sv; rfl
  have h109 : (⟨#[109]⟩ : ByteArray) = sv [109] := by unfold sv; rfl
  go_enter Try.func72, Try.ntmps72
  go_wp2
  go_loopg [0, 3] (k + 1) (fun g a s wr => ∃ (m : Nat) (l : List UInt8), m ≤ k ∧ g = m + 1 ∧ a = .int .i64 m ∧ s = .string (sv l) ∧ l.length + g ≤ k + 1 ∧ dec k = decT m l ∧ Below w.heap.size w wr)
  case atStart => exact ⟨k, [], Nat.le_refl _, rfl, rfl, by rw [← hnil], by simp, by rw [decT, if_neg (by omega)]; simp, Below.refl _ _⟩
  case round =>
    obtain ⟨m, l, hm, hg, rfl, rfl, hlg, hc, hb⟩ := hrel
    have HB : Hid (Below w.heap.size w wr) := hb
    have HC : Hid (dec k = decT m l) := hc
    clear hb hc hnil
    have hsz := sv_size l
    have hs109 : (⟨#[109]⟩ : ByteArray).size = 1 := rfl
    rcases Nat.eq_zero_or_pos m with h0 | hp
    · subst h0
      have HD : Hid ((⟨#[109]⟩ : ByteArray) ++ sv l = sv (mtL k)) := by rw [Hid, h109, sv_app, mtL, HC.out, decT, if_pos rfl]; rfl
      clear h109
      go_wp2
      go_ret
      exact ⟨by rw [← HD.out]; rfl, HB.out⟩
    · have HS : Hid (dec k = decT (m / 10) (dig (m % 10) :: l)) := by rw [Hid, decT_step, HC.out, decT, if_neg (by omega)]
      have e1 : Int.tmod (m : Int) 10 = (m : Int) % 10 := Int.tmod_eq_emod_of_nonneg (by omega)
      have e2 : Int.tdiv (m : Int) 10 = (m : Int) / 10 := Int.tdiv_eq_ediv_of_nonneg (by omega)
      have hd10 : (m : Int) % 10 < 10 := by omega
      have hd0 : 0 ≤ (m : Int) % 10 := by omega
      have hcv := one_byte wr (dig (m % 10)) (48 + (m : Int) % 10) (by rw [dig_val (by omega)]; omega)
      have happ : sv [dig (m % 10)] ++ sv l = sv (dig (m % 10) :: l) := sv_app _ _
      have hs1 : (sv [dig (m % 10)]).size = 1 := sv_size _
      have HB' : Hid (Below w.heap.size w (wr.alloc (.cells #[.int .u8 (48 + (m : Int) % 10)] 5))) := HB.out.alloc HB.out.size _
      have hll : l.length ≤ 1000000000002 := by omega
      have e4 : ((m / 10 : Nat) : Int) = (m : Int) / 10 := by omega
      have hpi : (0 : Int) < (m : Int) := by omega
      clear h109
      go_wp2
      go_roundg (m / 10 + 1)
      case measure => omega
      case rel => exact ⟨m / 10, dig (m % 10) :: l, by omega, rfl, by rw [e4], rfl, by rw [List.length_cons]; omega, HS.out, HB'.out⟩

end Go.Proofs.Ythlaaldicmfcnaa
