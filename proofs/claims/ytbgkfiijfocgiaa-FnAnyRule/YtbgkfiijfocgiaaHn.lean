/-
  Several texts in one: Drv.
-/
import Derived.Test.YtbgkfiijfocgiaaHh
import Derived.Test.YtbgkfiijfocgiaaGb
/-
  The contract of the specification's l6DrawVector.
-/
namespace Go.Proofs.Ytbgkfiijfocgiaa
set_option linter.unusedSimpArgs false
set_option linter.unusedVariables false
open Go.RowKit Go.Sort

theorem num_tail {w : World} {g off n cap : Nat} {z : Int} {zs : List Int} (h : OI w g off (n + 1) cap (z :: zs)) : OI w g (off + 1) n (cap - 1) zs := by
  have hl := h.length
  have hle := h.le
  have hmx := h.max
  refine ⟨by simpa using hl, by omega, by omega, h.blk, fun i hi => ?_, fun i hi => ?_, fun i hi => ?_⟩
  · have := h.cell (i + 1) (by omega)
    rw [show off + (i + 1) = off + 1 + i by omega] at this
    rw [this]
    simp
  · have := h.some (i + 1) (by omega)
    rwa [show off + (i + 1) = off + 1 + i by omega] at this
  · have := h.free (i + 1) (by omega)
    rwa [show off + (i + 1) = off + 1 + i by omega] at this
/-- A drawn vector: in a slice of its own, of small numbers. -/
structure Dv (w w' : World) (v : Value) (p : Nat) (a : Option Addr) (len cap : Nat) (zs : List Int) : Prop where
  at_ : ∃ g og cg, v = .slice (some ⟨g, og, none⟩) zs.length cg ∧ w.heap.size ≤ g ∧ OI w' g og zs.length cg zs
  small : ∀ z ∈ zs, 0 ≤ z ∧ z ≤ 8
  long : zs.length ≤ 8
  cur : CurAt w' p a len cap
  grown : w.grownBy w' (some p)

set_option maxRecDepth 100000 in
set_option maxHeartbeats 3200000 in
theorem drawV8_any (p : Nat) (a : Option Addr) (len cap : Nat) (bs : Nat → Int) (w : World) (hcur : CurAt w p a len cap) (hv : BVec w a len bs) (hp : OffB a len p) (hl : len ≤ 4096) :
    Calls Try.prog 67 #[.pointer (some ⟨p, 0, none⟩)] w fun e w' => ∃ v zs, e = .returned v ∧ Dv w w' v p a len cap zs := by
  have hpl := hcur.lt
  obtain ⟨i0, hi0, hz0, hz1, hz2⟩ := info_parts2n Try.info2n
  have HC0 : Hid (CurAt (w.alloc (.cells #[] 2)) p a len cap) := hcur.alloc _
  go_enter Try.func67, Try.ntmps67
  go_wp2
  go_loopw [3, 4] (fun v i wr => ∃ (k : Nat) (zs : List Int) (g og cg : Nat), k ≤ 8 ∧ zs.length = k ∧ i = .int .i64 k ∧ v = .slice (some ⟨g, og, none⟩) k cg ∧ w.heap.size ≤ g ∧ OI wr g og k cg zs ∧ (∀ z ∈ zs, 0 ≤ z ∧ z ≤ 8) ∧ CurAt wr p a len cap ∧ w.grownBy wr (some p)) (fun _ i _ => 8 - (intOf i).toNat)
  case atStart => exact ⟨0, [], w.heap.size, 0, 0, Nat.zero_le _, rfl, rfl, rfl, Nat.le_refl _, num_empty w 2, fun z hz => by simp at hz, HC0.out, World.grownBy_alloc _ _ _⟩
  case round =>
    obtain ⟨k, zs, g, og, cg, hk, hzl, rfl, rfl, hg, hO, hsm, hc, hgr⟩ := hrel
    have KZ : Hid (zs.length = k) := hzl
    have KS : Hid (∀ z ∈ zs, 0 ≤ z ∧ z ≤ 8) := hsm
    have KO : Hid (OI wr g og k cg zs) := hO
    have KG : Hid (w.grownBy wr (some p)) := hgr
    have KW : Hid (w.heap.size ≤ g) := hg
    have hvr := hv.grown hgr hp
    have hne : g ≠ p := by omega
    clear hzl hsm hO hgr HC0
    by_cases hlt : k < 8
    · have k1 : (k : Int) < 8 := by omega
      go_wp2_with fail
      refine (below_any p a len cap bs 9 _ hc hvr hp hl (by omega)).mono ?_
      rintro e w2 ⟨x, rfl, hx0, hx1, _, hc2, hg2⟩
      have hx8 : x ≤ 8 := by have := hx1 (by omega); omega
      have hO2 : OSl (w2.alloc (.cells #[.int .i64 x] 2)) 1 g og k cg (zs.map (Value.int .i64)) := (OSl.grown KO.out hg2 (by simp; omega)).below ((Below.refl _ _).alloc (Nat.le_refl _) _) (OSl.grown KO.out hg2 (by simp; omega)).blk
      clear hx1 hvr hc
      go_wp2_with (at_builtin; refine wpList_append_os _ rfl _ _ _ rfl 2 i0 _ 1 8 Try.underlying24 hi0 hz0 hz1 hz2 rfl (by omega) g og k cg _ rfl hO2 ⟨w2.heap.size, 0, none⟩ 1 1 [.int .i64 x] rfl rfl (World.news_of_block (cs := #[.int .i64 x]) (t := 2) (fr := (0, 0)) (heap_alloc_new _ _)) (by simp [Value.oneCell']) (by unfold maxLen; omega) (by omega) ?_; intro g6 o6 c6 w6 hO6 hg6 hat6)
      have hs2 : w.heap.size ≤ w2.heap.size := Nat.le_trans KG.out.size hg2.size
      have hw := KW.out
      have hg6w : w.heap.size ≤ g6 := by
        rcases hat6 with h | h
        · rw [h]; exact hw
        · rw [h]; simp; omega
      have LO : Hid (OI w6 g6 o6 (k + 1) c6 (zs ++ [x])) := by
        rw [Hid, OI, List.map_append]; exact hO6
      have LC : Hid (CurAt w6 p a len cap) := (hc2.alloc _).grown hg6 (by simp; omega)
      have LG : Hid (w.grownBy w6 (some p)) := grown_more (grown_trans (grown_trans KG.out hg2) (World.grownBy_alloc _ _ _)) hg6 (fun r hr => by cases hr; exact hw)
      have LS : Hid (∀ z ∈ zs ++ [x], 0 ≤ z ∧ z ≤ 8) := fun z hz => by
        rcases List.mem_append.1 hz with h | h
        · exact KS.out z h
        · rw [List.mem_singleton] at h; subst h; exact ⟨hx0, hx8⟩
      clear hO6 hg6 hat6 hO2 hc2 hg2
      go_wp2
      go_roundw
      case rel => exact ⟨k + 1, zs ++ [x], g6, o6, c6, by omega, by simp [KZ.out], by go_num, rfl, hg6w, LO.out, LS.out, LC.out, LG.out⟩
      case measure => simp [intOf]; omega
    · have hk8 : k = 8 := by omega
      subst hk8
      go_wp2_with fail
      refine (once_any p a len cap bs 16 _ hc hvr hp hl (by omega)).mono ?_
      rintro e w2 ⟨x, rfl, hc2, hg2⟩
      have LO : Hid (OI w2 g og 8 cg zs) := OSl.grown KO.out hg2 (by simp; omega)
      have LC : Hid (CurAt w2 p a len cap) := hc2
      have LG : Hid (w.grownBy w2 (some p)) := grown_trans KG.out hg2
      have hcg := LO.out.le
      clear hc2 hg2 hvr hc
      cases x
      · go_wp2
        go_ret
        exact ⟨_, zs, rfl, ⟨⟨g, og, cg, by rw [KZ.out]; rfl, KW.out, by rw [KZ.out]; exact LO.out⟩, KS.out, by rw [KZ.out]; omega, LC.out, LG.out⟩⟩
      · have hz := KZ.out
        obtain ⟨z, zt, hzz⟩ : ∃ z zt, zs = z :: zt := by
          cases zs with
          | nil => simp at hz
          | cons z zt => exact ⟨z, zt, rfl⟩
        have KT : Hid (OI w2 g (og + 1) 7 (cg - 1) zt) := num_tail (z := z) (by rw [← hzz]; exact LO.out)
        have KL : Hid (zt.length = 7) := by rw [Hid]; rw [hzz] at hz; simpa using hz
        have KZT : Hid (∀ y ∈ zt, 0 ≤ y ∧ y ≤ 8) := fun y hy => KS.out y (by rw [hzz]; simp [hy])
        have c1 : (1 : Int) ≤ (cg : Int) := by omega
        have c2 : ¬ cg = 1 := by omega
        clear hzz hz
        go_wp2
        go_ret
        exact ⟨_, zt, rfl, ⟨⟨g, og + 1, cg - 1, by rw [KL.out]; rfl, KW.out, by rw [KL.out]; exact KT.out⟩, KZT.out, by rw [KL.out]; omega, LC.out, LG.out⟩⟩
end Go.Proofs.Ytbgkfiijfocgiaa
