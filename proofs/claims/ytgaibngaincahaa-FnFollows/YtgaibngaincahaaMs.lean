/-
  Several texts in one: Dvo Sdk.
-/
import Derived.Test.YtgaibngaincahaaIw
import Derived.Test.YtgaibngaincahaaJm
import Derived.Test.YtgaibngaincahaaJn
/-
  The specification's l1DrawVector once more: its answer lies in memory of its own.
-/
namespace Go.Proofs.Ytgaibngaincahaa
set_option linter.unusedVariables false
set_option linter.unusedSimpArgs false
open Go.RowKit Go.Sort

/-- What a draw of a vector comes to, with its memory. -/
def DrawnO (w w' : World) (v : Value) (p : Nat) (a : Option Addr) (len cap : Nat) : Prop :=
  ∃ a' zs c G, v = .slice a' (List.length zs) c ∧ OSo w' 1 a' (List.length zs) c (zs.map (Value.int .i64)) G ∧ (∀ g, G = some g → w.heap.size ≤ g) ∧ Fits zs ∧ List.length zs ≤ 16 ∧ CurAt w' p a len cap ∧ w.grownBy w' (some p)
theorem oi_tail {w : World} {g off n c : Nat} {zs : List Int} (h : OI w g off n c zs) (h1 : 1 ≤ zs.length) : OI w g (off + 1) zs.tail.length (c - 1) zs.tail := by
  have hl : zs.length = n := by have := h.len; simpa using this
  have hle := h.le
  refine ⟨by simp, by rw [List.length_tail]; omega, Nat.le_trans (Nat.sub_le _ _) h.max, h.blk, fun i hi => ?_, fun i hi => ?_, fun i hi => ?_⟩
  · rw [List.length_tail] at hi
    have := h.cell (i + 1) (by omega)
    rw [show off + 1 + i = off + (i + 1) by omega, this]
    simp
  · have := h.some (i + 1) (by omega)
    rw [show off + 1 + i = off + (i + 1) by omega]
    exact this
  · have := h.free (i + 1) (by omega)
    rw [show off + 1 + i = off + (i + 1) by omega]
    exact this
set_option maxRecDepth 100000 in
set_option maxHeartbeats 3200000 in
theorem vecO_any (p : Nat) (a : Option Addr) (len cap : Nat) (bs : Nat → Int) (N : Nat) (n : Int) (hN : n = (N : Int)) (w : World) (hcur : CurAt w p a len cap) (hv : BVec w a len bs) (hp : OffB a len p) (hl : len ≤ 4096) (hn : N ≤ 16) :
    Calls Try.prog 47 #[.pointer (some ⟨p, 0, none⟩), .int .i64 n] w fun e w' => ∃ v, e = .returned v ∧ DrawnO w w' v p a len cap := by
  subst hN
  have hpl := hcur.lt
  obtain ⟨i0, hi0, hz0, hz1, hz2⟩ := info_parts Try.info2
  go_enter Try.func47, Try.ntmps47
  go_wp2
  go_loopw [1, 5] (fun q v wr => ∃ (k : Nat) (zs : List Int), k ≤ N ∧ zs.length = k ∧ q = .int .i64 ((N : Int) - (k : Int)) ∧ Small zs ∧ wr.ownsRow w.heap.size 2 1 v k (zs.map (Value.int .i64)) ∧ CurAt wr p a len cap ∧ w.grownBy wr (some p)) (fun q _ _ => (intOf q).toNat)
  case atStart => exact ⟨0, [], Nat.zero_le _, rfl, by simp, fun z hz => by simp at hz, owns_empty w, hcur.alloc _, World.grownBy_alloc _ _ _⟩
  case round =>
    obtain ⟨k, zs, hk, hzl, rfl, hsm, hown, hc, hg⟩ := hrel
    have HZ : Hid (zs.length = k) := hzl
    have HS : Hid (Small zs) := hsm
    have HG : Hid (w.grownBy wr (some p)) := hg
    have HO : Hid (wr.ownsRow w.heap.size 2 1 u5 k (zs.map (Value.int .i64))) := hown
    have hvr := hv.grown hg hp
    clear hzl hsm hg hown
    by_cases hlt : k < N
    · go_wp2_with fail
      refine (below_any p a len cap bs 6 _ hc hvr hp hl (by omega)).mono ?_
      rintro e w2 ⟨x, rfl, hx0, hx1, hx2, hc2, hg2⟩
      have hx6 : x ≤ 6 := by have := hx1 (by omega); omega
      have hown2 := HO.out.kept hg2 (.inr (owns_ne HO.out hpl))
      have hs2 : w.heap.size ≤ w2.heap.size := Nat.le_trans HG.out.size hg2.size
      clear hx1 hx2
      go_wp2_with (at_builtin; refine wpList_append_lies _ rfl _ _ _ rfl w.heap.size 2 i0 _ 1 8 Try.underlying24 hi0 hz0 hz1 hz2 rfl (by omega) u5 k _ rfl (hown2.alloc _) ⟨w2.heap.size, 0, none⟩ 1 1 [.int .i64 x] rfl rfl (World.news_of_block (cs := #[.int .i64 x]) (t := 2) (fr := (0, 0)) (heap_alloc_new w2 _)) (by simp [Value.oneCell']) (by omega) (by unfold maxLen; omega) (by omega) (by simp; omega) (w2.heap.size + 1) (by simp) ?_; intro g cap3 w3 hown3 hgrow hat hlt3)
      have R : Hid (w3.ownsRow w.heap.size 2 1 (.slice (some ⟨g, 0, none⟩) (k + 1) cap3) (k + 1) ((zs ++ [x]).map (Value.int .i64))) := by
        rw [Hid, List.map_append]; exact hown3
      have RC : Hid (CurAt w3 p a len cap) := (hc2.alloc _).grown hgrow (owns_ne HO.out hpl)
      have RG : Hid (w.grownBy w3 (some p)) := grown_more (grown_trans (grown_trans HG.out hg2) (World.grownBy_alloc _ _ _)) hgrow (fun r hr => (HO.out.lt r hr).1)
      have RS : Hid (Small (zs ++ [x])) := HS.out.snoc hx0 hx6
      clear hown3 hgrow hat hlt3 hown2 hc2 hg2 hc hvr hs2
      go_wp2
      go_roundw
      case rel => exact ⟨k + 1, zs ++ [x], by omega, by simp [HZ.out], by go_num, RS.out, R.out, RC.out, RG.out⟩
      case measure => simp [intOf]; omega
    · have hkN : k = N := by omega
      subst hkN
      by_cases h1 : 1 ≤ k
      · obtain ⟨g, c, hu, hgB, ho⟩ := own_of_ownsRow HO.out HZ.out.symm h1
        rw [HZ.out] at hu
        subst hu
        have hgp : g ≠ p := by omega
        go_wp2_with fail
        refine (once_any p a len cap bs 12 _ hc hvr hp hl (by omega)).mono ?_
        rintro e w2 ⟨x, rfl, hc2, hg2⟩
        have ho2 := ho.grown hg2 hgp
        have own2 := HO.out.kept hg2 (.inr (owns_ne HO.out hpl))
        have hv2 := hvr.grown hg2 hp
        have HG2 := grown_trans HG.out hg2
        have hpos : (0 : Int) < (k : Int) := by omega
        clear ho hvr hc hg2
        cases x
        · go_wp2
          go_ret
          exact ⟨_, rfl, _, zs, c, some g, by rw [HZ.out]; rfl, OSo.of (OI.own ho2), fun b e => by cases e; exact hgB, HS.out.fits, by have := HZ.out; omega, hc2, HG2⟩
        · go_wp2_with fail
          refine (below_any p a len cap bs 3 _ hc2 hv2 hp hl (by omega)).mono ?_
          rintro e w3 ⟨y, rfl, hy0, hy1, hy2, hc3, hg3⟩
          have ho3 := ho2.grown hg3 hgp
          have own3 := own2.kept hg3 (.inr (owns_ne own2 hpl))
          have hv3 := hv2.grown hg3 hp
          have HG3 := grown_trans HG2 hg3
          have hy3 := hy1 (by omega)
          clear ho2 hc2 hv2 hg3 HG2 hy1 hy2 own2
          rcases (by omega : y = 0 ∨ y = 1 ∨ y = 2) with hy | hy | hy
          · subst hy
            go_wp2_with fail
            have ho3' : OwnAt (w3.alloc (.cells #[.int .i64 (-1), .int .i64 1000000, .int .i64 1000001, .int .i64 4611686018427387904] 2)) g c zs := ho3.of_block (Below.heap_alloc _ _ _ ho3.lt)
            have hv3' := hv3.grown (World.grownBy_alloc w3 (.cells #[.int .i64 (-1), .int .i64 1000000, .int .i64 1000001, .int .i64 4611686018427387904] 2) (some p)) hp
            have hp3 : p < w3.heap.size := hc3.lt
            refine (below_any p a len cap bs 4 _ (hc3.alloc _) hv3' hp hl (by omega)).mono ?_
            rintro e w4 ⟨z, rfl, hz0', hz1', hz2', hc4, hg4⟩
            have hblk := (hg4.block w3.heap.size (by simp) (by simp; omega)).trans (heap_alloc_new w3 _)
            have ho4 := ho3'.grown hg4 hgp
            have HG4 := grown_trans (grown_trans HG3 (World.grownBy_alloc w3 _ _)) hg4
            have e0 : w4.cell? ⟨w3.heap.size, 0, none⟩ = some (.int .i64 (-1)) := by simp [World.cell?, hblk]
            have e1 : w4.cell? ⟨w3.heap.size, 1, none⟩ = some (.int .i64 1000000) := by simp [World.cell?, hblk]
            have e2 : w4.cell? ⟨w3.heap.size, 2, none⟩ = some (.int .i64 1000001) := by simp [World.cell?, hblk]
            have e3 : w4.cell? ⟨w3.heap.size, 3, none⟩ = some (.int .i64 4611686018427387904) := by simp [World.cell?, hblk]
            have hcg := ho4.cell (i := 0) (by rw [HZ.out]; omega)
            have hfg := ho4.frozen 0
            have HO4 : Hid (OwnAt w4 g c zs) := ho4
            have HC4 : Hid (CurAt w4 p a len cap) := hc4
            have HGG : Hid (w.grownBy w4 (some p)) := HG4
            have hz4 := hz1' (by omega)
            clear hz1' hz2' hblk hg4 HG4 ho4 hc4 ho3' hv3' ho3 hv3 hc3 HG3 own3
            have FIN : Hid (∀ v : Int, -9223372036854775808 ≤ v ∧ v ≤ 9223372036854775807 → DrawnO w (w4.setCell ⟨g, 0, none⟩ (.int .i64 v)) (.slice (some ⟨g, 0, none⟩) k c) p a len cap) := fun v hv =>
              ⟨_, zs.set 0 v, c, some g, by rw [List.length_set, HZ.out], OSo.of (OI.own (HO4.out.set 0 v)), fun b e => by cases e; exact hgB, fits_set HS.out.fits 0 hv, by rw [List.length_set]; have := HZ.out; omega, HC4.out.set hgp _ _, grown_setOwn HGG.out hgB _ _⟩
            rcases (by omega : z = 0 ∨ z = 1 ∨ z = 2 ∨ z = 3) with hz | hz | hz | hz
            all_goals
              subst hz
              go_wp2
              go_ret
              exact ⟨_, rfl, FIN.out _ (by omega)⟩
          · subst hy
            have hT := own_tail ho3 HS.out.fits (by rw [HZ.out]; exact h1)
            rw [HZ.out] at hT
            have hkc : k ≤ c := by have := ho3.1; rwa [HZ.out] at this
            have hcm := ho3.2.1
            have hkc' : (k : Int) ≤ (c : Int) := by omega
            have hk1 : (1 : Int) ≤ (k : Int) := by omega
            have HTO : Hid (OSo w3 1 (some ⟨g, 1, none⟩) zs.tail.length (c - 1) (zs.tail.map (Value.int .i64)) (some g)) := OSo.of (oi_tail (OI.own ho3) (by rw [HZ.out]; exact h1))
            have HTF : Hid (Fits zs.tail) := hT.2.1
            have HTL : Hid (Value.slice (some ⟨g, 1, none⟩) (k - 1) (c - 1) = .slice (some ⟨g, 1, none⟩) zs.tail.length (c - 1)) := by rw [Hid, List.length_tail, HZ.out]
            by_cases hc1 : c = 1
            · subst hc1
              have hk1' : k = 1 := by omega
              subst hk1'
              go_wp2
              go_ret
              exact ⟨_, rfl, _, [], 0, none, rfl, OSo.nil _ _ (plainS _ _), fun b e => (by cases e), fun x hx => absurd hx List.not_mem_nil, Nat.zero_le _, hc3, HG3⟩
            · go_wp2
              go_ret
              exact ⟨_, rfl, _, zs.tail, c - 1, some g, HTL.out, HTO.out, fun b e => by cases e; exact hgB, HTF.out, by rw [List.length_tail]; have := HZ.out; omega, hc3, HG3⟩
          · subst hy
            clear ho3 hv3
            go_wp2
            go_loopw [5] (fun v wr => ∃ (m g c : Nat) (ys : List Int), v = .slice (some ⟨g, 0, none⟩) m c ∧ ys.length = m ∧ 1 ≤ m ∧ m ≤ 16 ∧ Small ys ∧ wr.ownsRow w.heap.size 2 1 v m (ys.map (Value.int .i64)) ∧ CurAt wr p a len cap ∧ w.grownBy wr (some p)) (fun v _ => 16 - lenOf v)
            case atStart => exact ⟨k, g, c, zs, rfl, HZ.out, h1, by omega, HS.out, own3, hc3, HG3⟩
            case round =>
              obtain ⟨m, g2, c2, ys, rfl, hyl, hm1, hm9, hys, hown, hcc, hgg⟩ := hrel
              have hvv := hv.grown hgg hp
              have HY : Hid (ys.length = m) := hyl
              have HYS : Hid (Small ys) := hys
              clear hyl hys
              go_wp2_with fail
              refine (below_any p a len cap bs 2 _ hcc hvv hp hl (by omega)).mono ?_
              rintro e w4 ⟨z, rfl, hz0', hz1', hz2', hc4, hg4⟩
              have own4 := hown.kept hg4 (.inr (owns_ne hown hpl))
              have HG4 := grown_trans hgg hg4
              have hz4 := hz1' (by omega)
              have hs4 := HG4.size
              clear hz1' hz2' hg4 hgg hown hcc hvv
              by_cases hlt2 : (m : Int) < 8 + z
              · go_wp2_with (at_builtin; refine wpList_append_lies _ rfl _ _ _ rfl w.heap.size 2 i0 _ 1 8 Try.underlying24 hi0 hz0 hz1 hz2 rfl (by omega) (.slice (some ⟨g2, 0, none⟩) m c2) m _ rfl (own4.alloc _) ⟨w4.heap.size, 0, none⟩ 1 1 [.int .i64 1] rfl rfl (World.news_of_block (cs := #[.int .i64 1]) (t := 2) (fr := (0, 0)) (heap_alloc_new w4 _)) (by simp [Value.oneCell']) (by omega) (by unfold maxLen; omega) (by omega) (by simp; omega) (w4.heap.size + 1) (by simp) ?_; intro g3 cap3 w5 hown5 hgrow hat hlt5)
                have R : Hid (w5.ownsRow w.heap.size 2 1 (.slice (some ⟨g3, 0, none⟩) (m + 1) cap3) (m + 1) ((ys ++ [1]).map (Value.int .i64))) := by
                  rw [Hid, List.map_append]; exact hown5
                have RC : Hid (CurAt w5 p a len cap) := (hc4.alloc _).grown hgrow (owns_ne own4 hpl)
                have RG : Hid (w.grownBy w5 (some p)) := grown_more (grown_trans HG4 (World.grownBy_alloc _ _ _)) hgrow (fun r hr => (own4.lt r hr).1)
                have RS : Hid (Small (ys ++ [1])) := HYS.out.snoc (by omega) (by omega)
                clear hown5 hgrow hat hlt5 own4 hc4 HG4
                go_wp2
                go_roundw
                case rel => exact ⟨m + 1, g3, cap3, ys ++ [1], rfl, by simp [HY.out], by omega, by omega, RS.out, R.out, RC.out, RG.out⟩
                case measure => simp [lenOf]; omega
              · go_wp2
                go_ret
                obtain ⟨g5, c5, hu5, hg5, hO5⟩ := OSl.of_ownsRow own4 (by intro h; cases h)
                cases hu5
                exact ⟨_, rfl, some ⟨g2, 0, none⟩, ys, c2, some g2, by rw [HY.out]; rfl, OSo.of (by rw [HY.out]; exact hO5), fun b e => by cases e; exact hg5, HYS.out.fits, by rw [HY.out]; omega, hc4, HG4⟩
      · obtain ⟨a', c, hu, hvec, hac, hcm, hfrom⟩ := own_slice HO.out HZ.out.symm HS.out.fits
        have hz0 : zs = [] := List.eq_nil_of_length_eq_zero (by have := HZ.out; omega)
        obtain ⟨G0, HO0, HG0⟩ : ∃ G, Hid (OSo wr 1 a' zs.length c (zs.map (Value.int .i64)) G) ∧ Hid (∀ b, G = some b → w.heap.size ≤ b) := by
          by_cases hn : u5 = .slice none 0 0
          · rw [hu] at hn
            cases hn
            exact ⟨none, by rw [Hid, hz0]; exact OSo.nil _ _ plainN, fun b e => by cases e⟩
          · obtain ⟨g5, c5, hu5, hg5, hO5⟩ := OSl.of_ownsRow HO.out hn
            rw [hu] at hu5
            cases hu5
            exact ⟨some g5, by rw [Hid, HZ.out]; exact OSo.of hO5, fun b e => by cases e; exact hg5⟩
        subst hu
        have hoff : Off a' p := fun b off e => by have := hfrom b off e; omega
        go_wp2_with fail
        refine (once_any p a len cap bs 12 _ hc hvr hp hl (by omega)).mono ?_
        rintro e w2 ⟨x, rfl, hc2, hg2⟩
        have hva := hvec.grown hg2 hoff
        have HG2 := grown_trans HG.out hg2
        have HOO : Hid (OSo w2 1 a' zs.length c (zs.map (Value.int .i64)) G0) := HO0.out.frame hg2.size (fun g e => hg2.block g (HO0.out.lt e) (by have := HG0.out g e; simp; omega))
        have hpos : decide ((0 : Int) < (k : Int)) = false := by simp; omega
        clear hvec hvr hc hg2
        cases x
        all_goals
          go_wp2
          go_ret
          exact ⟨_, rfl, a', zs, c, G0, by rw [HZ.out]; rfl, HOO.out, HG0.out, HS.out.fits, by have := HZ.out; omega, hc2, HG2⟩

/-- The draw of a vector, with its memory. -/
theorem vecCO (N : Nat) (n : Int) (hN : n = (N : Int)) (hn : N ≤ 16) {w X : World} {p : Nat} {a : Option Addr} {len cap : Nat} {bs : Nat → Int} (h : Cc w X p a len cap bs) :
    Calls Try.prog 47 #[.pointer (some ⟨p, 0, none⟩), .int .i64 n] X fun e w' => ∃ a' c zs fp, e = .returned (.slice a' (List.length zs) c) ∧ Cel.ow w' (icl zs) (.slice a' (List.length zs) c) fp ∧ (∀ b, fp b → X.heap.size ≤ b) ∧ Fits zs ∧ List.length zs ≤ 16 ∧ Cc w w' p a len cap bs ∧ X.grownBy w' (some p) := by
  refine (vecO_any p a len cap bs N n hN X h.cur h.bvec h.off h.hl hn).mono ?_
  rintro e w' ⟨v, rfl, a', zs, c, G, rfl, hO, hG, hf, h16, hc, hg⟩
  exact ⟨a', c, zs, fun b => G = some b, rfl, ow_icl.2 ⟨_, c, G, rfl, hO, fun b => Iff.rfl⟩, fun b hb => hG b hb, hf, h16, h.drawn hg hc, hg⟩
end Go.Proofs.Ytgaibngaincahaa

/-
  A draw that holds a struct of any size (general): the cursor, the answer's room, the struct's own block, its lists.
-/
namespace Go.Proofs.Ytgaibngaincahaa
set_option linter.unusedVariables false
set_option linter.unusedSimpArgs false
open Go.RowKit Go.Sort

theorem CurAt.wrt {w w' : World} {p : Nat} {a : Option Addr} {len cap : Nat} {f : Fp} (h : CurAt w p a len cap) (hw : Wrt f w w') (hp : ¬ f p) : CurAt w' p a len cap := by
  have hlt := h.lt
  obtain ⟨i, x, hi, hh⟩ := h
  exact ⟨i, x, hi, (hw.block p hlt hp).trans hh⟩
theorem Cc.wrt {w X X' : World} {p : Nat} {a : Option Addr} {len cap : Nat} {bs : Nat → Int} {f : Fp} (h : Cc w X p a len cap bs) (hw : Wrt f X X') (hp : ¬ f p) (hl : ∀ b, f b → w.heap.size ≤ b) : Cc w X' p a len cap bs :=
  ⟨h.cur.wrt hw hp, h.code, hw.below h.below h.below.size hl, h.off, h.hl, h.hp⟩
theorem grown_wrt {X Y Y' : World} {p : Nat} {f : Fp} (h : X.grownBy Y (some p)) (hw : Wrt f Y Y') (hl : ∀ b, f b → X.heap.size ≤ b) : X.grownBy Y' (some p) :=
  ⟨hw.os.trans h.os, hw.tape.trans h.tape, hw.output.trans h.output, Nat.le_trans h.size hw.size, fun b hb hn => (hw.block b (Nat.lt_of_lt_of_le hb h.size) (fun e => by have := hl b e; omega)).trans (h.block b hb hn)⟩
/-- What such a draw holds: the answer's room Z in block X.heap.size, the struct C in block o, its lists. -/
structure SD (w X Y : World) (p : Nat) (a : Option Addr) (len cap : Nat) (bs : Nat → Int) (T : TypeId) (o : Nat) (Z C : Array Value) (cs : List Cel) (vs : List Value) (fp : Fp) : Prop where
  cc : Cc w Y p a len cap bs
  res : Bx Y X.heap.size T Z
  own : Bx Y o T C
  ls : owL Y cs vs fp
  fpl : ∀ b, fp b → X.heap.size < b ∧ b ≠ o
  hpo : p < X.heap.size
  ho : X.heap.size < o
  gr : X.grownBy Y (some p)
section
variable {w X Y Y' : World} {p : Nat} {a : Option Addr} {len cap : Nat} {bs : Nat → Int} {T : TypeId} {o : Nat} {Z C : Array Value} {cs : List Cel} {vs : List Value} {fp : Fp}
theorem SD.lt (h : SD w X Y p a len cap bs T o Z C cs vs fp) : w.heap.size ≤ X.heap.size := by have := h.cc.hp; have := h.hpo; omega
theorem SD.drawn (h : SD w X Y p a len cap bs T o Z C cs vs fp) (hg : Y.grownBy Y' (some p)) (hc : Cc w Y' p a len cap bs) : SD w X Y' p a len cap bs T o Z C cs vs fp := by
  have h1 := h.hpo
  have h2 := h.ho
  exact ⟨hc, h.res.grown hg (by simp; omega), h.own.grown hg (by simp; omega), owL_wrt h.ls (Wrt.of_grown hg) (fun b hb e => by cases e; have := (h.fpl _ hb).1; omega), h.fpl, h1, h2, grown_trans h.gr hg⟩
theorem SD.step (h : SD w X Y p a len cap bs T o Z C cs vs fp) (hb : Below Y.heap.size Y Y') : SD w X Y' p a len cap bs T o Z C cs vs fp :=
  ⟨h.cc.step hb, h.res.below hb, h.own.below hb, owL_below h.ls hb, h.fpl, h.hpo, h.ho, grown_trans h.gr ⟨hb.os, hb.tape, hb.output, hb.size, fun x hx _ => hb.block x hx⟩⟩
theorem SD.drewN (h : SD w X Y p a len cap bs T o Z C cs vs fp) (n : Nat) : SD w X (Y.drewN n) p a len cap bs T o Z C cs vs fp := h.step (Same.drewN Y n).below
/-- One cell of the struct is stored. -/
theorem SD.set (h : SD w X Y p a len cap bs T o Z C cs vs fp) (i : Nat) (v : Value) : SD w X (Y.setCell ⟨o, i, none⟩ v) p a len cap bs T o Z (C.setIfInBounds i v) cs vs fp := by
  have h1 := h.hpo
  have h2 := h.ho
  have h3 := h.lt
  have hw := Wrt.set Y o i v
  exact ⟨h.cc.wrt hw (by omega) (fun b e => by omega), h.res.far (by omega) v, h.own.setC i v, owL_wrt h.ls hw (fun b hb e => (h.fpl b hb).2 e), h.fpl, h1, h2, grown_wrt h.gr hw (fun b e => by omega)⟩
/-- One list is another one, in new memory. -/
theorem SD.new (h : SD w X Y p a len cap bs T o Z C cs vs fp) {j : Nat} {c c' : Cel} {u' : Value} {f' : Fp} (hj : cs[j]? = some c) (hc : Cel.ow Y c' u' f') (hf : ∀ b, f' b → X.heap.size < b ∧ b ≠ o) (hd : ∀ b, f' b → ¬ fp b) : ∃ fp', SD w X Y p a len cap bs T o Z C (cs.set j c') (vs.set j u') fp' := by
  obtain ⟨u, f, hu, ho, hs, hp⟩ := owL_at h.ls hj
  exact ⟨_, h.cc, h.res, h.own, hp Y c' u' f' (Nat.le_refl _) hc (fun _ _ _ => rfl) (fun b hb k => absurd k (hd b hb)), fun b hb => by rcases hb with hb | hb; exact hf b hb; exact h.fpl b hb.1, h.hpo, h.ho, h.gr⟩
/-- One list, and what becomes of all where it alone is written into. -/
theorem SD.at (h : SD w X Y p a len cap bs T o Z C cs vs fp) {j : Nat} {c : Cel} (hj : cs[j]? = some c) : ∃ u f, vs[j]? = some u ∧ Cel.ow Y c u f ∧ (∀ b, f b → fp b) ∧
    ∀ (Y' : World) (c' : Cel) (u' : Value) (f' : Fp), Wrt f Y Y' → Cel.ow Y' c' u' f' → (∀ b, f' b → f b ∨ Y.heap.size ≤ b) → ∃ fp', SD w X Y' p a len cap bs T o Z C (cs.set j c') (vs.set j u') fp' := by
  obtain ⟨u, f, hu, ho, hs, hp⟩ := owL_at h.ls hj
  refine ⟨u, f, hu, ho, hs, fun Y' c' u' f' hw hc' hf' => ?_⟩
  have h1 := h.hpo
  have h2 := h.ho
  have h3 := h.lt
  have hl : ∀ b, fp b → b < Y.heap.size := owL_lt h.ls
  have hol := h.own.lt
  have k : ∀ b, f b → X.heap.size < b ∧ b ≠ o := fun b hb => h.fpl b (hs b hb)
  refine ⟨_, h.cc.wrt hw (fun e => by have := (k _ e).1; omega) (fun b e => by have := (k _ e).1; omega), h.res.wrt hw (fun e => by have := (k _ e).1; omega), h.own.wrt hw (fun e => (k _ e).2 rfl), hp Y' c' u' f' hw.size hc' (fun b hb hn => hw.block b (hl b hb) hn) (fun b hb hb2 => ?_), fun b hb => ?_, h1, h2, grown_wrt h.gr hw (fun b e => by have := (k _ e).1; omega)⟩
  · rcases hf' b hb with h5 | h5
    · exact h5
    · have := hl b hb2; omega
  · rcases hb with hb | hb
    · rcases hf' b hb with h5 | h5
      · exact k b h5
      · exact ⟨by omega, by omega⟩
    · exact h.fpl b hb.1
/-- The answer's room is written into. -/
theorem SD.ans (h : SD w X Y p a len cap bs T o Z C cs vs fp) (hw : Wrt (fun b => b = X.heap.size) Y Y') : owL Y' cs vs fp ∧ (∀ b, fp b → X.heap.size ≤ b) ∧ Cc w Y' p a len cap bs ∧ X.grownBy Y' (some p) := by
  have h1 := h.hpo
  have h3 := h.lt
  exact ⟨owL_wrt h.ls hw (fun b hb e => by have := (h.fpl b hb).1; omega), fun b hb => by have := (h.fpl b hb).1; omega, h.cc.wrt hw (by omega) (fun b e => by omega), grown_wrt h.gr hw (fun b e => by omega)⟩
end
end Go.Proofs.Ytgaibngaincahaa
