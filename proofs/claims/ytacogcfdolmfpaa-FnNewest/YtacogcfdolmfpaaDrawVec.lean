/-
  The contract of the specification's l1DrawVector: it answers with some slice of int64 numbers in memory of its own, and writes into nothing else but the cursor's block.
-/
import Derived.Test.YtacogcfdolmfpaaDraw
namespace Go.Proofs.Ytacogcfdolmfpaa
open Go.RowKit

def lenOf : Value → Nat | .slice _ n _ => n | _ => 0

/-- The array of a slice value lies in a block from B on. -/
def From (a : Option Addr) (B : Nat) : Prop := ∀ b off, a = some ⟨b, off, none⟩ → B ≤ b

/-- What a draw of a vector comes to. -/
def Drawn (w w' : World) (v : Value) (B p : Nat) (a : Option Addr) (len cap : Nat) : Prop :=
  ∃ a' m c zs, v = .slice a' m c ∧ Vec w' a' m zs ∧ m ≤ c ∧ c ≤ maxLen ∧ m ≤ 16 ∧ From a' B ∧ CurAt w' p a len cap ∧ w.grownBy w' (some p)

theorem grown_more {w w2 w3 : World} {r row : Option Nat} (h : w.grownBy w2 r) (hg : w2.grownBy w3 row) (hrow : ∀ k, row = some k → w.heap.size ≤ k) : w.grownBy w3 r :=
  ⟨hg.os.trans h.os, hg.tape.trans h.tape, hg.output.trans h.output, Nat.le_trans h.size hg.size, fun i hi hr => (hg.block i (Nat.lt_of_lt_of_le hi h.size) (by intro e; have := hrow i e.symm; omega)).trans (h.block i hi hr)⟩
theorem CurAt.grown {w w' : World} {p : Nat} {row : Option Nat} {a : Option Addr} {len cap : Nat} (h : CurAt w p a len cap) (hg : w.grownBy w' row) (hr : row ≠ some p) : CurAt w' p a len cap := by
  have hlt := h.lt
  obtain ⟨i, x, hi, hh⟩ := h
  exact ⟨i, x, hi, (hg.block p hlt (Ne.symm hr)).trans hh⟩
theorem CurAt.alloc {w : World} {p : Nat} {a : Option Addr} {len cap : Nat} (h : CurAt w p a len cap) (o : Obj) : CurAt (w.alloc o) p a len cap := h.grown (World.grownBy_alloc w o none) (by simp)
theorem OwnAt.grown {w w' : World} {p g cap : Nat} {zs : List Int} (h : OwnAt w g cap zs) (hg : w.grownBy w' (some p)) (hne : g ≠ p) : OwnAt w' g cap zs :=
  h.of_block (hg.block g h.lt (by simpa using hne))
theorem own_slice {w : World} {base : Nat} {v : Value} {zs : List Int} {n : Nat} (h : w.ownsRow base 2 1 v n (zs.map (Value.int .i64))) (hn : n = zs.length) (hf : Fits zs) :
    ∃ a' c, v = .slice a' n c ∧ Vec w a' n zs ∧ n ≤ c ∧ c ≤ maxLen ∧ From a' base := by
  by_cases h1 : 1 ≤ n
  · obtain ⟨g, c, hv, hb, ho⟩ := own_of_ownsRow h hn h1
    subst hn
    exact ⟨_, c, hv, ho.vec hf, ho.1, ho.2.1, fun b off e => by cases e; exact hb⟩
  · have h0 : n = 0 := by omega
    subst h0
    have hz : zs = [] := List.length_eq_zero_iff.1 hn.symm
    subst hz
    rcases h.2 with ⟨hv, _⟩ | ⟨g, c, cur, hv, hb, _, hle, hm, _⟩
    · exact ⟨none, 0, hv, ⟨rfl, hf, .inl rfl⟩, Nat.le_refl _, Nat.zero_le _, fun b off e => by cases e⟩
    · exact ⟨_, c, hv, ⟨rfl, hf, .inl rfl⟩, hle, hm, fun b off e => by cases e; exact hb⟩

def Small (zs : List Int) : Prop := ∀ z ∈ zs, 0 ≤ z ∧ z ≤ 6
theorem Small.fits {zs : List Int} (h : Small zs) : Fits zs := fun x hx => by have := h x hx; omega
theorem Small.snoc {zs : List Int} {x : Int} (h : Small zs) (h0 : 0 ≤ x) (h1 : x ≤ 6) : Small (zs ++ [x]) := by
  intro z hz
  rcases List.mem_append.1 hz with hz | hz
  · exact h z hz
  · simp at hz; subst hz; exact ⟨h0, h1⟩

theorem grown_setOwn {w w1 : World} {r : Option Nat} {g : Nat} (h : w.grownBy w1 r) (hg : w.heap.size ≤ g) (i : Nat) (u : Value) : w.grownBy (w1.setCell ⟨g, i, none⟩ u) r :=
  ⟨h.os, h.tape, h.output, by simp [World.setCell]; exact h.size, fun k hk hr => (Below.heap_setCell _ _ _ _ (by intro e; simp at e; omega)).trans (h.block k hk hr)⟩
theorem CurAt.set {w : World} {p g : Nat} {a : Option Addr} {len cap : Nat} (h : CurAt w p a len cap) (hne : g ≠ p) (i : Nat) (u : Value) : CurAt (w.setCell ⟨g, i, none⟩ u) p a len cap := by
  obtain ⟨j, x, hj, hh⟩ := h
  exact ⟨j, x, hj, (Below.heap_setCell _ _ _ _ (by intro e; exact hne e.symm)).trans hh⟩
theorem fits_set {zs : List Int} (h : Fits zs) (i : Nat) {y : Int} (hy : -9223372036854775808 ≤ y ∧ y ≤ 9223372036854775807) : Fits (zs.set i y) := by
  intro x hx
  rcases List.mem_or_eq_of_mem_set hx with hx | rfl
  · exact h x hx
  · exact hy
theorem own_tail {w : World} {g c : Nat} {zs : List Int} (h : OwnAt w g c zs) (hf : Fits zs) (h1 : 1 ≤ zs.length) : Vec w (some ⟨g, 1, none⟩) (zs.length - 1) zs.tail :=
  ⟨by simp, fun x hx => hf x (List.mem_of_mem_tail hx), .inr ⟨g, 1, rfl, fun i hi => by rw [Nat.add_comm, h.cell (i := i + 1) (by omega)]; simp [el]⟩⟩

set_option maxRecDepth 100000 in
set_option maxHeartbeats 3200000 in
theorem drawVector_any (p : Nat) (a : Option Addr) (len cap : Nat) (bs : Nat → Int) (N : Nat) (n : Int) (hN : n = (N : Int)) (w : World) (hcur : CurAt w p a len cap) (hv : BVec w a len bs) (hp : OffB a len p) (hl : len ≤ 4096) (hn : N ≤ 5) :
    Calls Try.prog 67 #[.pointer (some ⟨p, 0, none⟩), .int .i64 n] w fun e w' => ∃ v, e = .returned v ∧ Drawn w w' v w.heap.size p a len cap := by
  subst hN
  have hpl := hcur.lt
  obtain ⟨i0, hi0, hz0, hz1, hz2⟩ := info_parts Try.info2
  go_enter Try.func67, Try.ntmps67
  go_wp2
  go_loopw [1, 5] (fun q v wr => ∃ (k : Nat) (zs : List Int), k ≤ N ∧ zs.length = k ∧ q = .int .i64 ((N : Int) - (k : Int)) ∧ Small zs ∧ wr.ownsRow w.heap.size 2 1 v k (zs.map (Value.int .i64)) ∧ CurAt wr p a len cap ∧ w.grownBy wr (some p)) (fun q _ _ => (intOf q).toNat)
  case atStart => exact ⟨0, [], Nat.zero_le _, rfl, by simp, fun z hz => by simp at hz, owns_empty w, hcur.alloc _, World.grownBy_alloc _ _ _⟩
  case round =>
    obtain ⟨k, zs, hk, hzl, rfl, hsm, hown, hc, hg⟩ := hrel
    have HZ : Hid (zs.length = k) := hzl
    have HS : Hid (Small zs) := hsm
    have HG : Hid (w.grownBy wr (some p)) := hg
    have HO : Hid (wr.ownsRow w.heap.size 2 1 u5 k (zs.map (Value.int .i64))) := hown
    have hvr := hv.grown hg hp
    clear hzl hsm hg hown
    by_cases hlt : k < N
    · go_wp2_with fail
      refine (below_any p a len cap bs 6 _ hc hvr hp hl (by omega)).mono ?_
      rintro e w2 ⟨x, rfl, hx0, hx1, hx2, hc2, hg2⟩
      have hx6 : x ≤ 6 := by have := hx1 (by omega); omega
      have hown2 := HO.out.kept hg2 (.inr (owns_ne HO.out hpl))
      have hs2 : w.heap.size ≤ w2.heap.size := Nat.le_trans HG.out.size hg2.size
      clear hx1 hx2
      go_wp2_with (at_builtin; refine wpList_append_lies _ rfl _ _ _ rfl w.heap.size 2 i0 _ 1 8 Try.underlying24 hi0 hz0 hz1 hz2 rfl (by omega) u5 k _ rfl (hown2.alloc _) ⟨w2.heap.size, 0, none⟩ 1 1 [.int .i64 x] rfl rfl (World.news_of_block (cs := #[.int .i64 x]) (t := 2) (fr := (0, 0)) (heap_alloc_new w2 _)) (by simp [Value.oneCell']) (by omega) (by unfold maxLen; omega) (by omega) (by simp; omega) (w2.heap.size + 1) (by simp) ?_; intro g cap3 w3 hown3 hgrow hat hlt3)
      have R : Hid (w3.ownsRow w.heap.size 2 1 (.slice (some ⟨g, 0, none⟩) (k + 1) cap3) (k + 1) ((zs ++ [x]).map (Value.int .i64))) := by
        rw [Hid, List.map_append]; exact hown3
      have RC : Hid (CurAt w3 p a len cap) := (hc2.alloc _).grown hgrow (owns_ne HO.out hpl)
      have RG : Hid (w.grownBy w3 (some p)) := grown_more (grown_trans (grown_trans HG.out hg2) (World.grownBy_alloc _ _ _)) hgrow (fun r hr => (HO.out.lt r hr).1)
      have RS : Hid (Small (zs ++ [x])) := HS.out.snoc hx0 hx6
      clear hown3 hgrow hat hlt3 hown2 hc2 hg2 hc hvr hs2
      go_wp2
      go_roundw
      case rel => exact ⟨k + 1, zs ++ [x], by omega, by simp [HZ.out], by go_num, RS.out, R.out, RC.out, RG.out⟩
      case measure => simp [intOf]; omega
    · have hkN : k = N := by omega
      subst hkN
      by_cases h1 : 1 ≤ k
      · obtain ⟨g, c, hu, hgB, ho⟩ := own_of_ownsRow HO.out HZ.out.symm h1
        rw [HZ.out] at hu
        subst hu
        have hgp : g ≠ p := by omega
        go_wp2_with fail
        refine (once_any p a len cap bs 12 _ hc hvr hp hl (by omega)).mono ?_
        rintro e w2 ⟨x, rfl, hc2, hg2⟩
        have ho2 := ho.grown hg2 hgp
        have own2 := HO.out.kept hg2 (.inr (owns_ne HO.out hpl))
        have hv2 := hvr.grown hg2 hp
        have HG2 := grown_trans HG.out hg2
        have hpos : (0 : Int) < (k : Int) := by omega
        clear ho hvr hc hg2
        cases x
        · go_wp2
          go_ret
          exact ⟨_, rfl, _, k, c, zs, rfl, by have := ho2.vec HS.out.fits; rwa [HZ.out] at this, by have := ho2.1; rwa [HZ.out] at this, ho2.2.1, by omega, fun b off e => by cases e; exact hgB, hc2, HG2⟩
        · go_wp2_with fail
          refine (below_any p a len cap bs 3 _ hc2 hv2 hp hl (by omega)).mono ?_
          rintro e w3 ⟨y, rfl, hy0, hy1, hy2, hc3, hg3⟩
          have ho3 := ho2.grown hg3 hgp
          have own3 := own2.kept hg3 (.inr (owns_ne own2 hpl))
          have hv3 := hv2.grown hg3 hp
          have HG3 := grown_trans HG2 hg3
          have hy3 := hy1 (by omega)
          clear ho2 hc2 hv2 hg3 HG2 hy1 hy2 own2
          rcases (by omega : y = 0 ∨ y = 1 ∨ y = 2) with hy | hy | hy
          · subst hy
            go_wp2_with fail
            have ho3' : OwnAt (w3.alloc (.cells #[.int .i64 (-1), .int .i64 1000000, .int .i64 1000001, .int .i64 4611686018427387904] 2)) g c zs := ho3.of_block (Below.heap_alloc _ _ _ ho3.lt)
            have hv3' := hv3.grown (World.grownBy_alloc w3 (.cells #[.int .i64 (-1), .int .i64 1000000, .int .i64 1000001, .int .i64 4611686018427387904] 2) (some p)) hp
            have hp3 : p < w3.heap.size := hc3.lt
            refine (below_any p a len cap bs 4 _ (hc3.alloc _) hv3' hp hl (by omega)).mono ?_
            rintro e w4 ⟨z, rfl, hz0', hz1', hz2', hc4, hg4⟩
            have hblk := (hg4.block w3.heap.size (by simp) (by simp; omega)).trans (heap_alloc_new w3 _)
            have ho4 := ho3'.grown hg4 hgp
            have HG4 := grown_trans (grown_trans HG3 (World.grownBy_alloc w3 _ _)) hg4
            have e0 : w4.cell? ⟨w3.heap.size, 0, none⟩ = some (.int .i64 (-1)) := by simp [World.cell?, hblk]
            have e1 : w4.cell? ⟨w3.heap.size, 1, none⟩ = some (.int .i64 1000000) := by simp [World.cell?, hblk]
            have e2 : w4.cell? ⟨w3.heap.size, 2, none⟩ = some (.int .i64 1000001) := by simp [World.cell?, hblk]
            have e3 : w4.cell? ⟨w3.heap.size, 3, none⟩ = some (.int .i64 4611686018427387904) := by simp [World.cell?, hblk]
            have hcg := ho4.cell (i := 0) (by rw [HZ.out]; omega)
            have hfg := ho4.frozen 0
            have HO4 : Hid (OwnAt w4 g c zs) := ho4
            have HC4 : Hid (CurAt w4 p a len cap) := hc4
            have HGG : Hid (w.grownBy w4 (some p)) := HG4
            have hz4 := hz1' (by omega)
            clear hz1' hz2' hblk hg4 HG4 ho4 hc4 ho3' hv3' ho3 hv3 hc3 HG3 own3
            have FIN : Hid (∀ v : Int, -9223372036854775808 ≤ v ∧ v ≤ 9223372036854775807 → Drawn w (w4.setCell ⟨g, 0, none⟩ (.int .i64 v)) (.slice (some ⟨g, 0, none⟩) k c) w.heap.size p a len cap) := fun v hv =>
              ⟨_, k, c, zs.set 0 v, rfl, by have := (HO4.out.set 0 v).vec (fits_set HS.out.fits 0 hv); rwa [List.length_set, HZ.out] at this, by have := HO4.out.1; rwa [HZ.out] at this, HO4.out.2.1, by omega, fun b off e => by cases e; exact hgB, HC4.out.set hgp _ _, grown_setOwn HGG.out hgB _ _⟩
            rcases (by omega : z = 0 ∨ z = 1 ∨ z = 2 ∨ z = 3) with hz | hz | hz | hz
            all_goals
              subst hz
              go_wp2
              go_ret
              exact ⟨_, rfl, FIN.out _ (by omega)⟩
          · subst hy
            have hT := own_tail ho3 HS.out.fits (by rw [HZ.out]; exact h1)
            rw [HZ.out] at hT
            have hkc : k ≤ c := by have := ho3.1; rwa [HZ.out] at this
            have hcm := ho3.2.1
            have hkc' : (k : Int) ≤ (c : Int) := by omega
            have hk1 : (1 : Int) ≤ (k : Int) := by omega
            by_cases hc1 : c = 1
            · subst hc1
              have hk1' : k = 1 := by omega
              subst hk1'
              go_wp2
              go_ret
              exact ⟨_, rfl, _, _, _, zs.tail, rfl, ⟨hT.1, hT.2.1, .inl rfl⟩, by omega, by omega, by omega, fun b off e => by cases e; exact hgB, hc3, HG3⟩
            · go_wp2
              go_ret
              exact ⟨_, rfl, _, _, _, zs.tail, rfl, hT, by omega, by omega, by omega, fun b off e => by cases e; exact hgB, hc3, HG3⟩
          · subst hy
            clear ho3 hv3
            go_wp2
            go_loopw [5] (fun v wr => ∃ (m g c : Nat) (ys : List Int), v = .slice (some ⟨g, 0, none⟩) m c ∧ ys.length = m ∧ 1 ≤ m ∧ m ≤ 9 ∧ Small ys ∧ wr.ownsRow w.heap.size 2 1 v m (ys.map (Value.int .i64)) ∧ CurAt wr p a len cap ∧ w.grownBy wr (some p)) (fun v _ => 16 - lenOf v)
            case atStart => exact ⟨k, g, c, zs, rfl, HZ.out, h1, by omega, HS.out, own3, hc3, HG3⟩
            case round =>
              obtain ⟨m, g2, c2, ys, rfl, hyl, hm1, hm9, hys, hown, hcc, hgg⟩ := hrel
              have hvv := hv.grown hgg hp
              have HY : Hid (ys.length = m) := hyl
              have HYS : Hid (Small ys) := hys
              clear hyl hys
              go_wp2_with fail
              refine (below_any p a len cap bs 2 _ hcc hvv hp hl (by omega)).mono ?_
              rintro e w4 ⟨z, rfl, hz0', hz1', hz2', hc4, hg4⟩
              have own4 := hown.kept hg4 (.inr (owns_ne hown hpl))
              have HG4 := grown_trans hgg hg4
              have hz4 := hz1' (by omega)
              have hs4 := HG4.size
              clear hz1' hz2' hg4 hgg hown hcc hvv
              by_cases hlt2 : (m : Int) < 8 + z
              · go_wp2_with (at_builtin; refine wpList_append_lies _ rfl _ _ _ rfl w.heap.size 2 i0 _ 1 8 Try.underlying24 hi0 hz0 hz1 hz2 rfl (by omega) (.slice (some ⟨g2, 0, none⟩) m c2) m _ rfl (own4.alloc _) ⟨w4.heap.size, 0, none⟩ 1 1 [.int .i64 1] rfl rfl (World.news_of_block (cs := #[.int .i64 1]) (t := 2) (fr := (0, 0)) (heap_alloc_new w4 _)) (by simp [Value.oneCell']) (by omega) (by unfold maxLen; omega) (by omega) (by simp; omega) (w4.heap.size + 1) (by simp) ?_; intro g3 cap3 w5 hown5 hgrow hat hlt5)
                have R : Hid (w5.ownsRow w.heap.size 2 1 (.slice (some ⟨g3, 0, none⟩) (m + 1) cap3) (m + 1) ((ys ++ [1]).map (Value.int .i64))) := by
                  rw [Hid, List.map_append]; exact hown5
                have RC : Hid (CurAt w5 p a len cap) := (hc4.alloc _).grown hgrow (owns_ne own4 hpl)
                have RG : Hid (w.grownBy w5 (some p)) := grown_more (grown_trans HG4 (World.grownBy_alloc _ _ _)) hgrow (fun r hr => (own4.lt r hr).1)
                have RS : Hid (Small (ys ++ [1])) := HYS.out.snoc (by omega) (by omega)
                clear hown5 hgrow hat hlt5 own4 hc4 HG4
                go_wp2
                go_roundw
                case rel => exact ⟨m + 1, g3, cap3, ys ++ [1], rfl, by simp [HY.out], by omega, by omega, RS.out, R.out, RC.out, RG.out⟩
                case measure => simp [lenOf]; omega
              · go_wp2
                go_ret
                obtain ⟨a5, c5, hu5, q1, q2, q3, q4⟩ := own_slice own4 HY.out.symm HYS.out.fits
                cases hu5
                exact ⟨_, rfl, _, m, c2, ys, rfl, q1, q2, q3, by omega, q4, hc4, HG4⟩
      · obtain ⟨a', c, hu, hvec, hac, hcm, hfrom⟩ := own_slice HO.out HZ.out.symm HS.out.fits
        subst hu
        have hoff : Off a' p := fun b off e => by have := hfrom b off e; omega
        go_wp2_with fail
        refine (once_any p a len cap bs 12 _ hc hvr hp hl (by omega)).mono ?_
        rintro e w2 ⟨x, rfl, hc2, hg2⟩
        have hva := hvec.grown hg2 hoff
        have HG2 := grown_trans HG.out hg2
        have hpos : decide ((0 : Int) < (k : Int)) = false := by simp; omega
        clear hvec hvr hc hg2
        cases x
        all_goals
          go_wp2
          go_ret
          exact ⟨_, rfl, a', k, c, zs, rfl, hva, hac, hcm, by omega, hfrom, hc2, HG2⟩

set_option maxHeartbeats 800000 in
theorem drawVectorOk_any (a : Option Addr) (len cap : Nat) (bs : Nat → Int) (w : World) (hv : BVec w a len bs) (hl : len ≤ 4096) :
    Calls Try.prog 72 #[.slice a len cap] w fun e w' => ∃ a' m c zs, e = .returned (.slice a' m c) ∧ Vec w' a' m zs ∧ m ≤ c ∧ c ≤ maxLen ∧ m ≤ 16 ∧ Below w.heap.size w w' := by
  go_enter Try.func72, Try.ntmps72
  go_wp2_with fail
  refine (new_any a len cap bs w hv hl).mono ?_
  rintro e w1 ⟨p, rfl, hp, hc1, hb1⟩
  have hv1 := hv.below hb1 (Nat.le_refl _)
  have hoff : OffB a len p := fun hl b off e => by have := hv.inB hl b off e; omega
  go_wp2_with fail
  refine (below_any p a len cap bs 6 _ hc1 hv1 hoff hl (by omega)).mono ?_
  rintro e w2 ⟨x, rfl, hx0, hx1, hx2, hc2, hg2⟩
  have hv2 := hv1.grown hg2 hoff
  have hx6 := hx1 (by omega)
  go_wp2_with fail
  refine (drawVector_any p a len cap bs x.toNat _ (by omega) _ hc2 hv2 hoff hl (by omega)).mono ?_
  rintro e w3 ⟨v, rfl, a', m, c, zs, rfl, hvec, h1, h2, h3, h4, hc3, hg3⟩
  have hB : Below w.heap.size w w3 := hb1.trans (Below.grown (Below.grown (Below.refl _ _) hg2 hb1.size (fun r hr => by cases hr; exact hp)) hg3 (Nat.le_trans hb1.size hg2.size) (fun r hr => by cases hr; exact hp))
  go_wp2
  go_ret
  exact ⟨a', m, c, zs, rfl, hvec, h1, h2, h3, hB⟩

set_option maxHeartbeats 800000 in
theorem drawSum_any (a : Option Addr) (len cap : Nat) (bs : Nat → Int) (w : World) (hv : BVec w a len bs) (hl : len ≤ 4096) :
    Calls Try.prog 16 #[.slice a len cap] w fun e w' => ∃ a' m c zs, e = .returned (.slice a' m c) ∧ Vec w' a' m zs ∧ m ≤ c ∧ c ≤ maxLen ∧ m ≤ 16 ∧ Below w.heap.size w w' := by
  go_enter Try.func16, Try.ntmps16
  go_wp2_with fail
  refine (drawVectorOk_any a len cap bs w hv hl).mono ?_
  rintro e w3 ⟨a', m, c, zs, rfl, h⟩
  go_wp2
  go_ret
  exact ⟨a', m, c, zs, rfl, h⟩

set_option maxHeartbeats 800000 in
theorem drawJoin_any (a : Option Addr) (len cap : Nat) (bs : Nat → Int) (w : World) (hv : BVec w a len bs) (hl : len ≤ 4096) :
    Calls Try.prog 12 #[.slice a len cap] w fun e w' => ∃ a1 m1 c1 z1 a2 m2 c2 z2, e = .returned (.tuple #[.slice a1 m1 c1, .slice a2 m2 c2]) ∧ Vec w' a1 m1 z1 ∧ m1 ≤ c1 ∧ c1 ≤ maxLen ∧ m1 ≤ 16 ∧ Vec w' a2 m2 z2 ∧ m2 ≤ c2 ∧ c2 ≤ maxLen ∧ m2 ≤ 16 ∧ Below w.heap.size w w' ∧ From a1 w.heap.size ∧ From a2 w.heap.size := by
  go_enter Try.func12, Try.ntmps12
  go_wp2_with fail
  refine (new_any a len cap bs w hv hl).mono ?_
  rintro e w1 ⟨p, rfl, hp, hc1, hb1⟩
  have hv1 := hv.below hb1 (Nat.le_refl _)
  have hoff : OffB a len p := fun hl b off e => by have := hv.inB hl b off e; omega
  go_wp2_with fail
  refine (below_any p a len cap bs 4 _ hc1 hv1 hoff hl (by omega)).mono ?_
  rintro e w2 ⟨x, rfl, hx0, hx1, hx2, hc2, hg2⟩
  have hv2 := hv1.grown hg2 hoff
  have hx4 := hx1 (by omega)
  have hp2 := hc2.lt
  go_wp2_with fail
  refine (drawVector_any p a len cap bs (1 + x).toNat _ (by omega) _ hc2 hv2 hoff hl (by omega)).mono ?_
  rintro e w3 ⟨v, rfl, a1, m1, c1, z1, rfl, k1, k2, k3, k4, k5, hc3, hg3⟩
  have hv3 := hv2.grown hg3 hoff
  have hoff1 : Off a1 p := fun b off e => by have := k5 b off e; omega
  go_wp2_with fail
  refine (drawVector_any p a len cap bs (1 + x).toNat _ (by omega) _ hc3 hv3 hoff hl (by omega)).mono ?_
  rintro e w4 ⟨v, rfl, a2, m2, c2, z2, rfl, l1, l2, l3, l4, l5, hc4, hg4⟩
  have k1' := k1.grown hg4 hoff1
  have hB : Below w.heap.size w w4 := hb1.trans (Below.grown (Below.grown (Below.grown (Below.refl _ _) hg2 hb1.size (fun r hr => by cases hr; exact hp)) hg3 (Nat.le_trans hb1.size hg2.size) (fun r hr => by cases hr; exact hp)) hg4 (Nat.le_trans (Nat.le_trans hb1.size hg2.size) hg3.size) (fun r hr => by cases hr; exact hp))
  have f1 : From a1 w.heap.size := fun b off e => Nat.le_trans (Nat.le_trans hb1.size hg2.size) (k5 b off e)
  have f2 : From a2 w.heap.size := fun b off e => Nat.le_trans (Nat.le_trans (Nat.le_trans hb1.size hg2.size) hg3.size) (l5 b off e)
  clear hc1 hc2 hc3 hv1 hv2 hv3 hg2 hg3 hg4 k1
  go_wp2
  go_ret2
  exact ⟨a1, m1, c1, z1, a2, m2, c2, z2, rfl, k1', k2, k3, k4, l1, l2, l3, l4, hB, f1, f2⟩
end Go.Proofs.Ytacogcfdolmfpaa
