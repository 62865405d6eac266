/-
  Several texts in one: Dr6 Dr7 Dr8.
-/
import Derived.Test.YtacjpebifacclaaGh
import Derived.Test.YtacjpebifacclaaGg
import Derived.Test.YtacjpebifacclaaGk
import Derived.Test.YtacjpebifacclaaGi
/-
  The draws of the clocks' laws; what the clocks tell, as the program asks it.
-/
namespace Go.Proofs.Ytacjpebifacclaa
set_option linter.unusedSimpArgs false
set_option linter.unusedVariables false
open Go.RowKit Go.Sort

theorem drew_one {w w' : World} {x : Nat} (h : ∃ n, w' = (w.drewN x).drewN n) : ∃ n, w' = w.drewN n := by
  obtain ⟨n, rfl⟩ := h
  exact ⟨x + n, by rw [World.drewN_drewN]⟩
theorem ckN_true {es : List Ev} {n : Nat} (h : okT es n = true) : ckN es n = n := by unfold ckN; rw [if_pos h]
theorem ckN_false {es : List Ev} {n : Nat} (h : okT es n = false) : ckN es n = 0 := by unfold ckN; rw [h]; rfl

set_option maxRecDepth 100000 in
set_option maxHeartbeats 1600000 in
theorem drawNewest_any (a : Option Addr) (len cap : Nat) (bs : Nat → Int) (w : World) (hv : BVec w a len bs) (hl : len ≤ 4096) :
    Calls Try.prog 43 #[.slice a len cap] w fun e w' => ∃ g f c es i, e = .returned (.tuple #[.slice (some ⟨g, f, none⟩) es.length c, .int .i64 i]) ∧ es.length ≤ 14 ∧ -1 ≤ i ∧ i ≤ 5 ∧ OE w' g f c es ∧ Below w.heap.size w w' := by
  go_enter Try.func43, Try.ntmps43
  go_wp2_with fail
  refine (new_any a len cap bs w hv hl).mono ?_
  rintro e w1 ⟨p, rfl, hp, hc1, hb1⟩
  have hv1 := hv.below hb1 (Nat.le_refl _)
  have hoff : OffB a len p := fun h b off e => by have := hv.inB h b off e; omega
  go_wp2_with fail
  refine (l2DrawAny_any p a len cap bs w1 hc1 hv1 hoff hl).mono ?_
  rintro e w2 ⟨g, f, c, es, rfl, hes, L2⟩
  have hs1 := hb1.size
  go_wp2_with fail
  refine (from_any p a len cap bs (-1) 5 w2 L2.cur (hv1.grown L2.grown hoff) hoff hl (by omega) (by omega) (by omega)).mono ?_
  rintro e w3 ⟨i, rfl, hi0, hi1, hc3, hg3⟩
  have L3 := L2.step hc1.lt hc3 hg3
  have K1 : Hid (OE w3 g f c es) := L3.out
  have K2 : Hid (Below w.heap.size w w3) := below_grown hb1 L3.grown (by omega) hs1
  clear hc3 hg3 L3 L2 hv1 hc1
  go_wp2
  go_ret2
  exact ⟨g, f, c, es, i, rfl, hes, hi0, hi1, K1.out, K2.out⟩

theorem cl_ok {es : List Ev} {n i : Nat} (hok : okT es n = true) (hi : i < n) : okB (cl es i) = true := by
  have := (okT_all hok).1
  exact ok8 (cl_len es i) (fun j hj => by have := cl_bound es i j hj; omega)
theorem cl_two {es : List Ev} {n i k : Nat} (hok : okT es n = true) (hi : i < n) (hk : k < n) : twoB (cl es i) (cl es k) = true := by
  unfold twoB
  rw [cl_ok hok hi, cl_ok hok hk, cl_len, cl_len]; rfl
theorem cl_under {es : List Ev} {n i k : Nat} (hok : okT es n = true) (hi : i < n) (hk : k < n) : underB (cl es i) (cl es k) = true ↔ Knows es i k := by
  unfold underB leB
  rw [cl_two hok hi hk, cl_len, Bool.true_and, List.all_eq_true, ← under_iff hok hi hk]
  constructor
  · intro h p hp
    have := h p (List.mem_range.2 hp)
    simpa using this
  · intro h p hp
    have := h p (List.mem_range.1 hp)
    simpa using this
end Go.Proofs.Ytacjpebifacclaa

/-
  The draws of the cuts' laws.
-/
namespace Go.Proofs.Ytacjpebifacclaa
set_option linter.unusedSimpArgs false
set_option linter.unusedVariables false
open Go.RowKit Go.Sort

/-- What a drawn list of numbers holds as the world goes on. -/
structure Lz (w wr : World) (p : Nat) (a : Option Addr) (len cap g f c : Nat) (xs : List Int) : Prop where
  out : OI wr g f xs.length c xs
  new : w.heap.size ≤ g
  cur : CurAt wr p a len cap
  grown : w.grownBy wr (some p)
  small : ∀ x ∈ xs, -1 ≤ x ∧ x ≤ 1000
theorem Lz.step {w wr wx : World} {p : Nat} {a : Option Addr} {len cap g f c : Nat} {xs : List Int} (h : Lz w wr p a len cap g f c xs) (hpl : p < w.heap.size) (hc : CurAt wx p a len cap) (hg : wr.grownBy wx (some p)) : Lz w wx p a len cap g f c xs :=
  ⟨OSl.grown h.out hg (by have := h.new; simp; omega), h.new, hc, grown_trans h.grown hg, h.small⟩
theorem Lz.fits {w wr : World} {p : Nat} {a : Option Addr} {len cap g f c : Nat} {xs : List Int} (h : Lz w wr p a len cap g f c xs) : Fits xs := fun x hx => by have := h.small x hx; omega
theorem Lz.push {w wr w8 : World} {p : Nat} {a : Option Addr} {len cap g f c g8 f8 c8 : Nat} {xs : List Int} {x : Int} {o : Obj} (h : Lz w wr p a len cap g f c xs) (hpl : p < w.heap.size) (hx : -1 ≤ x ∧ x ≤ 1000)
    (hg : (wr.alloc o).grownBy w8 (some g)) (hat : g8 = g ∨ g8 = (wr.alloc o).heap.size) (ho : OSl w8 1 g8 f8 (xs.length + 1) c8 (xs.map (Value.int .i64) ++ [.int .i64 x])) : Lz w w8 p a len cap g8 f8 c8 (xs ++ [x]) := by
  have hs := h.grown.size
  have hn := h.new
  refine ⟨?_, ?_, (h.cur.alloc o).grown hg (by simp; omega), ?_, fun y hy => ?_⟩
  · have : (xs ++ [x]).length = xs.length + 1 := by simp
    rw [this]
    exact oi_snoc ho
  · rcases hat with e | e
    · rw [e]; exact hn
    · rw [e]; simp; omega
  · have g1 := grown_trans h.grown (World.grownBy_alloc wr o (some p))
    exact ⟨hg.os.trans g1.os, hg.tape.trans g1.tape, hg.output.trans g1.output, Nat.le_trans g1.size hg.size, fun k hk hne => (hg.block k (by have := g1.size; omega) (by simp; omega)).trans (g1.block k hk hne)⟩
  · rw [List.mem_append, List.mem_singleton] at hy
    rcases hy with h1 | h1
    · exact h.small y h1
    · rw [h1]; exact hx
theorem Lz.put {w wr : World} {p : Nat} {a : Option Addr} {len cap g f c : Nat} {xs : List Int} (h : Lz w wr p a len cap g f c xs) (hpl : p < w.heap.size) {i : Nat} (hi : i < xs.length) {v : Int} (hv : -1 ≤ v ∧ v ≤ 1000) :
    Lz w (wr.setCell ⟨g, f + i, none⟩ (.int .i64 v)) p a len cap g f c (xs.set i v) := by
  have hn := h.new
  refine ⟨by rw [List.length_set]; exact h.out.set hi v, hn, h.cur.set (by omega) _ _, ?_, fun y hy => ?_⟩
  · have hg := grown_setCell wr g (f + i) (.int .i64 v)
    exact ⟨hg.os.trans h.grown.os, hg.tape.trans h.grown.tape, hg.output.trans h.grown.output, Nat.le_trans h.grown.size hg.size, fun k hk hne => (hg.block k (by have := h.grown.size; omega) (by simp; omega)).trans (h.grown.block k hk hne)⟩
  · rcases List.mem_or_eq_of_mem_set hy with h1 | h1
    · exact h.small y h1
    · rw [h1]; exact hv

set_option maxRecDepth 100000 in
set_option maxHeartbeats 3200000 in
theorem l4DrawCut_any (p : Nat) (a : Option Addr) (len cap : Nat) (bs : Nat → Int) (b off n cn : Nat) (es : List Ev) (w : World) (hcur : CurAt w p a len cap) (hv : BVec w a len bs) (hp : OffB a len p) (hl : len ≤ 4096) (hE : EvsAt w b off n es) (hbp : b ≠ p) (hn : n ≤ 14) :
    Calls Try.prog 106 #[.pointer (some ⟨p, 0, none⟩), .slice (some ⟨b, off, none⟩) n cn] w fun e w' => ∃ g f c xs, e = .returned (.slice (some ⟨g, f, none⟩) xs.length c) ∧ xs.length ≤ 8 ∧ Lz w w' p a len cap g f c xs := by
  have hpl := hcur.lt
  obtain ⟨i0, hi0, hz0, hz1, hz2⟩ := info_parts Try.info2
  have L0 : Hid (Lz w (w.alloc (.cells #[] 2)) p a len cap w.heap.size 0 0 []) := ⟨oi_empty w 2, Nat.le_refl _, hcur.alloc _, World.grownBy_alloc _ _ _, fun x hx => by simp at hx⟩
  have KE : Hid (∀ X, w.grownBy X (some p) → EvsAt X b off n es) := fun X hX => evs_grown hE hX hbp
  clear hE hcur
  go_enter Try.func106, Try.ntmps106
  go_wp2
  go_loopw [5, 6] (fun v i wr => ∃ (k : Nat) (xs : List Int) (g f c : Nat), k ≤ 8 ∧ xs.length = k ∧ i = .int .i64 k ∧ v = .slice (some ⟨g, f, none⟩) k c ∧ (∀ x ∈ xs, x ≤ 15) ∧ Lz w wr p a len cap g f c xs) (fun _ i _ => 8 - (intOf i).toNat)
  case atStart => exact ⟨0, [], w.heap.size, 0, 0, by omega, rfl, rfl, rfl, fun x hx => by simp at hx, L0.out⟩
  case round =>
    obtain ⟨k, xs, g, f, c, hk, hxl, rfl, rfl, h15, hL⟩ := hrel
    have HB15 : Hid (∀ x ∈ xs, x ≤ 15) := h15
    have KL : Hid (Lz w wr p a len cap g f c xs) := hL
    have HXL : Hid (xs.length = k) := hxl
    clear hL hxl L0 h15
    by_cases hlt : k < 8
    · have k1 : (k : Int) < 8 := by omega
      go_wp2
      go_loopw [7, 8] (fun q i wx => ∃ j y : Nat, j ≤ n ∧ y ≤ j ∧ i = .int .i64 j ∧ q = .int .i64 (y : Int) ∧ wx = wr) (fun _ i _ => n - (intOf i).toNat)
      case atStart => exact ⟨0, 0, Nat.zero_le _, Nat.le_refl _, rfl, rfl, rfl⟩
      case round =>
        obtain ⟨j, y, hj, hy, rfl, rfl, hwx⟩ := hrel
        replace hwx := hwx.symm
        subst hwx
        by_cases hjn : j < n
        · have e0 := (KE.out _ KL.out.grown j hjn).1
          have j1 : (j : Int) < (n : Int) := by omega
          have j0 : (0 : Int) ≤ (j : Int) := by omega
          have hbd : (y : Int) + 1 ≤ 9223372036854775807 := by omega
          have hbd0 : -9223372036854775808 ≤ (y : Int) + 1 := by omega
          by_cases he : (evAt es j).n = (k : Int)
          · have hd : ((evAt es j).n == (k : Int)) = true := by simpa using he
            clear he
            go_wp2
            go_roundw
            case rel => exact ⟨j + 1, y + 1, by omega, by omega, by go_num, by go_num, trivial⟩
            case measure => simp [intOf]; omega
          · have hd : ((evAt es j).n == (k : Int)) = false := by simpa using he
            clear he
            go_wp2
            go_roundw
            case rel => exact ⟨j + 1, y, by omega, by omega, by go_num, rfl, trivial⟩
            case measure => simp [intOf]; omega
        · have hy14 : y ≤ 14 := by omega
          have hbd : (y : Int) + 1 ≤ 9223372036854775807 := by omega
          have hbd0 : -9223372036854775808 ≤ (y : Int) + 1 := by omega
          go_wp2_with fail
          refine (below_any p a len cap bs ((y : Int) + 1) _ KL.out.cur (hv.grown KL.out.grown hp) hp hl (by omega)).mono ?_
          rintro e w2 ⟨x, rfl, hx0, hx1, hx2, hc2, hg2⟩
          have hx15 : x ≤ 15 := by have := hx1 (by omega); omega
          have L2 := KL.out.step hpl hc2 hg2
          have o2 := L2.out
          rw [HXL.out] at o2
          have KL2 : Hid (Lz w w2 p a len cap g f c xs) := L2
          clear hx1 hx2 hc2 hg2 L2
          go_wp2_with (at_builtin; refine wpList_append_os _ rfl _ _ _ rfl 2 i0 _ 1 8 Try.underlying24 hi0 hz0 hz1 hz2 rfl (by omega) g f k c (xs.map (Value.int .i64)) rfl (OSl.below o2 ((Below.refl _ _).alloc (Nat.le_refl _) _) o2.blk) ⟨w2.heap.size, 0, none⟩ 1 1 [.int .i64 x] rfl rfl (World.news_of_block (cs := #[.int .i64 x]) (t := 2) (fr := (0, 0)) (heap_alloc_new w2 _)) (by simp [Value.oneCell']) (by unfold maxLen; omega) (by omega) ?_; intro gA fA cA wA hoA hgA hatA)
          have LA : Hid (Lz w wA p a len cap gA fA cA (xs ++ [x])) := KL2.out.push hpl (by omega) hgA hatA (by rw [HXL.out]; exact hoA)
          have HXA : Hid ((xs ++ [x]).length = k + 1) := by simp [Hid, HXL.out]
          have HA15 : Hid (∀ z ∈ xs ++ [x], z ≤ 15) := fun z hz => by
            rw [List.mem_append, List.mem_singleton] at hz
            rcases hz with h | h
            · exact HB15.out z h
            · omega
          clear hoA hgA hatA o2
          go_wp2
          go_roundw
          case rel => exact ⟨k + 1, xs ++ [x], gA, fA, cA, by omega, HXA.out, by go_num, rfl, HA15.out, LA.out⟩
          case measure => simp [intOf]; omega
    · have hk8 : k = 8 := by omega
      subst hk8
      have hx8 := HXL.out
      have hgp : g ≠ p := by have := KL.out.new; omega
      go_wp2_with fail
      refine (once_any p a len cap bs 12 _ KL.out.cur (hv.grown KL.out.grown hp) hp hl (by omega)).mono ?_
      rintro e w2 ⟨x, rfl, hc2, hg2⟩
      have KL2 : Hid (Lz w w2 p a len cap g f c xs) := KL.out.step hpl hc2 hg2
      clear hc2 hg2
      cases x
      · go_wp2
        go_ret
        exact ⟨g, f, c, xs, by rw [hx8]; rfl, by omega, KL2.out⟩
      · go_wp2_with fail
        refine (below_any p a len cap bs 3 _ KL2.out.cur (hv.grown KL2.out.grown hp) hp hl (by omega)).mono ?_
        rintro e w3 ⟨y, rfl, hy0, hy1, hy2, hc3, hg3⟩
        have KL3 : Hid (Lz w w3 p a len cap g f c xs) := KL2.out.step hpl hc3 hg3
        have hy3 := hy1 (by omega)
        clear hc3 hg3 hy1 hy2 KL2 KL
        have o3 := KL3.out.out
        rw [hx8] at o3
        have ho3 : Hid (OI w3 g f 8 c xs) := o3
        have hle := o3.le
        have hmx := o3.max
        have c8 : (8 : Int) ≤ (c : Int) := by omega
        have c1 : (1 : Int) ≤ (c : Int) := by omega
        clear o3
        rcases (by omega : y = 0 ∨ y = 1 ∨ y = 2) with hy | hy | hy
        · subst hy
          go_wp2
          go_ret
          cases xs with
          | nil => simp at hx8
          | cons z zs =>
            have hz : zs.length = 7 := by simpa using hx8
            obtain ⟨o9, ho9, ht⟩ := oi_tail ho3.out
            rw [if_neg (by omega)] at ho9
            cases ho9
            exact ⟨g, f + 1, c - 1, zs, by rw [hz]; rfl, by omega, ⟨by rw [hz]; exact ht, KL3.out.new, KL3.out.cur, KL3.out.grown, fun x hx => KL3.out.small x (by simp [hx])⟩⟩
        · subst hy
          have z0 := ho3.out.cellAt (i := 0) (by omega)
          have f0 := ho3.out.free 0 (by omega)
          simp only [Nat.add_zero] at z0 f0
          have hs := KL3.out.small (el xs 0) (el_mem (by omega))
          have hbd : el xs 0 + 3 ≤ 9223372036854775807 := by omega
          have hbd0 : -9223372036854775808 ≤ el xs 0 + 3 := by omega
          go_wp2
          go_ret
          have hq := KL3.out.put hpl (i := 0) (v := el xs 0 + 3) (by omega) (by
            have h2 := HB15.out (el xs 0) (el_mem (by omega))
            omega)
          simp only [Nat.add_zero] at hq
          exact ⟨g, f, c, xs.set 0 (el xs 0 + 3), by rw [List.length_set, hx8]; rfl, by rw [List.length_set]; omega, hq⟩
        · subst hy
          have z1 := ho3.out.cellAt (i := 1) (by omega)
          have f1 := ho3.out.free 1 (by omega)
          go_wp2
          go_ret
          exact ⟨g, f, c, xs.set 1 (-1), by rw [List.length_set, hx8]; rfl, by rw [List.length_set]; omega, KL3.out.put hpl (i := 1) (by omega) (by omega)⟩
end Go.Proofs.Ytacjpebifacclaa

/-
  What the laws of cuts draw: a trace and numbers.
-/
namespace Go.Proofs.Ytacjpebifacclaa
set_option linter.unusedSimpArgs false
set_option linter.unusedVariables false
open Go.RowKit Go.Sort

/-- A drawn trace and drawn numbers, both in memory of their own. -/
structure Gcut (w w' : World) (g f c : Nat) (es : List Ev) (gz fz cz : Nat) (xs : List Int) : Prop where
  evs : OE w' g f c es
  le14 : es.length ≤ 14
  out : OI w' gz fz xs.length cz xs
  le8 : xs.length ≤ 8
  fits : Fits xs
  below : Below w.heap.size w w'
theorem Gcut.step {w w' w2 : World} {g f c : Nat} {es : List Ev} {gz fz cz : Nat} {xs : List Int} (h : Gcut w w' g f c es gz fz cz xs) (hb : Below w'.heap.size w' w2) : Gcut w w2 g f c es gz fz cz xs :=
  ⟨OSl.below h.evs hb h.evs.blk, h.le14, OSl.below h.out hb h.out.blk, h.le8, h.fits, h.below.trans (hb.mono h.below.size)⟩

set_option maxRecDepth 100000 in
set_option maxHeartbeats 1600000 in
theorem drawWithin_any (a : Option Addr) (len cap : Nat) (bs : Nat → Int) (w : World) (hv : BVec w a len bs) (hl : len ≤ 4096) :
    Calls Try.prog 50 #[.slice a len cap] w fun e w' => ∃ g f c es gz fz cz xs, e = .returned (.tuple #[.slice (some ⟨g, f, none⟩) es.length c, .slice (some ⟨gz, fz, none⟩) xs.length cz]) ∧ Gcut w w' g f c es gz fz cz xs := by
  go_enter Try.func50, Try.ntmps50
  go_wp2_with fail
  refine (new_any a len cap bs w hv hl).mono ?_
  rintro e w1 ⟨p, rfl, hp, hc1, hb1⟩
  have hv1 := hv.below hb1 (Nat.le_refl _)
  have hoff : OffB a len p := fun h b off e => by have := hv.inB h b off e; omega
  have hs1 := hb1.size
  have hpl := hc1.lt
  go_wp2_with fail
  refine (l2DrawAny_any p a len cap bs w1 hc1 hv1 hoff hl).mono ?_
  rintro e w2 ⟨g, f, c, es, rfl, hes, L2⟩
  have hgp : g ≠ p := by have := L2.new; omega
  go_wp2_with fail
  refine (l4DrawCut_any p a len cap bs g f es.length c es w2 L2.cur (hv1.grown L2.grown hoff) hoff hl L2.out.at hgp hes).mono ?_
  rintro e w3 ⟨gz, fz, cz, xs, rfl, hx8, L3⟩
  have K : Hid (Gcut w w3 g f c es gz fz cz xs) := by
    refine ⟨OSl.grown L2.out L3.grown (by simp; omega), hes, L3.out, hx8, L3.fits, ?_⟩
    exact below_grown hb1 (grown_trans L2.grown L3.grown) hp hs1
  clear L2 L3 hc1 hb1 hv1
  go_wp2
  go_ret2
  exact ⟨g, f, c, es, gz, fz, cz, xs, rfl, K.out⟩

set_option maxRecDepth 100000 in
set_option maxHeartbeats 1600000 in
theorem drawCutOk_any (a : Option Addr) (len cap : Nat) (bs : Nat → Int) (w : World) (hv : BVec w a len bs) (hl : len ≤ 4096) :
    Calls Try.prog 47 #[.slice a len cap] w fun e w' => ∃ g f c es gz fz cz xs, e = .returned (.tuple #[.slice (some ⟨g, f, none⟩) es.length c, .slice (some ⟨gz, fz, none⟩) xs.length cz]) ∧ Gcut w w' g f c es gz fz cz xs := by
  go_enter Try.func47, Try.ntmps47
  go_wp2_with fail
  refine (new_any a len cap bs w hv hl).mono ?_
  rintro e w1 ⟨p, rfl, hp, hc1, hb1⟩
  have hv1 := hv.below hb1 (Nat.le_refl _)
  have hoff : OffB a len p := fun h b off e => by have := hv.inB h b off e; omega
  have hs1 := hb1.size
  have hpl := hc1.lt
  go_wp2_with fail
  refine (l2DrawAny_any p a len cap bs w1 hc1 hv1 hoff hl).mono ?_
  rintro e w2 ⟨g, f, c, es, rfl, hes, L2⟩
  have hgp : g ≠ p := by have := L2.new; omega
  have hp2 : p < w2.heap.size := L2.cur.lt
  go_wp2_with fail
  refine (l4DrawCut_any p a len cap bs g f es.length c es w2 L2.cur (hv1.grown L2.grown hoff) hoff hl L2.out.at hgp hes).mono ?_
  rintro e w3 ⟨gz, fz, cz, xs, rfl, hx8, L3⟩
  have hzp : gz ≠ p := by have := L3.new; omega
  have hv3 := (hv1.grown L2.grown hoff).grown L3.grown hoff
  go_wp2_with fail
  refine (once_any p a len cap bs 2 w3 L3.cur hv3 hoff hl (by omega)).mono ?_
  rintro e w4 ⟨x, rfl, hc4, hg4⟩
  have K : Gcut w w4 g f c es gz fz cz xs := by
    refine ⟨(OSl.grown L2.out L3.grown (by simp; omega)).grown hg4 (by simp; omega), hes, OSl.grown L3.out hg4 (by simp; omega), hx8, L3.fits, ?_⟩
    exact below_grown hb1 (grown_trans (grown_trans L2.grown L3.grown) hg4) hp hs1
  have KK : Hid (Gcut w w4 g f c es gz fz cz xs) := K
  clear L2 L3 hc1 hb1 hv1 hv3 hc4 hg4 hp2
  cases x
  · clear K
    go_wp2
    go_ret2
    exact ⟨g, f, c, es, gz, fz, cz, xs, rfl, KK.out⟩
  · have hC := l4Cut_any g f es.length c es (some ⟨gz, fz, none⟩) xs.length cz xs w4 K.evs.at (by unfold maxLen; omega) K.evs.le (K.out.vec K.fits) (by unfold maxLen; omega)
    have hW := fun X (hX : Gcut w X g f c es gz fz cz xs) => specWithin_any g f es.length c es (some ⟨gz, fz, none⟩) xs.length cz xs X hX.evs.at (by unfold maxLen; omega) hX.evs.le (hX.out.vec hX.fits) (by unfold maxLen; omega)
    clear K
    cases ho : cutB es es.length xs
    · rw [ho] at hC
      go_wp2_with fail
      refine hC.mono ?_
      rintro e w5 ⟨rfl, hb5⟩
      have K5 : Hid (Gcut w w5 g f c es gz fz cz xs) := KK.out.step hb5
      clear hb5
      go_wp2
      go_ret2
      exact ⟨g, f, c, es, gz, fz, cz, xs, rfl, K5.out⟩
    · rw [ho] at hC
      go_wp2_with fail
      refine hC.mono ?_
      rintro e w5 ⟨rfl, hb5⟩
      have K5 : Hid (Gcut w w5 g f c es gz fz cz xs) := KK.out.step hb5
      clear hb5
      go_wp2_with fail
      refine (hW w5 K5.out).mono ?_
      rintro e w6 ⟨Z, hZ, g6, f6, c6, rfl, _, o6, hb6⟩
      have K6 : Hid (Gcut w w6 g f c es g6 f6 c6 Z) := by
        have k := K5.out.step hb6
        rcases hZ with ⟨h1, _⟩ | ⟨_, h2⟩
        · rw [ho] at h1; cases h1
        · have h40 := h2.cut.le40
          refine ⟨k.evs, k.le14, o6, by rw [h2.cut.len]; omega, fits8 h2.cut.len (fun j hj => ?_), k.below⟩
          have := h2.cut.lo j hj
          have := h2.cut.hi j hj
          have := num_leK es (j : Int) es.length
          omega
      clear hb6 o6 hZ
      go_wp2
      go_ret2
      exact ⟨g, f, c, es, g6, f6, c6, Z, rfl, K6.out⟩

theorem drawFlying_any (a : Option Addr) (len cap : Nat) (bs : Nat → Int) (w : World) (hv : BVec w a len bs) (hl : len ≤ 4096) :
    Calls Try.prog 56 #[.slice a len cap] w fun e w' => ∃ g f c es gz fz cz xs, e = .returned (.tuple #[.slice (some ⟨g, f, none⟩) es.length c, .slice (some ⟨gz, fz, none⟩) xs.length cz]) ∧ Gcut w w' g f c es gz fz cz xs := by
  go_enter Try.func56, Try.ntmps56
  go_wp2_with fail
  refine (drawCutOk_any a len cap bs w hv hl).mono ?_
  rintro e w1 ⟨g, f, c, es, gz, fz, cz, xs, rfl, h⟩
  have K : Hid (Gcut w w1 g f c es gz fz cz xs) := h
  clear h
  go_wp2
  go_ret2
  exact ⟨g, f, c, es, gz, fz, cz, xs, rfl, K.out⟩
end Go.Proofs.Ytacjpebifacclaa
