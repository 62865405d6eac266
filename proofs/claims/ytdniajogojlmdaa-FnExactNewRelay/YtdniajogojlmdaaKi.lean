/-
  Several texts in one: Irv.
-/
import Derived.Test.YtdniajogojlmdaaKh
import Derived.Test.YtdniajogojlmdaaJu
/-
  The program's relayOf: a relay as the program works on it, who has what in one set.
-/
namespace Go.Proofs.Ytdniajogojlmdaa
set_option linter.unusedVariables false
set_option linter.unusedSimpArgs false
open Go.RowKit Go.Sort

/-- The set holds what the first i lists hold, and the first j of the next one. -/
def MemH (H : List (List Int)) (i j : Nat) (L : List (Int × Int)) : Prop := ∀ x y : Int, (x, y) ∈ L ↔ (0 ≤ x ∧ x < (i : Int) ∧ y ∈ row H x.toNat) ∨ (x = (i : Int) ∧ ∃ t, t < j ∧ el (row H i) t = y)
theorem memH_nil (H : List (List Int)) : MemH H 0 0 [] := fun x y => by
  constructor
  · intro h; cases h
  · rintro (⟨h1, h2, _⟩ | ⟨_, t, h, _⟩) <;> omega
theorem MemH.step {H : List (List Int)} {i j : Nat} {L : List (Int × Int)} (h : MemH H i j L) : MemH H i (j + 1) (addL L ((i : Int), el (row H i) j)) := fun x y => by
  rw [mem_addL, h x y, Prod.mk.injEq]
  constructor
  · rintro (⟨rfl, rfl⟩ | h | ⟨h1, t, h2, h3⟩)
    · exact .inr ⟨rfl, j, by omega, rfl⟩
    · exact .inl h
    · exact .inr ⟨h1, t, by omega, h3⟩
  · rintro (h | ⟨h1, t, h2, h3⟩)
    · exact .inr (.inl h)
    · rcases Nat.lt_succ_iff_lt_or_eq.1 h2 with e | e
      · exact .inr (.inr ⟨h1, t, e, h3⟩)
      · exact .inl ⟨h1, by rw [← h3, e]⟩
theorem MemH.next {H : List (List Int)} {i : Nat} {L : List (Int × Int)} (h : MemH H i (row H i).length L) : MemH H (i + 1) 0 L := fun x y => by
  rw [h x y]
  constructor
  · rintro (⟨h1, h2, h3⟩ | ⟨h1, t, h2, h3⟩)
    · exact .inl ⟨h1, by omega, h3⟩
    · subst h1
      exact .inl ⟨by omega, by omega, by rw [Int.toNat_natCast]; exact el_mem10.2 ⟨t, h2, h3⟩⟩
  · rintro (⟨h1, h2, h3⟩ | ⟨_, t, h2, _⟩)
    · by_cases e : x = (i : Int)
      · subst e
        rw [Int.toNat_natCast] at h3
        exact .inr ⟨rfl, el_mem10.1 h3⟩
      · exact .inl ⟨h1, by omega, h3⟩
    · omega
theorem okRow_inj {B : Int} {h : List Int} (hk : okRow B h) {s t : Nat} (hs : s < t) (ht : t < h.length) : el h s ≠ el h t := by
  have hp := (okRow_iff.1 hk).2
  rw [List.pairwise_iff_getElem] at hp
  have := hp s t (by omega) ht hs
  have e1 : el h s = h[s]'(by omega) := by simp [el, show s < h.length by omega]
  have e2 : el h t = h[t] := by simp [el, ht]
  omega
theorem MemH.fresh {B : Int} {H : List (List Int)} {i j : Nat} {L : List (Int × Int)} (h : MemH H i j L) (hk : okRow B (row H i)) (hj : j < (row H i).length) : ((i : Int), el (row H i) j) ∉ L := fun hm => by
  rcases (h _ _).1 hm with ⟨_, h2, _⟩ | ⟨_, t, h2, h3⟩
  · omega
  · exact okRow_inj hk h2 hj h3

/-- What relayOf holds. -/
structure RSt (w wr : World) (N B : Int) (a : Option Addr) (len cap m : Nat) (L : List (Int × Int)) : Prop where
  box : Bx wr w.heap.size 35 #[.int .i64 N, .int .i64 B, .slice a len cap]
  res : Bx wr (w.heap.size + 1) 83 #[.int .i64 0, .int .i64 0, .map none]
  own : Bx wr (m + 1) 83 #[.int .i64 N, .int .i64 B, .map (some m)]
  set : HS wr m L
  hm : w.heap.size + 1 < m
  below : Below w.heap.size w wr
theorem RSt.add {w wr w' : World} {N B : Int} {a : Option Addr} {len cap m : Nat} {L L' : List (Int × Int)} (h : RSt w wr N B a len cap m L) (hg : wr.grownBy w' (some m)) (hs : HS w' m L') : RSt w w' N B a len cap m L' := by
  have hm := h.hm
  refine ⟨h.box.grown hg (by simp; omega), h.res.grown hg (by simp; omega), h.own.grown hg (by simp), hs, hm, ?_⟩
  exact (Wrt.of_grown hg).below h.below h.below.size (fun b e => by cases e; omega)
theorem RSt.start {w w2 : World} (N B : Int) (a : Option Addr) (len cap : Nat) (hg : Grew ((w.alloc (.cells #[.int .i64 N, .int .i64 B, .slice a len cap] 35)).alloc (.cells #[.int .i64 0, .int .i64 0, .map none] 83)) w2) :
    RSt w ((w2.alloc (.map #[] 0)).alloc (.cells #[.int .i64 N, .int .i64 B, .map (some w2.heap.size)] 83)) N B a len cap w2.heap.size [] := by
  have h1 : Bx ((w.alloc (.cells #[.int .i64 N, .int .i64 B, .slice a len cap] 35)).alloc (.cells #[.int .i64 0, .int .i64 0, .map none] 83)) w.heap.size 35 #[.int .i64 N, .int .i64 B, .slice a len cap] := (Bx.new _ _ _).alloc _
  have h2 : Bx ((w.alloc (.cells #[.int .i64 N, .int .i64 B, .slice a len cap] 35)).alloc (.cells #[.int .i64 0, .int .i64 0, .map none] 83)) (w.heap.size + 1) 83 #[.int .i64 0, .int .i64 0, .map none] := by
    have := Bx.new (w.alloc (.cells #[.int .i64 N, .int .i64 B, .slice a len cap] 35)) 83 #[.int .i64 0, .int .i64 0, .map none]
    simpa using this
  have hsz := hg.1.size
  simp only [World.size_alloc] at hsz
  have hb0 : Below w.heap.size w ((w.alloc (.cells #[.int .i64 N, .int .i64 B, .slice a len cap] 35)).alloc (.cells #[.int .i64 0, .int .i64 0, .map none] 83)) := ((Below.refl _ _).alloc (Nat.le_refl _) _).alloc (by simp) _
  have hb2 := hb0.trans (hg.1.mono hb0.size)
  refine ⟨((h1.below hg.1).alloc _).alloc _, ((h2.below hg.1).alloc _).alloc _, ?_, (ks_made w2).below (one_alloc10 _ _), by omega, (hb2.alloc hb2.size _).alloc (by simp; omega) _⟩
  have := Bx.new (w2.alloc (.map #[] 0)) 83 #[.int .i64 N, .int .i64 B, .map (some w2.heap.size)]
  simpa using this

/-- Who has what, in block m. -/
def Heldm (w w' : World) (m : Nat) (H : List (List Int)) : Prop := ∃ L, HS w' m L ∧ MemH H H.length 0 L ∧ L.length = tot H H.length ∧ w.heap.size ≤ m

set_option maxRecDepth 100000 in
set_option maxHeartbeats 3200000 in
theorem rof_yes (N B : Int) (a : Option Addr) (len cap : Nat) (H : List (List Int)) (w : World) (hv : VV w a len cap H) (hok : okRel N B H) :
    Calls Try.prog 76 #[rlV N B a len cap] w fun e w' => ∃ m, e = .returned (.tuple #[.agg #[.int .i64 N, .int .i64 B, .map (some m)], .bool true]) ∧ Heldm w w' m H ∧ Below w.heap.size w w' := by
  have hG0 : Grew w ((w.alloc (.cells #[.int .i64 N, .int .i64 B, .slice a len cap] 35)).alloc (.cells #[.int .i64 0, .int .i64 0, .map none] 83)) := ((Grew.refl _).alloc _).alloc _
  have hR := rokI_any N B a len cap H _ (hv.grew hG0)
  rw [decide_eq_true hok] at hR
  have hl : (H.length : Int) = N := hok.2.2.1
  have hHl := hv.n
  have hl12 : len ≤ 12 := by have := hok.1; omega
  have HO : Hid (okRel N B H) := hok
  have HV : Hid (VV w a len cap H) := hv
  have b0 := hok.1
  have b1 := hok.2.1
  unfold rlV at hR ⊢
  clear hok hv hG0
  have hmm := @run_makeMap Try.prog
  go_enter Try.func76, Try.ntmps76
  go_wp2_with (go_at_call 41; refine hR.mono ?_; rintro e w2 ⟨rfl, hg2⟩; have HS0 : Hid _ := RSt.start N B a len cap hg2; have x0 := hg2.cell (x := ⟨w.heap.size, 0, none⟩) (v := .int .i64 N) (by simp); have x1 := hg2.cell (x := ⟨w.heap.size, 1, none⟩) (v := .int .i64 B) (by simp); have x2 := hg2.cell (x := ⟨w.heap.size, 2, none⟩) (v := .slice a len cap) (by simp); obtain ⟨y0, y1, y2⟩ := HS0.out.box.r3)
  clear hR hmm y0 y1 y2
  have hm2 := HS0.out.hm
  have HL : Hid (len ≤ 12) := hl12
  generalize w2.heap.size = m at *
  clear x0 x1 x2 hg2
  go_loopw [22] (fun i wr => ∃ (k : Nat) (L : List (Int × Int)), k ≤ len ∧ i = .int .i64 k ∧ RSt w wr N B a len cap m L ∧ MemH H k 0 L ∧ L.length = tot H k) (fun i _ => len - (intOf i).toNat)
  case atStart => exact ⟨0, [], Nat.zero_le _, rfl, HS0.out, memH_nil H, rfl⟩
  case round =>
    obtain ⟨k, L, hk, rfl, hS, hM, hT⟩ := hrel
    by_cases hlt : k < len
    · obtain ⟨b, off, x, c, rfl, hc, hvx, hcc, hcm⟩ := HV.out.row k hlt
      have hcw := below_cell hS.below hc
      have hok : okRow B (row H k) := HO.out.2.2.2.2 k (by omega)
      have hrl : (row H k).length ≤ 12 := by have := okRow_len hok (by omega : B ≤ 12); omega
      have HK : Hid (okRow B (row H k)) := hok
      have HX : Hid (Vec w x (row H k).length (row H k)) := hvx
      have HM0 : Hid (MemH H k 0 L) := hM
      have HT0 : Hid (L.length = tot H k) := hT
      have HSS : Hid (RSt w wr N B (some ⟨b, off, none⟩) len cap m L) := hS
      have HTT : Hid (tot H k ≤ 144) := by
        have := tot_le12 H (m := 12) k (fun i hi => by have := okRow_len (HO.out.2.2.2.2 i (by omega)) (by omega : B ≤ 12); omega)
        have := HL.out
        rw [Hid]; omega
      have k1 : (k : Int) < (len : Int) := by omega
      have k0 : (0 : Int) ≤ (k : Int) := by omega
      have hxl : (row H k).length ≤ 9223372036854775807 := by omega
      clear hok hvx hM hT hS hc
      generalize hrk : row H k = h at *
      have HR : Hid (row H k = h) := hrk
      clear hrk
      go_wp2_with fail
      clear hcw
      go_loopw [29] (fun i wr => ∃ (j : Nat) (L : List (Int × Int)), j ≤ h.length ∧ i = .int .i64 j ∧ RSt w wr N B (some ⟨b, off, none⟩) len cap m L ∧ MemH H k j L ∧ L.length = tot H k + j) (fun i _ => h.length - (intOf i).toNat)
      case atStart => exact ⟨0, L, Nat.zero_le _, rfl, HSS.out, HM0.out, by rw [HT0.out]; rfl⟩
      case round =>
        obtain ⟨j, L2, hj, rfl, hS, hM, hT⟩ := hrel
        by_cases hjl : j < h.length
        · rcases HX.out.2.2 with hz | ⟨bx, ox, rfl, hcs⟩
          · omega
          have hcj := below_cell hS.below (hcs j hjl)
          have hq := hS.own.at 2 rfl
          have j1 : (j : Int) < (h.length : Int) := by omega
          have j0 : (0 : Int) ≤ (j : Int) := by omega
          have hin := HK.out.1 j hjl
          have hA := addH_any m L2 (k : Int) (el h j) wr hS.set (by omega) (by omega) (by have := HTT.out; omega)
          have HF : Hid (((k : Int), el h j) ∉ L2) := by
            have e := HR.out
            subst e
            exact hM.fresh HK.out hjl
          have HS2 : Hid (RSt w wr N B (some ⟨b, off, none⟩) len cap m L2) := hS
          have HM2 : Hid (MemH H k (j + 1) (addL L2 ((k : Int), el h j))) := by
            have e := HR.out
            subst e
            exact hM.step
          have HT2 : Hid ((addL L2 ((k : Int), el h j)).length = tot H k + (j + 1)) := by
            rw [Hid, addL, if_neg HF.out, List.length_cons, hT]; omega
          clear hS hM hT hin hcs
          go_wp2_with (go_at_call 78; refine hA.mono ?_; rintro e w4 ⟨rfl, hs4, hg4⟩)
          go_roundw
          case rel => exact ⟨j + 1, _, by omega, by go_num, HS2.out.add hg4 hs4, HM2.out, HT2.out⟩
          case measure => simp [intOf]; omega
        · have hje : j = h.length := by omega
          have HS2 : Hid (RSt w wr N B (some ⟨b, off, none⟩) len cap m L2) := hS
          have HM2 : Hid (MemH H (k + 1) 0 L2) := by
            have e := HR.out
            subst e
            rw [hje] at hM
            exact hM.next
          have HT2 : Hid (L2.length = tot H (k + 1)) := by rw [Hid, tot, HR.out, hT, hje]
          clear hS hM hT
          subst hje
          go_wp2
          go_roundw
          case rel => exact ⟨k + 1, L2, by omega, by go_num, HS2.out, HM2.out, HT2.out⟩
          case measure => simp [intOf]; omega
    · have hkl : k = len := by omega
      obtain ⟨o0, o1, o2⟩ := hS.own.r3
      obtain ⟨r0, r1, r2⟩ := hS.res.r3
      have f0 := hS.res.f 0
      have f1 := hS.res.f 1
      have f2 := hS.res.f 2
      have HE : Hid (Heldm w (((wr.setCell ⟨w.heap.size + 1, 0, none⟩ (.int .i64 N)).setCell ⟨w.heap.size + 1, 1, none⟩ (.int .i64 B)).setCell ⟨w.heap.size + 1, 2, none⟩ (.map (some m))) m H ∧ Below w.heap.size w (((wr.setCell ⟨w.heap.size + 1, 0, none⟩ (.int .i64 N)).setCell ⟨w.heap.size + 1, 1, none⟩ (.int .i64 B)).setCell ⟨w.heap.size + 1, 2, none⟩ (.map (some m)))) := by
        have hm := hS.hm
        refine ⟨⟨L, hS.set.wrt (wrt3 wr (w.heap.size + 1)) (by omega), by rw [hHl, ← hkl]; exact hM, by rw [hHl, ← hkl]; exact hT, by omega⟩, below3 hS.below (by omega)⟩
      clear hS hM hT
      subst hkl
      go_wp2
      refine bodyPost_ret (v := .tuple #[.agg #[.int .i64 N, .int .i64 B, .map (some m)], .bool true]) (by simp [results, Try.results76, go_sem, *]) rfl ?_
      exact ⟨m, rfl, HE.out⟩

set_option maxRecDepth 100000 in
set_option maxHeartbeats 1600000 in
theorem rof_no (N B : Int) (a : Option Addr) (len cap : Nat) (H : List (List Int)) (w : World) (hv : VV w a len cap H) (hok : ¬ okRel N B H) :
    Calls Try.prog 76 #[rlV N B a len cap] w fun e w' => e = .returned (.tuple #[.agg #[.int .i64 0, .int .i64 0, .map none], .bool false]) ∧ Grew w w' := by
  have hG0 : Grew w ((w.alloc (.cells #[.int .i64 N, .int .i64 B, .slice a len cap] 35)).alloc (.cells #[.int .i64 0, .int .i64 0, .map none] 83)) := ((Grew.refl _).alloc _).alloc _
  have hR := rokI_any N B a len cap H _ (hv.grew hG0)
  rw [decide_eq_false hok] at hR
  unfold rlV at hR ⊢
  clear hok hv
  go_enter Try.func76, Try.ntmps76
  go_wp2_with (go_at_call 41; refine hR.mono ?_; rintro e w2 ⟨rfl, hg2⟩; have hS := RSt.start N B a len cap hg2; have h2 : Bx w2 (w.heap.size + 1) 83 #[.int .i64 0, .int .i64 0, .map none] := (by (have := Bx.new (w.alloc (.cells #[.int .i64 N, .int .i64 B, .slice a len cap] 35)) 83 #[.int .i64 0, .int .i64 0, .map none]); rw [World.size_alloc] at this; exact this.below hg2.1); obtain ⟨r0, r1, r2⟩ := h2.r3; have f0 := h2.f 0; have f1 := h2.f 1; have f2 := h2.f 2; clear hS h2)
  refine bodyPost_ret (v := .tuple #[.agg #[.int .i64 0, .int .i64 0, .map none], .bool false]) (by simp [results, Try.results76, go_sem, *]) rfl ⟨rfl, ?_⟩
  have := hG0.trans hg2
  exact ((this.set (by omega) 0 _).set (by omega) 1 _).set (by omega) 2 _
end Go.Proofs.Ytdniajogojlmdaa
