/-
  Several texts in one: LawFl.
-/
import Derived.Test.YtacjpebifacclaaGm
/-
  The walk of the law FnFlying, from what the program's Flying answers.
-/
namespace Go.Proofs.Ytacjpebifacclaa
set_option linter.unusedSimpArgs false
set_option linter.unusedVariables false
open Go.RowKit Go.Sort

theorem rises_of {Z : List Int} (h : Z.Pairwise (· < ·)) : ∀ j, j + 1 < Z.length → el Z j < el Z (j + 1) := fun j hj => by
  rw [el_eq (by omega : j < Z.length), el_eq hj]
  exact List.pairwise_iff_getElem.1 h j (j + 1) (by omega) hj (by omega)
theorem FlT.rises {es : List Ev} {n : Nat} {a Z : List Int} (h : FlT es n a Z) : ∀ j, j + 1 < Z.length → el Z j < el Z (j + 1) := by
  rcases h with ⟨_, rfl⟩ | ⟨_, h⟩
  · intro j hj; simp at hj
  · exact rises_of h.sorted
/-- What the first j events of a trace send and hear in a cut. -/
def SentL (es : List Ev) (c : List Int) (j : Nat) (S : List Int) : Prop := S.length ≤ j ∧ (∀ m ∈ S, -9223372036854775808 ≤ m ∧ m ≤ 9223372036854775807) ∧ ∀ m, m ∈ S ↔ SentIn es c j m
def HeardL (es : List Ev) (c : List Int) (j : Nat) (S : List Int) : Prop := S.length ≤ j ∧ (∀ m ∈ S, -9223372036854775808 ≤ m ∧ m ≤ 9223372036854775807) ∧ ∀ m, m ∈ S ↔ HeardIn es j c m
theorem SentL.skip {es : List Ev} {c : List Int} {j : Nat} {S : List Int} (h : SentL es c j S) (hs : ¬ ((evAt es j).k = 2 ∧ inC es c j = true)) : SentL es c (j + 1) S := by
  refine ⟨by have := h.1; omega, h.2.1, fun m => ?_⟩
  rw [h.2.2]
  constructor
  · rintro ⟨i, hi, h1⟩; exact ⟨i, by omega, h1⟩
  · rintro ⟨i, hi, h1, h2, h3⟩
    by_cases e : i = j
    · subst e; exact absurd ⟨h1, h3⟩ hs
    · exact ⟨i, by omega, h1, h2, h3⟩
theorem SentL.put {es : List Ev} {c : List Int} {j : Nat} {S : List Int} (h : SentL es c j S) (h2 : (evAt es j).k = 2) (hi : inC es c j = true) (hm : -9223372036854775808 ≤ (evAt es j).m ∧ (evAt es j).m ≤ 9223372036854775807) : SentL es c (j + 1) (S ++ [(evAt es j).m]) := by
  refine ⟨by have := h.1; simp; omega, fun m hm' => ?_, fun m => ?_⟩
  · rw [List.mem_append, List.mem_singleton] at hm'
    rcases hm' with h1 | h1
    · exact h.2.1 m h1
    · rw [h1]; exact hm
  · rw [List.mem_append, List.mem_singleton, h.2.2]
    constructor
    · rintro (⟨i, hi', h1⟩ | h1)
      · exact ⟨i, by omega, h1⟩
      · exact ⟨j, by omega, h2, h1.symm, hi⟩
    · rintro ⟨i, hi', h1, h3, h4⟩
      by_cases e : i = j
      · subst e; exact .inr h3.symm
      · exact .inl ⟨i, by omega, h1, h3, h4⟩
theorem HeardL.skip {es : List Ev} {c : List Int} {j : Nat} {S : List Int} (h : HeardL es c j S) (hs : ¬ ((evAt es j).k = 3 ∧ inC es c j = true)) : HeardL es c (j + 1) S := by
  refine ⟨by have := h.1; omega, h.2.1, fun m => ?_⟩
  rw [h.2.2]
  constructor
  · rintro ⟨i, hi, h1⟩; exact ⟨i, by omega, h1⟩
  · rintro ⟨i, hi, h1, h2, h3⟩
    by_cases e : i = j
    · subst e; exact absurd ⟨h1, h3⟩ hs
    · exact ⟨i, by omega, h1, h2, h3⟩
theorem HeardL.put {es : List Ev} {c : List Int} {j : Nat} {S : List Int} (h : HeardL es c j S) (h2 : (evAt es j).k = 3) (hi : inC es c j = true) (hm : -9223372036854775808 ≤ (evAt es j).m ∧ (evAt es j).m ≤ 9223372036854775807) : HeardL es c (j + 1) (S ++ [(evAt es j).m]) := by
  refine ⟨by have := h.1; simp; omega, fun m hm' => ?_, fun m => ?_⟩
  · rw [List.mem_append, List.mem_singleton] at hm'
    rcases hm' with h1 | h1
    · exact h.2.1 m h1
    · rw [h1]; exact hm
  · rw [List.mem_append, List.mem_singleton, h.2.2]
    constructor
    · rintro (⟨i, hi', h1⟩ | h1)
      · exact ⟨i, by omega, h1⟩
      · exact ⟨j, by omega, h2, h1.symm, hi⟩
    · rintro ⟨i, hi', h1, h3, h4⟩
      by_cases e : i = j
      · subst e; exact .inr h3.symm
      · exact .inl ⟨i, by omega, h1, h3, h4⟩
/-- What the law FnFlying holds in its first loop. -/
structure Fst (w5 wr : World) (es : List Ev) (j gS fS cS : Nat) (S : List Int) (gH fH cH : Nat) (H : List Int) : Prop where
  below : Below w5.heap.size w5 wr
  cnt : OI wr w5.heap.size 0 8 8 (allL es j)
  sent : OI wr gS fS S.length cS S
  heard : OI wr gH fH H.length cH H
  nS : w5.heap.size < gS
  nH : w5.heap.size < gH
  ne : gS ≠ gH
theorem Fst.pushS {w5 wr w8 : World} {es : List Ev} {j gS fS cS : Nat} {S : List Int} {gH fH cH : Nat} {H : List Int} {g8 f8 c8 : Nat} {x : Int} {o : Obj} (h : Fst w5 wr es j gS fS cS S gH fH cH H)
    (hg : (wr.alloc o).grownBy w8 (some gS)) (hat : g8 = gS ∨ g8 = (wr.alloc o).heap.size) (ho : OSl w8 1 g8 f8 (S.length + 1) c8 (S.map (Value.int .i64) ++ [.int .i64 x])) : Fst w5 w8 es j g8 f8 c8 (S ++ [x]) gH fH cH H := by
  have b1 : Below wr.heap.size wr (wr.alloc o) := (Below.refl _ _).alloc (Nat.le_refl _) _
  have hs := h.below.size
  have h1 := h.nS
  have h2 := h.nH
  have h3 := h.ne
  have h4 := h.heard.blk
  refine ⟨below_grown (h.below.alloc hs _) hg (by omega) (by simp; omega), (h.cnt.below b1 h.cnt.blk).grown hg (by simp; omega), ?_, (h.heard.below b1 h.heard.blk).grown hg (by simp; omega), ?_, h2, ?_⟩
  · have : (S ++ [x]).length = S.length + 1 := by simp
    rw [this]
    exact oi_snoc ho
  · rcases hat with e | e
    · rw [e]; exact h1
    · rw [e]; simp; omega
  · rcases hat with e | e
    · rw [e]; exact h3
    · rw [e]; simp; omega
theorem Fst.pushH {w5 wr w8 : World} {es : List Ev} {j gS fS cS : Nat} {S : List Int} {gH fH cH : Nat} {H : List Int} {g8 f8 c8 : Nat} {x : Int} {o : Obj} (h : Fst w5 wr es j gS fS cS S gH fH cH H)
    (hg : (wr.alloc o).grownBy w8 (some gH)) (hat : g8 = gH ∨ g8 = (wr.alloc o).heap.size) (ho : OSl w8 1 g8 f8 (H.length + 1) c8 (H.map (Value.int .i64) ++ [.int .i64 x])) : Fst w5 w8 es j gS fS cS S g8 f8 c8 (H ++ [x]) := by
  have b1 : Below wr.heap.size wr (wr.alloc o) := (Below.refl _ _).alloc (Nat.le_refl _) _
  have hs := h.below.size
  have h1 := h.nS
  have h2 := h.nH
  have h3 := h.ne
  have h4 := h.sent.blk
  refine ⟨below_grown (h.below.alloc hs _) hg (by omega) (by simp; omega), (h.cnt.below b1 h.cnt.blk).grown hg (by simp; omega), (h.sent.below b1 h.sent.blk).grown hg (by simp; omega), ?_, h1, ?_, ?_⟩
  · have : (H ++ [x]).length = H.length + 1 := by simp
    rw [this]
    exact oi_snoc ho
  · rcases hat with e | e
    · rw [e]; exact h2
    · rw [e]; simp; omega
  · rcases hat with e | e
    · rw [e]; exact h3
    · rw [e]; simp; omega
theorem Fst.bump {w5 wr : World} {es : List Ev} {j gS fS cS : Nat} {S : List Int} {gH fH cH : Nat} {H : List Int} {p : Nat} (h : Fst w5 wr es j gS fS cS S gH fH cH H) (hp8 : p < 8) (hp : (evAt es j).n = (p : Int)) :
    Fst w5 (wr.setCell ⟨w5.heap.size, p, none⟩ (.int .i64 (el (allL es j) p + 1))) es (j + 1) gS fS cS S gH fH cH H := by
  have h1 := h.nS
  have h2 := h.nH
  exact ⟨h.below.setCell (Nat.le_refl _) _, by rw [← allL_step hp8 hp]; exact h.cnt.set0 hp8 _, h.sent.setFar (by omega), h.heard.setFar (by omega), h1, h2, h.ne⟩
theorem Fst.drewN {w5 wr : World} {es : List Ev} {j gS fS cS : Nat} {S : List Int} {gH fH cH : Nat} {H : List Int} (h : Fst w5 wr es j gS fS cS S gH fH cH H) (k : Nat) : Fst w5 (wr.drewN k) es j gS fS cS S gH fH cH H :=
  ⟨belowN h.below, h.cnt.drewN k, h.sent.drewN k, h.heard.drewN k, h.nS, h.nH, h.ne⟩

set_option maxRecDepth 100000 in
set_option maxHeartbeats 3200000 in
/-- The law FnFlying. -/
theorem lawFnFlying (hFl : ImplFlying) (a : Option Addr) (len cap : Nat) (bs : Nat → Int) (w : World) (hv : BVec w a len bs) :
    Calls Try.prog 8 #[.slice a len cap] w fun e w' => e = .returned (.bool true) ∧ Below w.heap.size w w' := by
  by_cases hbig : (4096 : Int) < (len : Int)
  · have hB := big_any a len cap w
    rw [decide_eq_true hbig] at hB
    go_enter Try.func8, Try.ntmps8
    go_wp2_with fail
    refine hB.mono ?_
    rintro e w1 ⟨rfl, hw1⟩
    have HW : Hid (w1 = w) := hw1
    clear hw1
    go_wp2
    go_ret
    exact ⟨rfl, by rw [HW.out]; exact Below.refl _ _⟩
  · have hB := big_any a len cap w
    rw [decide_eq_false hbig] at hB
    have hl : len ≤ 4096 := by omega
    have hmk := run_make_row' (P := Try.prog) 24 2 (.int .i64 0) 8 Try.underlying24 Try.info2 rfl .i64 .i64 8 (by omega) (by omega)
    have h8 : ((8 : Nat) : Int) = 8 := rfl
    simp only [h8] at hmk
    obtain ⟨i0, hi0, hz0, hz1, hz2⟩ := info_parts Try.info2
    go_enter Try.func8, Try.ntmps8
    go_wp2_with fail
    refine hB.mono ?_
    rintro e w0 ⟨rfl, hw0⟩
    have hv0 : BVec w0 a len bs := by rw [hw0]; exact hv
    have B0 : Below w.heap.size w w0 := by rw [hw0]; exact Below.refl _ _
    clear hw0 hB
    go_wp2_with fail
    refine (drawFlying_any a len cap bs w0 hv0 hl).mono ?_
    rintro e w1 ⟨g, f, c, es, gz, fz, cz, xs, rfl, hG⟩
    have B1 : Hid (Below w.heap.size w w1) := B0.trans (hG.below.mono B0.size)
    have hnc := hG.evs.le
    have hn14 := hG.le14
    have hx8 := hG.le8
    have hnm : es.length ≤ maxLen := by unfold maxLen; omega
    have hxf := hG.fits
    have hxc := hG.out.le
    have hxm := hG.out.max
    have KE : Hid (∀ X, Below w1.heap.size w1 X → EvsAt X g f es.length es) := fun X hX => evs_below hG.evs.at hX (Nat.le_refl _)
    have o1 := hG.out
    clear hv0 B0 hG
    generalize es.length = n at *
    go_wp2_with fail
    refine (hFl g f n c es _ _ _ xs w1 (KE.out w1 (Below.refl _ _)) hnm hnc (o1.vec hxf) hxc hxm).mono ?_
    rintro e w2 ⟨Z, hZ, gw, fw, cw, rfl, _, oz2, hb2⟩
    have o2 := o1.below hb2 o1.blk
    have hzs := hZ.small
    have hrz := hZ.rises
    go_wp2_with fail
    refine (specFlying_any g f n c es _ _ _ xs w2 (KE.out w2 hb2) hnm hnc (o2.vec hxf) (by unfold maxLen; omega)).mono ?_
    rintro e w3 ⟨Z', hZ', g3, f3, c3, he, _, o3, hb3⟩
    rw [hZ'.unique hZ] at he o3
    subst he
    have z3 := oz2.below hb3 oz2.blk
    have x3 := o2.below hb3 o2.blk
    have b13 : Below w1.heap.size w1 w3 := hb2.trans (hb3.mono hb2.size)
    have hsame := sameB_self Z
    go_wp2_with fail
    refine (like_any _ _ _ _ _ _ Z Z w3 (z3.vec hzs.2) (o3.vec hzs.2) (by unfold maxLen; omega)).mono ?_
    rintro e w4 ⟨rfl, n4, hw4⟩
    have z4 : OI w4 gw fw Z.length cw Z := by rw [hw4]; exact z3.drewN n4
    have x4 : OI w4 gz fz xs.length cz xs := by rw [hw4]; exact x3.drewN n4
    have b14 : Below w1.heap.size w1 w4 := by rw [hw4]; exact belowN b13
    clear hw4 z3 x3 b13 o3 hb3 hb2 oz2 o2 o1 hZ'
    go_wp2_with fail
    refine (rises_any gw fw Z.length cw Z w4 rfl (fun i hi => z4.cellAt hi) (by omega) hrz).mono ?_
    rintro e w4' ⟨rfl, n4', hw4'⟩
    have z4' : OI w4' gw fw Z.length cw Z := by rw [hw4']; exact z4.drewN n4'
    have x4' : OI w4' gz fz xs.length cz xs := by rw [hw4']; exact x4.drewN n4'
    have b14' : Below w1.heap.size w1 w4' := by rw [hw4']; exact belowN b14
    clear hw4' z4 x4 b14 hrz
    go_wp2_with fail
    refine (specCutOk_any g f n c es _ _ _ xs w4' (KE.out w4' b14') hnm hnc (x4'.vec hxf) (by unfold maxLen; omega)).mono ?_
    rintro e w5 ⟨rfl, hb5⟩
    have z5 := z4'.below hb5 z4'.blk
    have x5 := x4'.below hb5 x4'.blk
    have b15 : Hid (Below w1.heap.size w1 w5) := b14'.trans (hb5.mono b14'.size)
    clear z4' x4' b14' hb5
    rcases hZ with ⟨hno, rfl⟩ | ⟨hyes, hF⟩
    · rw [hno]
      have HB : Hid (Below w.heap.size w w5) := B1.out.trans (b15.out.mono B1.out.size)
      clear z5 x5
      go_wp2
      go_ret
      exact ⟨rfl, HB.out⟩
    · rw [hyes]
      obtain ⟨hI, hcons⟩ := okC_iff.1 hyes
      have hxl := hI.len
      have hok := hI.ok
      have x5' : Hid (OI w5 gz fz 8 cz xs) := by have h := x5; rwa [hxl] at h
      have HZ5 : Hid (OI w5 gw fw Z.length cw Z) := z5
      have KE5 : Hid (∀ X, Below w5.heap.size w5 X → EvsAt X g f n es) := fun X hX => KE.out X (b15.out.trans (hX.mono b15.out.size))
      have HF : Hid (IsFly es n xs n Z) := hF
      have HCO : Hid (Cons es n xs) := hcons
      have HOK : Hid (okT es n = true) := hok
      have HRN : Hid (∀ j, j < n → 0 ≤ (evAt es j).n ∧ (evAt es j).n ≤ 7) := okT_nodes hok
      have HML : Hid (∀ j, j < n → 0 ≤ (evAt es j).m ∧ (evAt es j).m ≤ 1000) := fun j hj => okT_mail hok hj
      have hzl : Z.length ≤ 10000 := hzs.1
      rw [hxl]
      clear z5 x5 hF hcons hok hI hyes hxl hx8 hxc hzs
      have F0 : Hid (Fst w5 (((w5.alloc (.cells (madeCells #[.int .i64 0] 8) 2)).alloc (.cells #[] 2)).alloc (.cells #[] 2)) es 0 (w5.heap.size + 1) 0 0 [] (w5.heap.size + 1 + 1) 0 0 []) := by
        have c0 := oi_made w5 8 (by unfold maxLen; omega)
        obtain ⟨W1, e1⟩ : ∃ W1, w5.alloc (.cells (madeCells #[.int .i64 0] 8) 2) = W1 := ⟨_, rfl⟩
        have s1 : W1.heap.size = w5.heap.size + 1 := by rw [← e1]; simp
        have b1 : Below w5.heap.size w5 W1 := by rw [← e1]; exact (Below.refl _ _).alloc (Nat.le_refl _) _
        rw [e1] at c0 ⊢
        have d0 := oi_empty W1 2
        obtain ⟨W2, e2⟩ : ∃ W2, W1.alloc (.cells #[] 2) = W2 := ⟨_, rfl⟩
        have s2 : W2.heap.size = w5.heap.size + 1 + 1 := by rw [← e2]; simp [s1]
        have b2 : Below W1.heap.size W1 W2 := by rw [← e2]; exact (Below.refl _ _).alloc (Nat.le_refl _) _
        rw [e2, s1] at d0
        rw [e2]
        have f0 := oi_empty W2 2
        obtain ⟨W3, e3⟩ : ∃ W3, W2.alloc (.cells #[] 2) = W3 := ⟨_, rfl⟩
        have b3 : Below W2.heap.size W2 W3 := by rw [← e3]; exact (Below.refl _ _).alloc (Nat.le_refl _) _
        rw [e3, s2] at f0
        rw [Hid, e3]
        exact ⟨(b1.trans (b2.mono (by omega))).trans (b3.mono (by omega)), by rw [allL_zero]; exact (c0.below b2 (by omega)).below b3 (by omega), d0.below b3 (by omega), f0, by omega, by omega, by omega⟩
      go_wp2
      go_loopw [7, 8, 9] (fun sv hv i wr => ∃ (j : Nat) (S : List Int) (gS fS cS : Nat) (H : List Int) (gH fH cH : Nat), j ≤ n ∧ i = .int .i64 j ∧ sv = .slice (some ⟨gS, fS, none⟩) S.length cS ∧ hv = .slice (some ⟨gH, fH, none⟩) H.length cH ∧ SentL es xs j S ∧ HeardL es xs j H ∧ Fst w5 wr es j gS fS cS S gH fH cH H) (fun _ _ i _ => n - (intOf i).toNat)
      case atStart => exact ⟨0, [], w5.heap.size + 1, 0, 0, [], w5.heap.size + 1 + 1, 0, 0, Nat.zero_le _, rfl, rfl, rfl, ⟨Nat.le_refl _, fun m hm => by simp at hm, fun m => ⟨fun h => by simp at h, fun ⟨i, hi, _⟩ => by omega⟩⟩, ⟨Nat.le_refl _, fun m hm => by simp at hm, fun m => ⟨fun h => by simp at h, fun ⟨i, hi, _⟩ => by omega⟩⟩, F0.out⟩
      case round =>
        obtain ⟨j, S, gS, fS, cS, H, gH, fH, cH, hj, rfl, rfl, rfl, hS, hH, hFst⟩ := hrel
        have KS : Hid (SentL es xs j S) := hS
        have KH : Hid (HeardL es xs j H) := hH
        have KF : Hid (Fst w5 wr es j gS fS cS S gH fH cH H) := hFst
        have hSl := hS.1
        have hHl := hH.1
        clear hS hH hFst F0
        by_cases hlt : j < n
        · obtain ⟨e0, e1, e2⟩ := KE5.out wr KF.out.below j hlt
          have hr := HRN.out j hlt
          have hml := HML.out j hlt
          obtain ⟨p, hp⟩ : ∃ p : Nat, (evAt es j).n = (p : Int) := ⟨(evAt es j).n.toNat, by omega⟩
          have hp8 : p < 8 := by omega
          have HPN : Hid ((evAt es j).n = (p : Int)) := hp
          have j1 : (j : Int) < (n : Int) := by omega
          have j0 : (0 : Int) ≤ (j : Int) := by omega
          have p1 : (p : Int) < 8 := by omega
          have p0 : (0 : Int) ≤ (p : Int) := by omega
          have HIN : Hid (inC es xs j = decide (el (allL es j) p < el xs p)) := by
            rw [Hid, Bool.eq_iff_iff, inC_iff hp, decide_eq_true_eq, allL_el hp8]
          have xp := (x5'.out.below KF.out.below x5'.out.blk).cellAt (i := p) hp8
          have yp := KF.out.cnt.cellAt (i := p) hp8
          simp only [Nat.zero_add] at yp
          rw [hp] at e0
          have hp8' : p < 8 * 1 := by omega
          have hbb0 := allL_b6 (es := es) (n := j) (by omega) p hp8
          have hbdx : el (allL es j) p + 1 ≤ 9223372036854775807 := by omega
          have hbdx0 : -9223372036854775808 ≤ el (allL es j) p + 1 := by omega
          have hbnd : -9223372036854775808 ≤ (evAt es j).m ∧ (evAt es j).m ≤ 9223372036854775807 := by omega
          clear hp hr hml
          cases hc : inC es xs j
          · have hd : decide (el (allL es j) p < el xs p) = false := by rw [← HIN.out, hc]
            have hS1 : Hid (SentL es xs (j + 1) S) := KS.out.skip (by rintro ⟨_, h⟩; rw [hc] at h; cases h)
            have hH1 : Hid (HeardL es xs (j + 1) H) := KH.out.skip (by rintro ⟨_, h⟩; rw [hc] at h; cases h)
            clear hc
            go_wp2_with fail
            go_quiet (fail)
            clear e0 e1 e2 xp yp
            have FQ := KF.out.drewN nq
            obtain ⟨wq, hwq⟩ : ∃ wq, wr.drewN nq = wq := ⟨_, rfl⟩
            rw [hwq] at FQ
            have KQ : Hid (Fst w5 wq es j gS fS cS S gH fH cH H) := FQ
            rw [hwq]
            clear hwq FQ
            have y3 := KQ.out.cnt.cellAt (i := p) hp8
            have y4 := KQ.out.cnt.free p (by omega)
            simp only [Nat.zero_add] at y3 y4
            have hbb := allL_b6 (es := es) (n := j) (by omega) p hp8
            have hbd : el (allL es j) p + 1 ≤ 9223372036854775807 := by omega
            have hbd0 : -9223372036854775808 ≤ el (allL es j) p + 1 := by omega
            have FB : Hid (Fst w5 (wq.setCell ⟨w5.heap.size, p, none⟩ (.int .i64 (el (allL es j) p + 1))) es (j + 1) gS fS cS S gH fH cH H) := KQ.out.bump hp8 HPN.out
            clear hbb
            go_wp2
            go_roundw
            case rel => exact ⟨j + 1, S, gS, fS, cS, H, gH, fH, cH, by omega, by go_num, rfl, rfl, hS1.out, hH1.out, FB.out⟩
            case measure => simp [intOf]; omega
          · have hd : decide (el (allL es j) p < el xs p) = true := by rw [← HIN.out, hc]
            have HCI : Hid (inC es xs j = true) := hc
            clear hc
            by_cases h2 : (evAt es j).k = 2
            · have hS1 : Hid (SentL es xs (j + 1) (S ++ [(evAt es j).m])) := KS.out.put h2 HCI.out hbnd
              have hH1 : Hid (HeardL es xs (j + 1) H) := KH.out.skip (by rintro ⟨h, _⟩; omega)
              rw [h2] at e1
              have hlS : Hid ((S ++ [(evAt es j).m]).length = S.length + 1) := by simp [Hid]
              clear h2
              go_wp2_with fail
              go_quiet (fail)
              obtain ⟨wq, hwq⟩ : ∃ wq, wr.drewN nq = wq := ⟨_, rfl⟩
              have KQ : Hid (Fst w5 wq es j gS fS cS S gH fH cH H) := by rw [Hid, ← hwq]; exact KF.out.drewN nq
              have d1 : wq.cell? ⟨g, f + j * 3 + 1, none⟩ = some (.int .i64 2) := by rw [← hwq]; exact e1
              have d2 : wq.cell? ⟨g, f + j * 3 + 2, none⟩ = some (.int .i64 (evAt es j).m) := by rw [← hwq]; exact e2
              have q1 := KQ.out.sent
              rw [hwq]
              clear hwq e0 e1 e2 xp yp
              go_wp2_with (at_builtin; refine wpList_append_os _ rfl _ _ _ rfl 2 i0 _ 1 8 Try.underlying24 hi0 hz0 hz1 hz2 rfl (by omega) gS fS S.length cS (S.map (Value.int .i64)) rfl (OSl.below q1 ((Below.refl _ _).alloc (Nat.le_refl _) _) q1.blk) ⟨wq.heap.size, 0, none⟩ 1 1 [.int .i64 (evAt es j).m] rfl rfl (World.news_of_block (cs := #[.int .i64 (evAt es j).m]) (t := 2) (fr := (0, 0)) (heap_alloc_new wq _)) (by simp [Value.oneCell']) (by unfold maxLen; omega) (by omega) ?_; intro gA fA cA wA hoA hgA hatA; have FA0 := KQ.out.pushS hgA hatA hoA; have y3 := FA0.cnt.cellAt (i := p) hp8; have y4 := FA0.cnt.free p hp8'; simp only [Nat.zero_add] at y3 y4)
              have FA : Hid (Fst w5 wA es j gA fA cA (S ++ [(evAt es j).m]) gH fH cH H) := FA0
              clear hoA hgA hatA q1 d1 d2 FA0
              have FB : Hid (Fst w5 (wA.setCell ⟨w5.heap.size, p, none⟩ (.int .i64 (el (allL es j) p + 1))) es (j + 1) gA fA cA (S ++ [(evAt es j).m]) gH fH cH H) := FA.out.bump hp8 HPN.out
              go_roundw
              case rel => exact ⟨j + 1, (S ++ [(evAt es j).m]), gA, fA, cA, H, gH, fH, cH, by omega, by go_num, by rw [hlS.out], rfl, hS1.out, hH1.out, FB.out⟩
              case measure => simp [intOf]; omega
            · by_cases h3 : (evAt es j).k = 3
              · have hS1 : Hid (SentL es xs (j + 1) S) := KS.out.skip (by rintro ⟨h, _⟩; omega)
                have hH1 : Hid (HeardL es xs (j + 1) (H ++ [(evAt es j).m])) := KH.out.put h3 HCI.out hbnd
                rw [h3] at e1
                have hlH : Hid ((H ++ [(evAt es j).m]).length = H.length + 1) := by simp [Hid]
                clear h2 h3
                go_wp2_with fail
                go_quiet (fail)
                obtain ⟨wq, hwq⟩ : ∃ wq, wr.drewN nq = wq := ⟨_, rfl⟩
                have KQ : Hid (Fst w5 wq es j gS fS cS S gH fH cH H) := by rw [Hid, ← hwq]; exact KF.out.drewN nq
                have d1 : wq.cell? ⟨g, f + j * 3 + 1, none⟩ = some (.int .i64 3) := by rw [← hwq]; exact e1
                have d2 : wq.cell? ⟨g, f + j * 3 + 2, none⟩ = some (.int .i64 (evAt es j).m) := by rw [← hwq]; exact e2
                have q1 := KQ.out.heard
                rw [hwq]
                clear hwq e0 e1 e2 xp yp
                go_wp2_with (at_builtin; refine wpList_append_os _ rfl _ _ _ rfl 2 i0 _ 1 8 Try.underlying24 hi0 hz0 hz1 hz2 rfl (by omega) gH fH H.length cH (H.map (Value.int .i64)) rfl (OSl.below q1 ((Below.refl _ _).alloc (Nat.le_refl _) _) q1.blk) ⟨wq.heap.size, 0, none⟩ 1 1 [.int .i64 (evAt es j).m] rfl rfl (World.news_of_block (cs := #[.int .i64 (evAt es j).m]) (t := 2) (fr := (0, 0)) (heap_alloc_new wq _)) (by simp [Value.oneCell']) (by unfold maxLen; omega) (by omega) ?_; intro gA fA cA wA hoA hgA hatA; have FA0 := KQ.out.pushH hgA hatA hoA; have y3 := FA0.cnt.cellAt (i := p) hp8; have y4 := FA0.cnt.free p hp8'; simp only [Nat.zero_add] at y3 y4)
                have FA : Hid (Fst w5 wA es j gS fS cS S gA fA cA (H ++ [(evAt es j).m])) := FA0
                clear hoA hgA hatA q1 d1 d2 FA0
                have FB : Hid (Fst w5 (wA.setCell ⟨w5.heap.size, p, none⟩ (.int .i64 (el (allL es j) p + 1))) es (j + 1) gS fS cS S gA fA cA (H ++ [(evAt es j).m])) := FA.out.bump hp8 HPN.out
                go_roundw
                case rel => exact ⟨j + 1, S, gS, fS, cS, (H ++ [(evAt es j).m]), gA, fA, cA, by omega, by go_num, rfl, by rw [hlH.out], hS1.out, hH1.out, FB.out⟩
                case measure => simp [intOf]; omega
              · have hS1 : Hid (SentL es xs (j + 1) S) := KS.out.skip (by rintro ⟨h, _⟩; exact h2 h)
                have hH1 : Hid (HeardL es xs (j + 1) H) := KH.out.skip (by rintro ⟨h, _⟩; exact h3 h)
                have k2 : ((evAt es j).k == 2) = false := by simpa using h2
                have k3 : ((evAt es j).k == 3) = false := by simpa using h3
                clear h2 h3
                go_wp2_with fail
                go_quiet (fail)
                obtain ⟨wq, hwq⟩ : ∃ wq, wr.drewN nq = wq := ⟨_, rfl⟩
                have KQ : Hid (Fst w5 wq es j gS fS cS S gH fH cH H) := by rw [Hid, ← hwq]; exact KF.out.drewN nq
                have d1 : wq.cell? ⟨g, f + j * 3 + 1, none⟩ = some (.int .i64 (evAt es j).k) := by rw [← hwq]; exact e1
                rw [hwq]
                clear hwq e0 e1 e2 xp yp
                have y3 := KQ.out.cnt.cellAt (i := p) hp8
                have y4 := KQ.out.cnt.free p (by omega)
                simp only [Nat.zero_add] at y3 y4
                have hbb := allL_b6 (es := es) (n := j) (by omega) p hp8
                have hbd : el (allL es j) p + 1 ≤ 9223372036854775807 := by omega
                have hbd0 : -9223372036854775808 ≤ el (allL es j) p + 1 := by omega
                have FB : Hid (Fst w5 (wq.setCell ⟨w5.heap.size, p, none⟩ (.int .i64 (el (allL es j) p + 1))) es (j + 1) gS fS cS S gH fH cH H) := KQ.out.bump hp8 HPN.out
                clear hbb
                go_wp2
                go_roundw
                case rel => exact ⟨j + 1, S, gS, fS, cS, H, gH, fH, cH, by omega, by go_num, rfl, rfl, hS1.out, hH1.out, FB.out⟩
                case measure => simp [intOf]; omega
        · have hjn : j = n := by omega
          subst hjn
          have HZW : Hid (OI wr gw fw Z.length cw Z) := HZ5.out.below KF.out.below HZ5.out.blk
          have HB : Hid (Below w.heap.size w wr) := B1.out.trans ((b15.out.trans (KF.out.below.mono b15.out.size)).mono B1.out.size)
          have OS : Hid (OI wr gS fS S.length cS S) := KF.out.sent
          have OH : Hid (OI wr gH fH H.length cH H) := KF.out.heard
          have hSH : Hid (∀ m ∈ S, (decide (m ∈ Z) == decide (m ∈ H)) = false) := fun m hm => by
            have h1 := (KS.out.2.2 m).1 hm
            have h2 : m ∈ Z ↔ ¬ m ∈ H := by
              rw [HF.out.mem, KH.out.2.2]
              exact ⟨fun h => h.2, fun h => ⟨h1, h⟩⟩
            by_cases hz : m ∈ Z
            · simp [hz, h2.1 hz]
            · have : m ∈ H := Classical.byContradiction (fun h => hz (h2.2 h))
              simp [hz, this]
          have hHS : Hid (∀ m ∈ H, m ∈ S) := fun m hm => (KS.out.2.2 m).2 (heard_sent HOK.out HCO.out ((KH.out.2.2 m).1 hm))
          have hZS : Hid (∀ m ∈ Z, m ∈ S) := fun m hm => (KS.out.2.2 m).2 ((HF.out.mem m).1 hm).1
          have hsl : S.length ≤ 14 := by omega
          have hhl : H.length ≤ 14 := by omega
          have hasZ := fun (q : Nat) (m : Int) => has_any gw fw Z.length cw m Z (wr.drewN q) rfl (fun i hi => (HZW.out.drewN q).cellAt hi) (by unfold maxLen; omega)
          have hasH := fun (q : Nat) (m : Int) => has_any gH fH H.length cH m H (wr.drewN q) rfl (fun i hi => (OH.out.drewN q).cellAt hi) (by unfold maxLen; omega)
          have hasS := fun (q : Nat) (m : Int) => has_any gS fS S.length cS m S (wr.drewN q) rfl (fun i hi => (OS.out.drewN q).cellAt hi) (by unfold maxLen; omega)
          clear KF KS KH
          go_wp2
          go_loopw [11] (fun i wx => ∃ t q : Nat, t ≤ S.length ∧ i = .int .i64 t ∧ wx = wr.drewN q) (fun i _ => S.length - (intOf i).toNat)
          case atStart => exact ⟨0, 0, Nat.zero_le _, rfl, rfl⟩
          case round =>
            obtain ⟨t, q, ht, rfl, rfl⟩ := hrel
            by_cases htl : t < S.length
            · have ct := OS.out.cellAt htl
              have hm := hSH.out (el S t) (el_mem htl)
              have t1 : (t : Int) < (S.length : Int) := by omega
              have t0 : (0 : Int) ≤ (t : Int) := by omega
              have hz := fun q => hasZ q (el S t)
              have hh := fun q => hasH q (el S t)
              generalize decide (el S t ∈ Z) = bz at *
              generalize decide (el S t ∈ H) = bh at *
              go_wp2_with fail
              go_quiet (first | (go_at_call_of 42 gw; exact (hz (q + _)).mono (fun e w' h => ⟨h.1, _, h.2⟩)) | (go_at_call_of 42 gH; exact (hh (q + _)).mono (fun e w' h => ⟨h.1, _, h.2⟩)))
              go_wp2
              go_roundw
              case rel => exact ⟨t + 1, _, by omega, by go_num, rfl⟩
              case measure => simp [intOf]; omega
            · clear hSH
              go_wp2
              go_loopw [12] (fun i wx => ∃ t : Nat, t ≤ H.length ∧ i = .int .i64 t ∧ wx = wr.drewN q) (fun i _ => H.length - (intOf i).toNat)
              case atStart => exact ⟨0, Nat.zero_le _, rfl, rfl⟩
              case round =>
                obtain ⟨t, ht, rfl, rfl⟩ := hrel
                by_cases htl : t < H.length
                · have ct := OH.out.cellAt htl
                  have hm : decide (el H t ∈ S) = true := decide_eq_true (hHS.out (el H t) (el_mem htl))
                  have t1 : (t : Int) < (H.length : Int) := by omega
                  have t0 : (0 : Int) ≤ (t : Int) := by omega
                  have hs := hasS q (el H t)
                  rw [hm] at hs
                  go_wp2_with fail
                  refine hs.mono ?_
                  rintro e wz ⟨rfl, hwz⟩
                  replace hwz := hwz.symm
                  subst hwz
                  go_wp2
                  go_roundw
                  case rel => exact ⟨t + 1, by omega, by go_num, trivial⟩
                  case measure => simp [intOf]; omega
                · clear hHS
                  go_wp2
                  go_loopw [13] (fun i wx => ∃ t : Nat, t ≤ Z.length ∧ i = .int .i64 t ∧ wx = wr.drewN q) (fun i _ => Z.length - (intOf i).toNat)
                  case atStart => exact ⟨0, Nat.zero_le _, rfl, rfl⟩
                  case round =>
                    obtain ⟨t, ht, rfl, rfl⟩ := hrel
                    by_cases htl : t < Z.length
                    · have ct := HZW.out.cellAt htl
                      have hm : decide (el Z t ∈ S) = true := decide_eq_true (hZS.out (el Z t) (el_mem htl))
                      have t1 : (t : Int) < (Z.length : Int) := by omega
                      have t0 : (0 : Int) ≤ (t : Int) := by omega
                      have hs := hasS q (el Z t)
                      rw [hm] at hs
                      go_wp2_with fail
                      refine hs.mono ?_
                      rintro e wz ⟨rfl, hwz⟩
                      replace hwz := hwz.symm
                      subst hwz
                      go_wp2
                      go_roundw
                      case rel => exact ⟨t + 1, by omega, by go_num, trivial⟩
                      case measure => simp [intOf]; omega
                    · go_wp2
                      go_ret
                      exact ⟨rfl, belowN HB.out⟩
end Go.Proofs.Ytacjpebifacclaa
