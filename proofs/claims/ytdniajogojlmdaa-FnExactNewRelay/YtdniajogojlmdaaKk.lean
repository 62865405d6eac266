/-
  Several texts in one: Imt.
-/
import Derived.Test.YtdniajogojlmdaaKj
/-
  The program's mayTake and firstFor.
-/
namespace Go.Proofs.Ytdniajogojlmdaa
set_option linter.unusedVariables false
set_option linter.unusedSimpArgs false
open Go.RowKit Go.Sort

theorem addL_len {α : Type} [DecidableEq α] (L : List α) (x : α) : (addL L x).length ≤ L.length + 1 := by
  unfold addL
  split <;> simp
/-- What mayTake holds. -/
structure MSt (w wr : World) (N B m : Nat) (L : List (Int × Int)) (Lf Lt : List Int) : Prop where
  box : Bx wr w.heap.size 83 #[.int .i64 (N : Int), .int .i64 (B : Int), .map (some m)]
  set : HS wr m L
  ff : NS wr (w.heap.size + 1) Lf
  tt : NS wr (w.heap.size + 1 + 1) Lt
  hm : m < w.heap.size
  below : Below w.heap.size w wr
theorem MSt.step {w wr w' : World} {N B m : Nat} {L : List (Int × Int)} {Lf Lt : List Int} (h : MSt w wr N B m L Lf Lt) (hb : Below wr.heap.size wr w') : MSt w w' N B m L Lf Lt :=
  ⟨h.box.below hb, h.set.below hb, h.ff.below hb, h.tt.below hb, h.hm, h.below.trans (hb.mono h.below.size)⟩
theorem MSt.addF {w wr w' : World} {N B m : Nat} {L : List (Int × Int)} {Lf Lf' Lt : List Int} (h : MSt w wr N B m L Lf Lt) (hg : wr.grownBy w' (some (w.heap.size + 1))) (hs : NS w' (w.heap.size + 1) Lf') : MSt w w' N B m L Lf' Lt := by
  have hm := h.hm
  exact ⟨h.box.grown hg (by simp), h.set.kept hg (by simp; omega), hs, h.tt.kept hg (by simp), hm, (Wrt.of_grown hg).below h.below h.below.size (fun b e => by cases e; omega)⟩
theorem MSt.addT {w wr w' : World} {N B m : Nat} {L : List (Int × Int)} {Lf Lt Lt' : List Int} (h : MSt w wr N B m L Lf Lt) (hg : wr.grownBy w' (some (w.heap.size + 1 + 1))) (hs : NS w' (w.heap.size + 1 + 1) Lt') : MSt w w' N B m L Lf Lt' := by
  have hm := h.hm
  exact ⟨h.box.grown hg (by simp; omega), h.set.kept hg (by simp; omega), h.ff.kept hg (by simp), hs, hm, (Wrt.of_grown hg).below h.below h.below.size (fun b e => by cases e; omega)⟩
theorem MSt.start {w : World} {N B m : Nat} {L : List (Int × Int)} (hs : HS w m L) : MSt w (((w.alloc (.cells #[.int .i64 (N : Int), .int .i64 (B : Int), .map (some m)] 83)).alloc (.map #[] 0)).alloc (.map #[] 0)) N B m L [] [] := by
  have h1 := Bx.new w 83 #[.int .i64 (N : Int), .int .i64 (B : Int), .map (some m)]
  have hb : Below w.heap.size w (w.alloc (.cells #[.int .i64 (N : Int), .int .i64 (B : Int), .map (some m)] 83)) := one_alloc10 _ _
  have hb3 := (hb.alloc hb.size (.map #[] 0)).alloc (by simp; omega) (.map #[] 0)
  have h2 : NS ((w.alloc (.cells #[.int .i64 (N : Int), .int .i64 (B : Int), .map (some m)] 83)).alloc (.map #[] 0)) (w.heap.size + 1) [] := by
    have := ks_made (kt := 2) (kv := Value.int .i64) (w.alloc (.cells #[.int .i64 (N : Int), .int .i64 (B : Int), .map (some m)] 83))
    rwa [World.size_alloc] at this
  have h3 : NS (((w.alloc (.cells #[.int .i64 (N : Int), .int .i64 (B : Int), .map (some m)] 83)).alloc (.map #[] 0)).alloc (.map #[] 0)) (w.heap.size + 1 + 1) [] := by
    have := ks_made (kt := 2) (kv := Value.int .i64) ((w.alloc (.cells #[.int .i64 (N : Int), .int .i64 (B : Int), .map (some m)] 83)).alloc (.map #[] 0))
    rwa [World.size_alloc, World.size_alloc] at this
  exact ⟨(h1.alloc _).alloc _, hs.below hb3, h2.below (one_alloc10 _ _), h3, hs.lt, hb3⟩
theorem pass_cells {w : World} {ca : Option Addr} {cs : List Ps} {i : Nat} (h : PsS w ca cs.length cs) (hi : i < cs.length) : ∃ b off, ca = some ⟨b, off, none⟩ ∧ w.cell? ⟨b, off + i * 3, none⟩ = some (.int .i64 (pat cs i).1) ∧ w.cell? ⟨b, off + i * 3 + 1, none⟩ = some (.int .i64 (pat cs i).2.1) ∧ w.cell? ⟨b, off + i * 3 + 2, none⟩ = some (.int .i64 (pat cs i).2.2) := by
  rcases h.2 with h | ⟨b, off, ha, hc⟩
  · omega
  · exact ⟨b, off, ha, hc i hi⟩

set_option maxRecDepth 100000 in
set_option maxHeartbeats 3200000 in
theorem mt_any (N B m : Nat) (H : List (List Int)) (L : List (Int × Int)) (ca : Option Addr) (cc : Nat) (cs : List Ps) (w : World) (hs : HS w m L) (hM : MemA H L) (hl : H.length = N) (hN : N ≤ 12) (hN1 : 1 ≤ N) (hP : PsS w ca cs.length cs) (hF : FitsP cs) (hcl : cs.length ≤ 1048576) :
    Calls Try.prog 77 #[.agg #[.int .i64 (N : Int), .int .i64 (B : Int), .map (some m)], .slice ca cs.length cc] w fun e w' => e = .returned (.bool (decide (turnOk (N : Int) H cs))) ∧ Below w.heap.size w w' := by
  have HS0 : Hid _ := MSt.start (N := N) (B := B) hs
  have HP : Hid (PsS w ca cs.length cs) := hP
  have HF : Hid (FitsP cs) := hF
  have HM : Hid (∀ x y, (x, y) ∈ L ↔ (0 ≤ x ∧ x ≤ (N : Int) - 1) ∧ y ∈ row H x.toNat) := fun x y => by
    rw [hM x y, hl]
    constructor
    · rintro ⟨h1, h2, h3⟩; exact ⟨⟨h1, by omega⟩, h3⟩
    · rintro ⟨⟨h1, h2⟩, h3⟩; exact ⟨h1, by omega, h3⟩
  have HN : Hid (∀ i, i < cs.length → ¬ psOk (N : Int) H cs i → decide (turnOk (N : Int) H cs) = false) := fun i hi h => decide_eq_false (fun k => h (k i hi))
  have hmm := @run_makeMap Try.prog
  have hN2 : wrap64 ((N : Int) - 1) = (N : Int) - 1 := by unfold wrap64; omega
  clear hs hM hP hF hl
  go_enter Try.func77, Try.ntmps77
  go_wp2_with fail
  clear hmm
  go_loopw [13] (fun i wr => ∃ (k : Nat) (Lf Lt : List Int), k ≤ cs.length ∧ i = .int .i64 k ∧ MSt w wr N B m L Lf Lt ∧ (∀ t, t < k → psOk (N : Int) H cs t) ∧ (∀ q, q ∈ Lf ↔ ∃ t, t < k ∧ (pat cs t).1 = q) ∧ (∀ q, q ∈ Lt ↔ ∃ t, t < k ∧ (pat cs t).2.1 = q) ∧ Lf.length ≤ k ∧ Lt.length ≤ k) (fun i _ => cs.length - (intOf i).toNat)
  case atStart => exact ⟨0, [], [], Nat.zero_le _, rfl, HS0.out, fun t ht => by omega, fun q => by simp, fun q => by simp, Nat.le_refl _, Nat.le_refl _⟩
  case round =>
    obtain ⟨k, Lf, Lt, hk, rfl, hS, hall, hLf, hLt, hlf, hlt2⟩ := hrel
    by_cases hlt : k < cs.length
    · obtain ⟨b, off, rfl, p0, p1, p2⟩ := pass_cells HP.out hlt
      have d0 := below_cell hS.below p0
      have d1 := below_cell hS.below p1
      have d2 := below_cell hS.below p2
      have hf := HF.out k hlt
      have hNk : Hid (¬ psOk (N : Int) H cs k → decide (turnOk (N : Int) H cs) = false) := HN.out k hlt
      have hOk : Hid (∀ x y z, pat cs k = (x, y, z) → ((0 ≤ x ∧ x ≤ (N : Int) - 1) ∧ z ∈ row H x.toNat) → (0 ≤ y ∧ y ≤ (N : Int) - 1) → x ∉ Lf → y ∉ Lt → psOk (N : Int) H cs k) := fun x y z e h1 h2 h3 h4 => by
        unfold psOk
        rw [e]
        refine ⟨h1.1, h2, h1.2, fun t ht => ⟨fun h => h3 ((hLf x).2 ⟨t, ht, h⟩), fun h => h4 ((hLt y).2 ⟨t, ht, h⟩)⟩⟩
      have hNo : Hid (∀ x y z, pat cs k = (x, y, z) → psOk (N : Int) H cs k → ((0 ≤ x ∧ x ≤ (N : Int) - 1) ∧ z ∈ row H x.toNat) ∧ (0 ≤ y ∧ y ≤ (N : Int) - 1) ∧ x ∉ Lf ∧ y ∉ Lt) := fun x y z e h => by
        unfold psOk at h
        rw [e] at h
        exact ⟨⟨h.1, h.2.2.1⟩, h.2.1, fun hx => by obtain ⟨t, ht, h5⟩ := (hLf x).1 hx; exact (h.2.2.2 t ht).1 h5, fun hy => by obtain ⟨t, ht, h5⟩ := (hLt y).1 hy; exact (h.2.2.2 t ht).2 h5⟩
      have HLf : Hid (∀ x y z, pat cs k = (x, y, z) → ∀ q, q ∈ addL Lf x ↔ ∃ t, t < k + 1 ∧ (pat cs t).1 = q) := fun x y z e q => by
        rw [mem_addL, hLf q]
        constructor
        · rintro (rfl | ⟨t, ht, h⟩)
          · exact ⟨k, by omega, by rw [e]⟩
          · exact ⟨t, by omega, h⟩
        · rintro ⟨t, ht, h⟩
          rcases Nat.lt_succ_iff_lt_or_eq.1 ht with h1 | h1
          · exact .inr ⟨t, h1, h⟩
          · rw [h1, e] at h; exact .inl h.symm
      have HLt : Hid (∀ x y z, pat cs k = (x, y, z) → ∀ q, q ∈ addL Lt y ↔ ∃ t, t < k + 1 ∧ (pat cs t).2.1 = q) := fun x y z e q => by
        rw [mem_addL, hLt q]
        constructor
        · rintro (rfl | ⟨t, ht, h⟩)
          · exact ⟨k, by omega, by rw [e]⟩
          · exact ⟨t, by omega, h⟩
        · rintro ⟨t, ht, h⟩
          rcases Nat.lt_succ_iff_lt_or_eq.1 ht with h1 | h1
          · exact .inr ⟨t, h1, h⟩
          · rw [h1, e] at h; exact .inl h.symm
      have HAll : Hid (∀ t, t < k → psOk (N : Int) H cs t) := hall
      have k1 : (k : Int) < (cs.length : Int) := by omega
      have k0 : (0 : Int) ≤ (k : Int) := by omega
      obtain ⟨x, y, z, hxyz⟩ : ∃ x y z, pat cs k = (x, y, z) := ⟨_, _, _, rfl⟩
      rw [hxyz] at d0 d1 d2 hf
      have HXYZ : Hid (pat cs k = (x, y, z)) := hxyz
      simp only at d0 d1 d2 hf
      have hS1 := hS.step (one_alloc10 wr (.cells #[.int .i64 x, .int .i64 y, .int .i64 z] 79))
      have x0 : (wr.alloc (.cells #[.int .i64 x, .int .i64 y, .int .i64 z] 79)).cell? ⟨wr.heap.size, 0, none⟩ = some (.int .i64 x) := by simp
      have x1 : (wr.alloc (.cells #[.int .i64 x, .int .i64 y, .int .i64 z] 79)).cell? ⟨wr.heap.size, 1, none⟩ = some (.int .i64 y) := by simp
      have x2 : (wr.alloc (.cells #[.int .i64 x, .int .i64 y, .int .i64 z] 79)).cell? ⟨wr.heap.size, 2, none⟩ = some (.int .i64 z) := by simp
      obtain ⟨y0, y1, y2⟩ := hS1.box.r3
      have hH := hasH_any m L x z _ hS1.set hf.1 hf.2.2
      have HS1 : Hid _ := hS1
      have HXB : Hid (Bx (wr.alloc (.cells #[.int .i64 x, .int .i64 y, .int .i64 z] 79)) wr.heap.size 79 #[.int .i64 x, .int .i64 y, .int .i64 z]) := Bx.new _ _ _
      clear hS hall hLf hLt p0 p1 p2 hxyz hS1
      generalize hW1 : wr.alloc (.cells #[.int .i64 x, .int .i64 y, .int .i64 z] 79) = W1 at *
      generalize hq : wr.heap.size = q at *
      by_cases hm : (x, z) ∈ L
      · have HM2 : Hid ((0 ≤ x ∧ x ≤ (N : Int) - 1) ∧ z ∈ row H x.toNat) := (HM.out x z).1 hm
        rw [decide_eq_true hm] at hH
        cases hw2 : inB y 0 ((N : Int) - 1) with
        | false =>
          have HZ : Hid (decide (turnOk (N : Int) H cs) = false) := hNk.out (fun h => by have := (hNo.out _ _ _ HXYZ.out h).2.1; rw [inB7.2 this] at hw2; cases hw2)
          clear hm
          go_wp2_with (first
            | (go_at_call 97; refine hH.mono ?_; rintro e w4 ⟨rfl, hg4⟩; have e0 := hg4.cell x0; have e1 := hg4.cell x1; have z0 := hg4.cell y0)
            | (go_at_call 98; refine (isWr_any _ _ _).mono ?_; rintro e w5 ⟨rfl, hw5⟩; rw [hw5]; clear hw5))
          go_ret
          exact ⟨ret_bool (by rw [HZ.out]), (HS1.out.step hg4.1).below⟩
        | true =>
          have HY2 : Hid (0 ≤ y ∧ y ≤ (N : Int) - 1) := inB7.1 hw2
          by_cases hx : x ∈ Lf
          · have HZ : Hid (decide (turnOk (N : Int) H cs) = false) := hNk.out (fun h => (hNo.out _ _ _ HXYZ.out h).2.2.1 hx)
            have HAf : Hid (∀ W, MSt w W N B m L Lf Lt → Calls Try.prog 99 #[.map (some (w.heap.size + 1)), .int .i64 x] W fun e w' => e = .returned (.bool false) ∧ MSt w w' N B m L (addL Lf x) Lt) := fun W hW => (addI_any _ Lf x W hW.ff hf.1 (by omega)).mono (fun e w' h => ⟨by rw [h.1, decide_eq_true hx]; rfl, hW.addF h.2.2 h.2.1⟩)
            clear hm hx
            go_wp2_with (first
              | (go_at_call 97; refine hH.mono ?_; rintro e w4 ⟨rfl, hg4⟩; have e0 := hg4.cell x0; have e1 := hg4.cell x1; have z0 := hg4.cell y0; have hAf := HAf.out w4 (HS1.out.step hg4.1))
              | (go_at_call 98; refine (isWr_any _ _ _).mono ?_; rintro e w5 ⟨rfl, hw5⟩; rw [hw5]; clear hw5)
              | (go_at_call 99; refine hAf.mono ?_; rintro e w6 ⟨rfl, hS6⟩))
            go_ret
            exact ⟨ret_bool (by rw [HZ.out]), hS6.below⟩
          · have HXN : Hid (x ∉ Lf) := hx
            have HAf : Hid (∀ W, MSt w W N B m L Lf Lt → Calls Try.prog 99 #[.map (some (w.heap.size + 1)), .int .i64 x] W fun e w' => e = .returned (.bool true) ∧ MSt w w' N B m L (addL Lf x) Lt ∧ W.grownBy w' (some (w.heap.size + 1))) := fun W hW => (addI_any _ Lf x W hW.ff hf.1 (by omega)).mono (fun e w' h => ⟨by rw [h.1, decide_eq_false hx]; rfl, hW.addF h.2.2 h.2.1, h.2.2⟩)
            have HQ : Hid (w.heap.size + 1 < q) := by
              have := HS1.out.tt.lt
              rw [← hW1, World.size_alloc, hq] at this
              rw [Hid]; omega
            by_cases hy : y ∈ Lt
            · have HZ : Hid (decide (turnOk (N : Int) H cs) = false) := hNk.out (fun h => (hNo.out _ _ _ HXYZ.out h).2.2.2 hy)
              have HAt : Hid (∀ W Lf', MSt w W N B m L Lf' Lt → Calls Try.prog 99 #[.map (some (w.heap.size + 1 + 1)), .int .i64 y] W fun e w' => e = .returned (.bool false) ∧ MSt w w' N B m L Lf' (addL Lt y)) := fun W Lf' hW => (addI_any _ Lt y W hW.tt hf.2.1 (by omega)).mono (fun e w' h => ⟨by rw [h.1, decide_eq_true hy]; rfl, hW.addT h.2.2 h.2.1⟩)
              clear hm hx hy
              go_wp2_with (first
                | (go_at_call 97; refine hH.mono ?_; rintro e w4 ⟨rfl, hg4⟩; have e0 := hg4.cell x0; have e1 := hg4.cell x1; have z0 := hg4.cell y0; have hAf := HAf.out w4 (HS1.out.step hg4.1))
                | (go_at_call 98; refine (isWr_any _ _ _).mono ?_; rintro e w5 ⟨rfl, hw5⟩; rw [hw5]; clear hw5)
                | (go_at_call 99; refine (HAt.out _ _ hS6).mono ?_; rintro e w7 ⟨rfl, hS7⟩)
                | (go_at_call 99; refine hAf.mono ?_; rintro e w6 ⟨rfl, hS6, hg6⟩; have e2 : w6.cell? ⟨q, 1, none⟩ = some (.int .i64 y) := ((HXB.out.below hg4.1).grown hg6 (by have := HQ.out; simp; omega)).at 1 rfl))
              go_ret
              exact ⟨ret_bool (by rw [HZ.out]), hS7.below⟩
            · have HYN : Hid (y ∉ Lt) := hy
              have HAt : Hid (∀ W Lf', MSt w W N B m L Lf' Lt → Calls Try.prog 99 #[.map (some (w.heap.size + 1 + 1)), .int .i64 y] W fun e w' => e = .returned (.bool true) ∧ MSt w w' N B m L Lf' (addL Lt y)) := fun W Lf' hW => (addI_any _ Lt y W hW.tt hf.2.1 (by omega)).mono (fun e w' h => ⟨by rw [h.1, decide_eq_false hy]; rfl, hW.addT h.2.2 h.2.1⟩)
              clear hm hx hy
              go_wp2_with (first
                | (go_at_call 97; refine hH.mono ?_; rintro e w4 ⟨rfl, hg4⟩; have e0 := hg4.cell x0; have e1 := hg4.cell x1; have z0 := hg4.cell y0; have hAf := HAf.out w4 (HS1.out.step hg4.1))
                | (go_at_call 98; refine (isWr_any _ _ _).mono ?_; rintro e w5 ⟨rfl, hw5⟩; rw [hw5]; clear hw5)
                | (go_at_call 99; refine (HAt.out _ _ hS6).mono ?_; rintro e w7 ⟨rfl, hS7⟩)
                | (go_at_call 99; refine hAf.mono ?_; rintro e w6 ⟨rfl, hS6, hg6⟩; have e2 : w6.cell? ⟨q, 1, none⟩ = some (.int .i64 y) := ((HXB.out.below hg4.1).grown hg6 (by have := HQ.out; simp; omega)).at 1 rfl))
              go_roundw
              case rel => exact ⟨k + 1, _, _, by omega, by go_num, hS7, fun t ht => by
                rcases Nat.lt_succ_iff_lt_or_eq.1 ht with h1 | h1
                · exact HAll.out t h1
                · rw [h1]; exact hOk.out _ _ _ HXYZ.out HM2.out HY2.out HXN.out HYN.out, HLf.out _ _ _ HXYZ.out, HLt.out _ _ _ HXYZ.out, by have := addL_len Lf x; omega, by have := addL_len Lt y; omega⟩
              case measure => simp [intOf]; omega
      · have HZ : Hid (decide (turnOk (N : Int) H cs) = false) := hNk.out (fun h => hm ((HM.out x z).2 (hNo.out _ _ _ HXYZ.out h).1))
        rw [decide_eq_false hm] at hH
        clear hm
        go_wp2_with (go_at_call 97; refine hH.mono ?_; rintro e w4 ⟨rfl, hg4⟩)
        go_ret
        exact ⟨ret_bool (by rw [HZ.out]), (HS1.out.step hg4.1).below⟩
    · have hkl : k = cs.length := by omega
      have HZ : Hid (decide (turnOk (N : Int) H cs) = true) := decide_eq_true (fun i hi => hall i (by omega))
      have HB : Hid (Below w.heap.size w wr) := hS.below
      subst hkl
      clear hS hall hLf hLt
      go_wp2
      go_ret
      exact ⟨ret_bool (by rw [HZ.out]), HB.out⟩

set_option maxRecDepth 100000 in
set_option maxHeartbeats 1600000 in
/-- The first block that one has and the other has not. -/
theorem ff_any (N B m : Nat) (L : List (Int × Int)) (x y : Int) (w : World) (hs : HS w m L) (hx : I64r x) (hy : I64r y) (hB : B ≤ 12) :
    Calls Try.prog 85 #[.agg #[.int .i64 (N : Int), .int .i64 (B : Int), .map (some m)], .int .i64 x, .int .i64 y] w fun e w' => Grew w w' ∧
      ((∃ q : Nat, q < B ∧ ((x, (q : Int)) ∈ L ∧ (y, (q : Int)) ∉ L) ∧ (∀ t : Nat, t < q → ¬ ((x, (t : Int)) ∈ L ∧ (y, (t : Int)) ∉ L)) ∧ e = .returned (.tuple #[.int .i64 (q : Int), .bool true])) ∨
       ((∀ t : Nat, t < B → ¬ ((x, (t : Int)) ∈ L ∧ (y, (t : Int)) ∉ L)) ∧ e = .returned (.tuple #[.int .i64 0, .bool false]))) := by
  have c1 : (w.alloc (.cells #[.int .i64 (N : Int), .int .i64 (B : Int), .map (some m)] 83)).cell? ⟨w.heap.size, 1, none⟩ = some (.int .i64 (B : Int)) := by simp
  have c2 : (w.alloc (.cells #[.int .i64 (N : Int), .int .i64 (B : Int), .map (some m)] 83)).cell? ⟨w.heap.size, 2, none⟩ = some (.map (some m)) := by simp
  have HG0 : Hid (Grew w (w.alloc (.cells #[.int .i64 (N : Int), .int .i64 (B : Int), .map (some m)] 83))) := (Grew.refl _).alloc _
  have HSW : Hid (HS (w.alloc (.cells #[.int .i64 (N : Int), .int .i64 (B : Int), .map (some m)] 83)) m L) := hs.below (one_alloc10 _ _)
  clear hs
  generalize hW0 : w.alloc (.cells #[.int .i64 (N : Int), .int .i64 (B : Int), .map (some m)] 83) = W0 at *
  go_enter Try.func85, Try.ntmps85
  go_wp2_with fail
  go_loopw [11] (fun i wr => ∃ k : Nat, k ≤ B ∧ i = .int .i64 k ∧ Grew W0 wr ∧ ∀ t : Nat, t < k → ¬ ((x, (t : Int)) ∈ L ∧ (y, (t : Int)) ∉ L)) (fun i _ => B - (intOf i).toNat)
  case atStart => exact ⟨0, Nat.zero_le _, rfl, Grew.refl _, fun t ht => by omega⟩
  case round =>
    obtain ⟨k, hk, rfl, hg, hno⟩ := hrel
    have HN : Hid (∀ t : Nat, t < k → ¬ ((x, (t : Int)) ∈ L ∧ (y, (t : Int)) ∉ L)) := hno
    have HG : Hid (Grew W0 wr) := hg
    clear hno
    by_cases hlt : k < B
    · have d2 := hg.cell c2
      have hH1 := hasH_any m L x (k : Int) wr (HSW.out.below hg.1) hx (by omega)
      have hH2 : ∀ W, Grew wr W → Calls Try.prog 97 #[.map (some m), .agg #[.int .i64 y, .int .i64 (k : Int)]] W fun e w' => e = .returned (.bool (decide ((y, (k : Int)) ∈ L))) ∧ Grew W w' := fun W hW => hasH_any m L y (k : Int) W ((HSW.out.below hg.1).below hW.1) hy (by omega)
      by_cases h1 : (x, (k : Int)) ∈ L
      · rw [decide_eq_true h1] at hH1
        by_cases h2 : (y, (k : Int)) ∈ L
        · rw [decide_eq_true h2] at hH2
          have HN2 : Hid (∀ t : Nat, t < k + 1 → ¬ ((x, (t : Int)) ∈ L ∧ (y, (t : Int)) ∉ L)) := fun t ht => by
            rcases Nat.lt_succ_iff_lt_or_eq.1 ht with h | h
            · exact HN.out t h
            · subst h; exact fun h => h.2 h2
          clear h1 h2
          go_wp2_with (first
            | (go_at_call 97; refine (hH2 _ hg4).mono ?_; rintro e w5 ⟨rfl, hg5⟩)
            | (go_at_call 97; refine hH1.mono ?_; rintro e w4 ⟨rfl, hg4⟩; have d3 := hg4.cell d2))
          go_roundw
          case rel => exact ⟨k + 1, by omega, by go_num, (HG.out.trans hg4).trans hg5, HN2.out⟩
          case measure => simp [intOf]; omega
        · rw [decide_eq_false h2] at hH2
          have HA : Hid (∃ q : Nat, q < B ∧ ((x, (q : Int)) ∈ L ∧ (y, (q : Int)) ∉ L) ∧ (∀ t : Nat, t < q → ¬ ((x, (t : Int)) ∈ L ∧ (y, (t : Int)) ∉ L)) ∧ Ending.returned (.tuple #[.int .i64 (k : Int), .bool true]) = .returned (.tuple #[.int .i64 (q : Int), .bool true])) := ⟨k, hlt, ⟨h1, h2⟩, HN.out, rfl⟩
          clear h1 h2
          go_wp2_with (first
            | (go_at_call 97; refine (hH2 _ hg4).mono ?_; rintro e w5 ⟨rfl, hg5⟩)
            | (go_at_call 97; refine hH1.mono ?_; rintro e w4 ⟨rfl, hg4⟩; have d3 := hg4.cell d2))
          refine bodyPost_ret (v := .tuple #[.int .i64 (k : Int), .bool true]) (by simp [results, Try.results85, go_sem, *]) rfl ?_
          exact ⟨((HG0.out.trans HG.out).trans hg4).trans hg5, .inl HA.out⟩
      · rw [decide_eq_false h1] at hH1
        have HN2 : Hid (∀ t : Nat, t < k + 1 → ¬ ((x, (t : Int)) ∈ L ∧ (y, (t : Int)) ∉ L)) := fun t ht => by
          rcases Nat.lt_succ_iff_lt_or_eq.1 ht with h | h
          · exact HN.out t h
          · subst h; exact fun h => h1 h.1
        clear h1
        go_wp2_with (go_at_call 97; refine hH1.mono ?_; rintro e w4 ⟨rfl, hg4⟩)
        go_roundw
        case rel => exact ⟨k + 1, by omega, by go_num, HG.out.trans hg4, HN2.out⟩
        case measure => simp [intOf]; omega
    · have hkl : k = B := by omega
      subst hkl
      clear hg
      go_wp2
      refine bodyPost_ret (v := .tuple #[.int .i64 0, .bool false]) (by simp [results, Try.results85, go_sem, *]) rfl ?_
      exact ⟨HG0.out.trans HG.out, .inr ⟨HN.out, rfl⟩⟩
end Go.Proofs.Ytdniajogojlmdaa
