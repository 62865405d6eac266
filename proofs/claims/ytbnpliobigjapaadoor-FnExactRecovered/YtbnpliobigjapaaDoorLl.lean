/-
  Several texts in one: Tlt Jla.
-/
import Derived.Test.YtbnpliobigjapaaDoorJo
import Derived.Test.YtbnpliobigjapaaDoorLj
import Derived.Deep.CutRange
/-
  One more step of the text Tlr's machine: two operations may come up.
-/
namespace Go.Proofs.YtbnpliobigjapaaDoor
set_option linter.unusedVariables false
set_option linter.unusedSimpArgs false
open Go.RowKit Go.Sort

section
variable {P : Program} {l : List Oper} {Q : Exit → Act → World → Prop} {S : World → Prop}
/-- Two may come up, and neither is the last. -/
theorem gt_two {i j z : Nat} {o o' : Oper} {fuel : Nat} {listed : Array Bool} {a : Act} {w : World} (hi : l[i]? = some o) (hj : l[j]? = some o') (hr : Region.ready .any l.toArray listed = [i, j]) (hiz : (i != z && j != z) = true)
    (h : ∀ K' : Act → World → Prop, Shut (∀ a w, S w → (S w → GT P l Q S z fuel (listed.setIfInBounds i true) a w) → K' a w) → if Region.wanted o (yielded l.toArray a.tmps) = true then Oper.wp P o a w K' Q else K' (a.put o.dst undef) w)
    (h' : ∀ K' : Act → World → Prop, Shut (∀ a w, S w → (S w → GT P l Q S z fuel (listed.setIfInBounds j true) a w) → K' a w) → if Region.wanted o' (yielded l.toArray a.tmps) = true then Oper.wp P o' a w K' Q else K' (a.put o'.dst undef) w) : GT P l Q S z (fuel + 1) listed a w := by
  have hi' : l.toArray[i]? = some o := by simpa using hi
  have hj' : l.toArray[j]? = some o' := by simpa using hj
  refine ⟨fun h0 => (by rw [hr] at h0; cases h0), fun k hk => ?_⟩
  rw [hr] at hk
  simp at hk
  rcases hk with rfl | rfl
  · exact wpOp_step hi' (fun K' hK => h K' (fun a w hS hW => hK a w ⟨fun _ _ => hS, hW hS⟩))
  · exact wpOp_step hj' (fun K' hK => h' K' (fun a w hS hW => hK a w ⟨fun _ _ => hS, hW hS⟩))
end
end Go.Proofs.YtbnpliobigjapaaDoor

/-
  The program's Added.
-/
namespace Go.Proofs.YtbnpliobigjapaaDoor
set_option linter.unusedVariables false
set_option linter.unusedSimpArgs false
open Go.RowKit Go.Sort

theorem w1_boundA {F : Int} {n : Nat} (h : 1 ≤ F ∧ F ≤ 1000000) (hn : n ≤ 40) : wrap64 (F + (n : Int)) = F + (n : Int) := by unfold wrap64; omega
/-- The copy is stored into a block that was laid ahead of it. -/
theorem lb_put {w W X u : World} {q : Nat} {F : Int} {a : Option Addr} {n cap : Nat} (H : LgH w W F a n cap) (hX : Below W.heap.size W X) (hq : Bx X q 26 #[.int .i64 0, .slice none 0 0]) (hqW : W.heap.size ≤ q) {T : List (List UInt8)} {ta : Option Addr} {tc : Nat} (hN : NewO X u (scl T) (.slice ta T.length tc)) :
    (u.cell? ⟨q, 0, none⟩ = some (.int .i64 0) ∧ u.cell? ⟨q, 1, none⟩ = some (.slice none 0 0) ∧ u.frozen? ⟨q, 0, none⟩ = false ∧ u.frozen? ⟨q, 1, none⟩ = false) ∧
    ∃ fp, LB w ((u.setCell ⟨q, 0, none⟩ (.int .i64 F)).setCell ⟨q, 1, none⟩ (.slice ta T.length tc)) (w.heap.size + 1) q F T ta tc fp ∧ Below W.heap.size W ((u.setCell ⟨q, 0, none⟩ (.int .i64 F)).setCell ⟨q, 1, none⟩ (.slice ta T.length tc)) := by
  obtain ⟨fp, ho, hf, hb⟩ := hN
  have HX := H.step hX
  have HU := HX.step hb
  have hr := H.res.lt
  have hs := hX.size
  have hql := hq.lt
  have q7 := hq.below hb
  have hbW : Below W.heap.size W u := hX.trans (hb.mono hX.size)
  have q8 := (q7.setC 0 (.int .i64 F)).setC 1 (.slice ta T.length tc)
  refine ⟨⟨q7.at 0 rfl, q7.at 1 rfl, q7.f 0, q7.f 1⟩, fp, ⟨HU.res.wrt (wrt2 u q) (by omega), by simpa using q8, Cel.ow_wrt ho (wrt2 u q) (fun b hb e => by have := hf b hb; omega), fun b hb => by have := hf b hb; exact ⟨by omega, by omega, by omega⟩, by omega, by omega, by omega, below2 HU.below (by omega)⟩, below2 hbW hqW⟩
/-- It is stored into a block that was laid behind it. -/
theorem lb_new {w W X u : World} {F : Int} {a : Option Addr} {n cap : Nat} (H : LgH w W F a n cap) (hX : Below W.heap.size W X) {T : List (List UInt8)} {ta : Option Addr} {tc : Nat} (hN : NewO X u (scl T) (.slice ta T.length tc)) :
    ∃ fp, LB w (u.alloc (.cells #[.int .i64 F, .slice ta T.length tc] 26)) (w.heap.size + 1) u.heap.size F T ta tc fp ∧ Below W.heap.size W (u.alloc (.cells #[.int .i64 F, .slice ta T.length tc] 26)) := by
  obtain ⟨fp, ho, hf, hb⟩ := hN
  have HX := H.step hX
  have HU := (HX.step hb).step (oneA u (.cells #[.int .i64 F, .slice ta T.length tc] 26))
  have hr := H.res.lt
  have hs := hX.size
  have hs2 := hb.size
  have hlt := Cel.ow_lt ho
  have hbW : Below W.heap.size W u := hX.trans (hb.mono hX.size)
  exact ⟨fp, ⟨HU.res, Bx.new u 26 #[.int .i64 F, .slice ta T.length tc], Cel.ow_below ho (oneA _ _), fun b hb => by have := hf b hb; have := hlt b hb; exact ⟨by omega, by omega, by omega⟩, by omega, by omega, by omega, HU.below⟩, hbW.alloc hbW.size _⟩

attribute [local irreducible] sv
set_option maxRecDepth 100000 in
set_option maxHeartbeats 3200000 in
theorem adI_any (F : Int) (a : Option Addr) (cap : Nat) (T : List (List UInt8)) (v : Int) (s : List UInt8) (w : World) (hv : TxP w a cap T) (hm : T.length ≤ 1048576) (hs : ShortT T) (hsl : s.length ≤ 1048576) :
    Calls Tryd.prog 8 #[lgV F a T.length cap, .int .i64 v, .string (sv s)] w fun e w' => AnsLb w w' e (addLg (F, T) v s) := by
  have hmix : Tryd.prog.follows .mixedOrders = true := by kernel_rfl
  have hH := LgH.start w F a T.length cap
  have hK := lgkI_any F a cap T _ (hv.txs.below hH.below) (by unfold maxLen; omega)
  have HH : Hid (LgH w ((w.alloc (.cells #[.int .i64 F, .slice a T.length cap] 26)).alloc (.cells #[.int .i64 0, .slice none 0 0] 26)) F a T.length cap) := hH
  have HV : Hid (TxP w a cap T) := hv
  clear hv hH
  by_cases hok : okLg (F, T)
  · rw [decide_eq_true hok] at hK
    have h1 := hok.1
    have h40 := hok.2.1
    simp only at h1 h40
    have hw1 := w1_boundA h1 h40
    have hX := fun X => nxtI_any F a T.length cap X hw1
    have HPE : Hid ((T.drop 0).take (T.length - 0) = T) := by rw [Hid, List.drop_zero, Nat.sub_zero, List.take_length]
    have hB : ∀ X, Below w.heap.size w X → Calls Tryd.prog 33 #[lgV F a T.length cap, .int .i64 F, .int .i64 (F + (T.length : Int))] X fun e w' => AnsLg X w' e (F, T) := fun X hX => by
      have := btwI_any F a cap T 0 T.length F (F + (T.length : Int)) X (HV.out.below hX) (by omega) (Nat.le_refl _) (by omega) rfl h1 h40 hs
      rw [HPE.out] at this
      exact this
    have HZ1 : Hid (addB (F, T) v s → addLg (F, T) v s = ((F, T ++ [s]), true)) := fun h => by rw [addLg, if_pos hok, if_pos h]
    have HZ2 : Hid (¬ addB (F, T) v s → addLg (F, T) v s = ((F, T), false)) := fun h => by rw [addLg, if_pos hok, if_neg h]
    have hsz := sv_size s
    unfold AnsLg at hB
    unfold lgV at hK hX hB ⊢
    clear hok hs HPE
    go_enter Tryd.func8, Tryd.ntmps8
    go_wp2_with (go_at_call 17; refine hK.mono ?_; rintro e w2 ⟨rfl, hg2⟩; have H2 := HH.out.step hg2.1; obtain ⟨x0, x1⟩ := H2.box.r2)
    have b0d : Below w2.heap.size w2 (w2.drewN 1) := (Same.drewN w2 1).below
    have KS : ∀ X, Below w2.heap.size w2 X → X.cell? ⟨w.heap.size, 0, none⟩ = some (.int .i64 F) ∧ X.cell? ⟨w.heap.size, 1, none⟩ = some (.slice a T.length cap) := fun X hX => (H2.box.below hX).r2
    have KB : ∀ X, Below w2.heap.size w2 X → Below w.heap.size w X := fun X hX => H2.below.trans (hX.mono H2.below.size)
    clear hg2 hK HH HV x0 x1
    go_cut [8] from 13 to 18 (fun s8 wx => ∃ (q : Nat) (a' : Option Addr) (c' : Nat) (fp' : Fp), s8 = .pointer (some ⟨q, 0, none⟩) ∧ LB w wx (w.heap.size + 1) q F T a' c' fp' ∧ Below w2.heap.size w2 wx)
    case first =>
      refine gt_begin (S := fun X : World => X.cell? ⟨w.heap.size, 0, none⟩ = some (.int .i64 F) ∧ X.cell? ⟨w.heap.size, 1, none⟩ = some (.slice a T.length cap)) 7 hmix (by kernel_rfl) ?_
      have hHeld : (fun X : World => X.cell? ⟨w.heap.size, 0, none⟩ = some (.int .i64 F) ∧ X.cell? ⟨w.heap.size, 1, none⟩ = some (.slice a T.length cap)) w2.drew := KS _ b0d
      refine gt_take (i := 0) (v := ?_) rfl (by kernel_rfl) (by kernel_rfl) (by kernel_rfl) (by kernel_rfl) (fun _ _ _ h => h) (Or.inl ⟨by rfl, ?_⟩) hHeld ?_
      rotate_left
      · (intro X hSX; (try dsimp only at hSX); obtain ⟨g0, g1⟩ := hSX; go_simp; try with_reducible rfl)
      try simp only [Act.put, List.setIfInBounds_toArray, List.set_cons_zero, List.set_cons_succ]
      refine gt_take (i := 1) (v := ?_) rfl (by kernel_rfl) (by kernel_rfl) (by kernel_rfl) (by kernel_rfl) (fun _ _ _ h => h) (Or.inl ⟨by rfl, ?_⟩) hHeld ?_
      rotate_left
      · (intro X hSX; (try dsimp only at hSX); obtain ⟨g0, g1⟩ := hSX; go_simp; try with_reducible rfl)
      try simp only [Act.put, List.setIfInBounds_toArray, List.set_cons_zero, List.set_cons_succ]
      refine gt_take (i := 2) (v := ?_) rfl (by kernel_rfl) (by kernel_rfl) (by kernel_rfl) (by kernel_rfl) (fun _ _ _ h => h) (Or.inl ⟨by rfl, ?_⟩) hHeld ?_
      rotate_left
      · (intro X hSX; (try dsimp only at hSX); obtain ⟨g0, g1⟩ := hSX; go_simp; try with_reducible rfl)
      try simp only [Act.put, List.setIfInBounds_toArray, List.set_cons_zero, List.set_cons_succ]
      refine gt_take (i := 3) (v := ?_) rfl (by kernel_rfl) (by kernel_rfl) (by kernel_rfl) (by kernel_rfl) (fun _ _ _ h => h) (Or.inl ⟨by rfl, ?_⟩) hHeld ?_
      rotate_left
      · (intro X hSX; (try dsimp only at hSX); obtain ⟨g0, g1⟩ := hSX; go_simp; try with_reducible rfl)
      try simp only [Act.put, List.setIfInBounds_toArray, List.set_cons_zero, List.set_cons_succ]
      refine gt_two (i := 4) (j := 6) rfl rfl (by kernel_rfl) (by kernel_rfl) (fun K hK => ?_) (fun K hK => ?_)
      · skip
        go_simp
        go_at_call 34
        refine (hX _).mono ?_
        rintro e u1 ⟨rfl, hgu1⟩
        have b1 : Below w2.heap.size w2 u1 := b0d.trans (hgu1.1.mono b0d.size)
        refine hK.out _ _ (KS _ b1) (fun hHeldN => ?_)
        clear hK hHeld
        have hHeld := hHeldN
        try simp only [Act.put, List.setIfInBounds_toArray, List.set_cons_zero, List.set_cons_succ]
        refine gt_two (i := 5) (j := 6) rfl rfl (by kernel_rfl) (by kernel_rfl) (fun K hK => ?_) (fun K hK => ?_)
        · skip
          go_simp
          go_at_call 33
          refine (hB _ (KB _ b1)).mono ?_
          rintro e u7 ⟨a7, c7, rfl, hN7⟩
          have b7 : Below w2.heap.size w2 u7 := b1.trans ((by obtain ⟨_, _, _, h⟩ := hN7; exact h : Below _ _ u7).mono b1.size)
          obtain ⟨fp7, hL7, hW7⟩ := lb_new H2 b1 hN7
          refine hK.out _ _ (KS _ b7) (fun hHeldN => ?_)
          clear hK hHeld
          have hHeld := hHeldN
          try simp only [Act.put, List.setIfInBounds_toArray, List.set_cons_zero, List.set_cons_succ]
          refine gt_one (i := 6) rfl (by kernel_rfl) (by kernel_rfl) (fun K hK => ?_)
          go_simp
          have b8 : Below w2.heap.size w2 (u7.alloc (.cells #[.int .i64 0, .slice none 0 0] 26)) := b7.alloc b7.size _
          refine hK.out _ _ (KS _ b8) (fun hHeldN => ?_)
          clear hK hHeld
          have hHeld := hHeldN
          try simp only [Act.put, List.setIfInBounds_toArray, List.set_cons_zero, List.set_cons_succ]
          clear hHeld
          refine gt_last rfl (by kernel_rfl) (by kernel_rfl) (fun K hK => ?_)
          go_simp
          refine hK.out _ _ ?_
          try go_wp2_with fail
          go_meet
          exact ⟨u7.heap.size, a7, c7, fp7, rfl, hL7, hW7⟩
        · skip
          go_simp
          have b2 : Below w2.heap.size w2 (u1.alloc (.cells #[.int .i64 0, .slice none 0 0] 26)) := b1.alloc b1.size _
          refine hK.out _ _ (KS _ b2) (fun hHeldN => ?_)
          clear hK hHeld
          have hHeld := hHeldN
          try simp only [Act.put, List.setIfInBounds_toArray, List.set_cons_zero, List.set_cons_succ]
          refine gt_one (i := 5) rfl (by kernel_rfl) (by kernel_rfl) (fun K hK => ?_)
          go_simp
          go_at_call 33
          refine (hB _ (KB _ b2)).mono ?_
          rintro e u7 ⟨a7, c7, rfl, hN7⟩
          have b7 : Below w2.heap.size w2 u7 := b2.trans ((by obtain ⟨_, _, _, h⟩ := hN7; exact h : Below _ _ u7).mono b2.size)
          obtain ⟨⟨z0, z1, z2, z3⟩, fp7, hL7, hW7⟩ := lb_put H2 b2 (Bx.new u1 _ _) b1.size hN7
          refine hK.out _ _ (KS _ b7) (fun hHeldN => ?_)
          clear hK hHeld
          have hHeld := hHeldN
          try simp only [Act.put, List.setIfInBounds_toArray, List.set_cons_zero, List.set_cons_succ]
          clear hHeld
          refine gt_last rfl (by kernel_rfl) (by kernel_rfl) (fun K hK => ?_)
          go_simp
          refine hK.out _ _ ?_
          try go_wp2_with fail
          go_meet
          exact ⟨u1.heap.size, a7, c7, fp7, rfl, hL7, hW7⟩
      · skip
        go_simp
        have b1 : Below w2.heap.size w2 (w2.drew.alloc (.cells #[.int .i64 0, .slice none 0 0] 26)) := b0d.alloc b0d.size _
        refine hK.out _ _ (KS _ b1) (fun hHeldN => ?_)
        clear hK hHeld
        have hHeld := hHeldN
        try simp only [Act.put, List.setIfInBounds_toArray, List.set_cons_zero, List.set_cons_succ]
        refine gt_one (i := 4) rfl (by kernel_rfl) (by kernel_rfl) (fun K hK => ?_)
        go_simp
        go_at_call 34
        refine (hX _).mono ?_
        rintro e u1 ⟨rfl, hgu1⟩
        have b2 : Below w2.heap.size w2 u1 := b1.trans (hgu1.1.mono b1.size)
        refine hK.out _ _ (KS _ b2) (fun hHeldN => ?_)
        clear hK hHeld
        have hHeld := hHeldN
        try simp only [Act.put, List.setIfInBounds_toArray, List.set_cons_zero, List.set_cons_succ]
        refine gt_one (i := 5) rfl (by kernel_rfl) (by kernel_rfl) (fun K hK => ?_)
        go_simp
        go_at_call 33
        refine (hB _ (KB _ b2)).mono ?_
        rintro e u7 ⟨a7, c7, rfl, hN7⟩
        have b7 : Below w2.heap.size w2 u7 := b2.trans ((by obtain ⟨_, _, _, h⟩ := hN7; exact h : Below _ _ u7).mono b2.size)
        obtain ⟨⟨z0, z1, z2, z3⟩, fp7, hL7, hW7⟩ := lb_put (q := w2.heap.size) H2 b2 ((Bx.new w2.drew _ _).below hgu1.1) (Nat.le_refl _) hN7
        refine hK.out _ _ (KS _ b7) (fun hHeldN => ?_)
        clear hK hHeld
        have hHeld := hHeldN
        try simp only [Act.put, List.setIfInBounds_toArray, List.set_cons_zero, List.set_cons_succ]
        clear hHeld
        refine gt_last rfl (by kernel_rfl) (by kernel_rfl) (fun K hK => ?_)
        go_simp
        refine hK.out _ _ ?_
        try go_wp2_with fail
        go_meet
        exact ⟨w2.heap.size, a7, c7, fp7, rfl, hL7, hW7⟩
    case rest =>
      obtain ⟨q, a', c', fp', rfl, hL, hbx⟩ := hcut
      obtain ⟨x0, x1⟩ := KS _ hbx
      have HL : Hid (LB w wc (w.heap.size + 1) q F T a' c' fp') := hL
      clear hL KS KB hB H2 b0d hbx
      by_cases hadd : addB (F, T) v s
      · have HZ := HZ1.out hadd
        have HZ : Hid (addLg (F, T) v s = ((F, T ++ [s]), true)) := HZ
        obtain ⟨a1, a2, a3⟩ := hadd
        simp only at a1 a2
        have g1 : (v != F + (T.length : Int)) = false := by simpa using a1
        have g2 : ((T.length : Int) == 40) = false := by simp; omega
        have g3 : ¬ ((100 : Int) < (s.length : Int)) := by omega
        have hlen : T.length ≤ 1000 := by omega
        obtain ⟨i0, hi0, hz0, hz1, hz2⟩ := info_parts9 Tryd.info9
        have C := fun X => clone_any s X hsl
        clear a1 a2 HZ1 HZ2
        go_wp2_with (go_at_call 34; refine (hX _).mono ?_; rintro e w3 ⟨rfl, hg3⟩; have y0 := hg3.cell x0; have y1 := hg3.cell x1)
        have HL1 : Hid (LB w (w3.drewN 1) (w.heap.size + 1) q F T a' c' fp') := (HL.out.step hg3.1).step (Same.drewN w3 1).below
        have x8 := HL1.out.own.r2.2
        clear y0 y1 x0 x1 hg3 HL
        refine gt_begin (S := fun X : World => X.cell? ⟨q, 1, none⟩ = some (.slice a' T.length c')) 7 hmix (by kernel_rfl) ?_
        have hHeld : (fun X : World => X.cell? ⟨q, 1, none⟩ = some (.slice a' T.length c')) w3.drew := x8
        refine gt_take (i := 0) (v := ?_) rfl (by kernel_rfl) (by kernel_rfl) (by kernel_rfl) (by kernel_rfl) (fun _ _ _ h => h) (Or.inl ⟨by rfl, ?_⟩) hHeld ?_
        rotate_left
        · (intro X hSX; (try dsimp only at hSX); have g0 := hSX; go_simp; try with_reducible rfl)
        try simp only [Act.put, List.setIfInBounds_toArray, List.set_cons_zero, List.set_cons_succ]
        refine gt_take (i := 1) (v := ?_) rfl (by kernel_rfl) (by kernel_rfl) (by kernel_rfl) (by kernel_rfl) (fun _ _ _ h => h) (Or.inl ⟨by rfl, ?_⟩) hHeld ?_
        rotate_left
        · (intro X hSX; (try dsimp only at hSX); have g0 := hSX; go_simp; try with_reducible rfl)
        try simp only [Act.put, List.setIfInBounds_toArray, List.set_cons_zero, List.set_cons_succ]
        refine gt_pure (i := 2) (v := ?_) rfl (by kernel_rfl) (by kernel_rfl) (by kernel_rfl) (fun _ _ _ h => h) (Or.inl ⟨by rfl, ?_⟩) ?_
        rotate_left
        · (intro X; go_simp; try with_reducible rfl)
        try simp only [Act.put, List.setIfInBounds_toArray, List.set_cons_zero, List.set_cons_succ]
        refine gt_one (i := 3) rfl (by kernel_rfl) (by kernel_rfl) (fun K hK => ?_)
        go_simp
        go_at_call 35
        refine (C _).mono ?_
        rintro e Y3 ⟨rfl, hb3⟩
        have L3 := HL1.out.step hb3
        refine hK.out _ _ (L3.own.r2.2) (fun hHeldN => ?_)
        clear hK hHeld
        have hHeld := hHeldN
        try simp only [Act.put, List.setIfInBounds_toArray, List.set_cons_zero, List.set_cons_succ]
        refine gt_one (i := 4) rfl (by kernel_rfl) (by kernel_rfl) (fun K hK => ?_)
        go_simp
        refine hK.out _ _ (L3.own.alloc (.cells #[.string (sv s)] 9)).r2.2 (fun hHeldN => ?_)
        clear hK hHeld
        have hHeld := hHeldN
        try simp only [Act.put, List.setIfInBounds_toArray, List.set_cons_zero, List.set_cons_succ]
        refine gt_one (i := 5) rfl (by kernel_rfl) (by kernel_rfl) (fun K hK => ?_)
        refine step_append_of (by rfl) _ _ _ _ (by rfl) (.slice a' T.length c') _ (by rfl) (by rfl) (LB.app i0 hi0 hz0 hz1 hz2 L3 s hlen) ⟨rfl, rfl, rfl, rfl⟩ ?_
        rintro v9 w4 ⟨a9, c9, rfl, q1, q2, fp9, hLn⟩
        refine hK.out _ _ q1 (fun hHeldN => ?_)
        clear hK hHeld
        have hHeld := hHeldN
        try simp only [Act.put, List.setIfInBounds_toArray, List.set_cons_zero, List.set_cons_succ]
        refine gt_take (i := 6) (v := ?_) rfl (by kernel_rfl) (by kernel_rfl) (by kernel_rfl) (by kernel_rfl) (fun _ _ _ h => h) (Or.inl ⟨by rfl, ?_⟩) hHeld ?_
        rotate_left
        · (intro X hSX; (try dsimp only at hSX); have g0 := hSX; go_simp; try with_reducible rfl)
        try simp only [Act.put, List.setIfInBounds_toArray, List.set_cons_zero, List.set_cons_succ]
        obtain ⟨r0, r1⟩ := hLn.own.r2
        obtain ⟨t0, t1⟩ := hLn.res.r2
        have f0 := hLn.res.f 0
        have f1 := hLn.res.f 1
        have hA9 := hLn.ans
        have HA9 : Hid (NewO w (((w4.setCell ⟨q, 1, none⟩ (.slice a9 (T.length + 1) c9)).setCell ⟨w.heap.size + 1, 0, none⟩ (.int .i64 F)).setCell ⟨w.heap.size + 1, 1, none⟩ (.slice a9 (T.length + 1) c9)) (scl (T ++ [s])) (.slice a9 (T ++ [s]).length c9)) := by
          rw [List.length_append, List.length_singleton] at hA9
          rw [Hid, List.length_append, List.length_singleton]
          exact hA9
        rw [List.length_append, List.length_singleton] at r1
        clear L3 hLn hb3 hA9
        refine gt_last rfl (by kernel_rfl) (by kernel_rfl) (fun K hK => ?_)
        go_simp
        refine hK.out _ _ ?_
        go_wp2
        refine bodyPost_ret (v := .tuple #[.agg #[.int .i64 F, .slice a9 (T.length + 1) c9], .bool true]) (by simp [results, Tryd.results8, go_sem, *]) rfl ?_
        rw [HZ.out]
        refine ⟨a9, c9, ?_, HA9.out⟩
        rw [List.length_append]
        rfl
      · have HZ : Hid (addLg (F, T) v s = ((F, T), false)) := HZ2.out hadd
        have hcase : ((v != F + (T.length : Int)) = true) ∨ ((v != F + (T.length : Int)) = false ∧ ((T.length : Int) == 40) = true) ∨ ((v != F + (T.length : Int)) = false ∧ ((T.length : Int) == 40) = false ∧ (100 : Int) < (s.length : Int)) := by
          by_cases e1 : v = F + (T.length : Int)
          · by_cases e2 : T.length = 40
            · exact .inr (.inl ⟨by simpa using e1, by simp; omega⟩)
            · refine .inr (.inr ⟨by simpa using e1, by simp; omega, ?_⟩)
              have : ¬ s.length ≤ 100 := fun h => hadd ⟨e1, e2, h⟩
              omega
          · exact .inl (by simpa using e1)
        clear hadd HZ1 HZ2
        rcases hcase with g1 | ⟨g1, g2⟩ | ⟨g1, g2, g3⟩
        all_goals
          go_wp2_with (go_at_call 34; refine (hX _).mono ?_; rintro e w3 ⟨rfl, hg3⟩; have y0 := hg3.cell x0; have y1 := hg3.cell x1; have L3 := HL.out.step hg3.1; obtain ⟨r0, r1⟩ := L3.own.r2; obtain ⟨t0, t1⟩ := L3.res.r2; have f0 := L3.res.f 0; have f1 := L3.res.f 1; have hA3 := L3.ans)
          refine bodyPost_ret (v := .tuple #[.agg #[.int .i64 F, .slice a' T.length c'], .bool false]) (by simp [results, Tryd.results8, go_sem, *]) rfl ?_
          rw [HZ.out]
          exact ⟨a', c', rfl, hA3⟩
  · rw [decide_eq_false hok] at hK
    have HZ : Hid (addLg (F, T) v s = (zeroLg, false)) := by rw [Hid, addLg, if_neg hok]
    unfold lgV at hK ⊢
    clear hok
    go_enter Tryd.func8, Tryd.ntmps8
    go_wp2_with (go_at_call 17; refine hK.mono ?_; rintro e w2 ⟨rfl, hg2⟩; have H2 := HH.out.step hg2.1; obtain ⟨x0, x1⟩ := H2.res.r2; have f0 := H2.res.f 0; have f1 := H2.res.f 1)
    refine bodyPost_ret (v := .tuple #[.agg #[.int .i64 0, .slice none 0 0], .bool false]) (by simp [results, Tryd.results8, go_sem, *]) rfl ?_
    rw [HZ.out]
    exact ⟨none, 0, rfl, newO_nil (below2 H2.below (by omega))⟩
theorem implAdded : ImplAdded := fun F a cap T v s w hF hvI hv hm hs hsl => adI_any F a cap T v s w hv hm hs hsl
end Go.Proofs.YtbnpliobigjapaaDoor
