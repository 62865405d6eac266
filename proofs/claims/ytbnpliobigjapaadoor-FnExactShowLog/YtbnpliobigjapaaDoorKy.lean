/-
  Several texts in one: Lga.
-/
import Derived.Test.YtbnpliobigjapaaDoorKx
import Derived.Test.YtbnpliobigjapaaDoorGa
/-
  The specification's Added, Shorter, Cut.
-/
namespace Go.Proofs.YtbnpliobigjapaaDoor
set_option linter.unusedVariables false
set_option linter.unusedSimpArgs false
open Go.RowKit Go.Sort

/-- A list of texts as it is answered: to be read, its address known. -/
def TxP (w : World) (a : Option Addr) (c : Nat) (T : List (List UInt8)) : Prop := (T = [] ∧ c = 0 ∧ PlainA a) ∨ ∃ b off, a = some ⟨b, off, none⟩ ∧ T.length ≤ c ∧ c ≤ maxLen ∧ ∀ i, i < T.length → w.cell? ⟨b, off + i, none⟩ = some (.string (sv (T.getD i [])))
theorem TxP.txs {w : World} {a : Option Addr} {c : Nat} {T : List (List UInt8)} (h : TxP w a c T) : TxS w a T := by
  rcases h with ⟨h, _⟩ | ⟨b, off, h1, h2, h3, h4⟩
  · exact .inl (by rw [h]; rfl)
  · exact .inr ⟨b, off, h1, h4⟩
theorem TxP.below {w w' : World} {a : Option Addr} {c : Nat} {T : List (List UInt8)} (h : TxP w a c T) (hb : Below w.heap.size w w') : TxP w' a c T := by
  rcases h with h | ⟨b, off, ha, h1, h2, hc⟩
  · exact .inl h
  · exact .inr ⟨b, off, ha, h1, h2, fun i hi => (hb.cell (World.block_lt_of_cell? _ _ (hc i hi))).trans (hc i hi)⟩
theorem TxP.drewN {w : World} {a : Option Addr} {c : Nat} {T : List (List UInt8)} (h : TxP w a c T) (n : Nat) : TxP (w.drewN n) a c T := h
theorem OSo.txp {w : World} {a : Option Addr} {c : Nat} {T : List (List UInt8)} {G : Option Nat} (h : OSo w 1 a T.length c (svs T) G) : TxP w a c T := by
  have hp := h.plain
  rcases h.os with ⟨h1, h2, _⟩ | ⟨g, off, h1, h2, _⟩
  · exact .inl ⟨h1, h2, hp⟩
  · exact .inr ⟨g, off, h1, h2.le, h2.max, fun i hi => h2.cellAt hi⟩
theorem ow_txp {w : World} {a : Option Addr} {c : Nat} {T : List (List UInt8)} {fp : Fp} (h : Cel.ow w (scl T) (.slice a T.length c) fp) : TxP w a c T := by
  obtain ⟨a', c', G, e, ho, _⟩ := ow_scl.1 h
  cases e
  exact ho.txp
theorem it_txp {w : World} {a : Option Addr} {c lo hi : Nat} {T : List (List UInt8)} (h : It w [scl T] [.slice a T.length c] lo hi) : TxP w a c T := by
  obtain ⟨f, h1, _⟩ := h.ow1
  exact ow_txp h1
theorem newO_txp {w w' : World} {a : Option Addr} {c : Nat} {T : List (List UInt8)} (h : NewO w w' (scl T) (.slice a T.length c)) : TxP w' a c T := by
  obtain ⟨f, h1, _⟩ := h
  exact ow_txp h1

/-- What Added and the like hold: the log that came, the answer's room. -/
structure LgH (w W : World) (F : Int) (a : Option Addr) (n cap : Nat) : Prop where
  box : Bx W w.heap.size 26 #[.int .i64 F, .slice a n cap]
  res : Bx W (w.heap.size + 1) 26 #[.int .i64 0, .slice none 0 0]
  below : Below w.heap.size w W
theorem LgH.start (w : World) (F : Int) (a : Option Addr) (n cap : Nat) : LgH w ((w.alloc (.cells #[.int .i64 F, .slice a n cap] 26)).alloc (.cells #[.int .i64 0, .slice none 0 0] 26)) F a n cap := by
  refine ⟨(Bx.new _ _ _).alloc _, ?_, ((Below.refl _ _).alloc (Nat.le_refl _) _).alloc (by simp) _⟩
  have := Bx.new (w.alloc (.cells #[.int .i64 F, .slice a n cap] 26)) 26 #[.int .i64 0, .slice none 0 0]
  simpa using this
theorem LgH.step {w W W' : World} {F : Int} {a : Option Addr} {n cap : Nat} (h : LgH w W F a n cap) (hb : Below W.heap.size W W') : LgH w W' F a n cap := ⟨h.box.below hb, h.res.below hb, h.below.trans (hb.mono h.below.size)⟩

/-- What is added to the copy, and then stored into the answer's room. -/
theorem lga_app {w w2 w3 w6 : World} {F : Int} {a a3 a6 : Option Addr} {n cap c3 c6 : Nat} {T : List (List UInt8)} {s : List UInt8} {G3 G6 : Option Nat} (H2 : LgH w w2 F a n cap) (hb3 : Below w2.heap.size w2 w3) (hf3 : ∀ b, G3 = some b → w2.heap.size ≤ b) (ho3 : OSo w3 1 a3 T.length c3 (svs T) G3)
    (ho6 : OSo w6 1 a6 (T.length + 1) c6 (svs T ++ [.string (sv s)]) G6) (hg6 : ((w3.alloc (.cells #[.int .i64 F, .slice a3 T.length c3] 26)).alloc (.cells #[.string (sv s)] 9)).grownBy w6 G3) (hat6 : G6 = G3 ∨ G6 = some ((w3.alloc (.cells #[.int .i64 F, .slice a3 T.length c3] 26)).alloc (.cells #[.string (sv s)] 9)).heap.size) :
    (w6.cell? ⟨w3.heap.size, 0, none⟩ = some (.int .i64 F) ∧ w6.cell? ⟨w3.heap.size, 1, none⟩ = some (.slice a3 T.length c3) ∧ w6.frozen? ⟨w3.heap.size, 1, none⟩ = false) ∧
    ((w6.setCell ⟨w3.heap.size, 1, none⟩ (.slice a6 (T.length + 1) c6)).cell? ⟨w3.heap.size, 0, none⟩ = some (.int .i64 F) ∧ (w6.setCell ⟨w3.heap.size, 1, none⟩ (.slice a6 (T.length + 1) c6)).cell? ⟨w3.heap.size, 1, none⟩ = some (.slice a6 (T.length + 1) c6) ∧
      (w6.setCell ⟨w3.heap.size, 1, none⟩ (.slice a6 (T.length + 1) c6)).cell? ⟨w.heap.size + 1, 0, none⟩ = some (.int .i64 0) ∧ (w6.setCell ⟨w3.heap.size, 1, none⟩ (.slice a6 (T.length + 1) c6)).cell? ⟨w.heap.size + 1, 1, none⟩ = some (.slice none 0 0) ∧
      (w6.setCell ⟨w3.heap.size, 1, none⟩ (.slice a6 (T.length + 1) c6)).frozen? ⟨w.heap.size + 1, 0, none⟩ = false ∧ (w6.setCell ⟨w3.heap.size, 1, none⟩ (.slice a6 (T.length + 1) c6)).frozen? ⟨w.heap.size + 1, 1, none⟩ = false) ∧
    NewO w (((w6.setCell ⟨w3.heap.size, 1, none⟩ (.slice a6 (T.length + 1) c6)).setCell ⟨w.heap.size + 1, 0, none⟩ (.int .i64 F)).setCell ⟨w.heap.size + 1, 1, none⟩ (.slice a6 (T.length + 1) c6)) (scl (T ++ [s])) (.slice a6 (T ++ [s]).length c6) := by
  have hr2 := H2.res.lt
  have hs3 := hb3.size
  have H3 := ((H2.step hb3).step (oneA w3 (.cells #[.int .i64 F, .slice a3 T.length c3] 26))).step (oneA _ (.cells #[.string (sv s)] 9))
  have hy := (Bx.new w3 26 #[.int .i64 F, .slice a3 T.length c3]).alloc (.cells #[.string (sv s)] 9)
  have hG : ∀ b, G3 = some b → w.heap.size + 1 < b ∧ b < w3.heap.size := fun b hb => ⟨by have := hf3 b hb; omega, ho3.lt hb⟩
  have y6 := hy.grown hg6 (fun e => by have := (hG _ e.symm).2; omega)
  have r6 := H3.res.grown hg6 (fun e => by have := (hG _ e.symm).1; omega)
  have hw6 := Wrt.of_grown hg6
  have hb6 := hw6.below H3.below H3.below.size (fun b hb => by have := (hG b hb).1; omega)
  have hne : w.heap.size + 1 ≠ w3.heap.size := by omega
  have y7 := y6.setC 1 (.slice a6 (T.length + 1) c6)
  have r7 := r6.far (i := 1) hne (.slice a6 (T.length + 1) c6)
  have hG6 : ∀ b, G6 = some b → w.heap.size + 1 < b ∧ b ≠ w3.heap.size := fun b hb => by
    rcases hat6 with h | h
    · have := hG b (h ▸ hb); exact ⟨this.1, by omega⟩
    · rw [h] at hb; cases hb; simp; omega
  have ho7 := (ho6.set (g := w3.heap.size) (i := 1) (fun e => (hG6 _ e).2 rfl) (.slice a6 (T.length + 1) c6)).wrt (wrt2 _ (w.heap.size + 1) (x := .int .i64 F) (y := .slice a6 (T.length + 1) c6)) (fun b hb e => by have := (hG6 b hb).1; omega)
  refine ⟨⟨y6.at 0 rfl, y6.at 1 rfl, y6.f 1⟩, ⟨y7.at 0 rfl, y7.at 1 rfl, r7.at 0 rfl, r7.at 1 rfl, r7.f 0, r7.f 1⟩, fun b => G6 = some b, ow_scl.2 ⟨a6, c6, G6, rfl, ?_, fun b => Iff.rfl⟩, fun b hb => by have := (hG6 b hb).1; omega, below2 (hb6.setCell (p := ⟨w3.heap.size, 1, none⟩) (show w.heap.size ≤ w3.heap.size by omega) _) (by omega)⟩
  rw [svs_app, List.length_append]
  exact ho7

attribute [local irreducible] sv
set_option maxRecDepth 100000 in
set_option maxHeartbeats 3200000 in
theorem lgaS_any (F : Int) (a : Option Addr) (cap : Nat) (T : List (List UInt8)) (v : Int) (s : List UInt8) (w : World) (hv : TxP w a cap T) (hm : T.length ≤ 1048576) (hs : s.length ≤ 9223372036854775807) :
    Calls Tryd.prog 13 #[lgV F a T.length cap, .int .i64 v, .string (sv s)] w fun e w' => AnsLb w w' e (addLg (F, T) v s) := by
  have hH := LgH.start w F a T.length cap
  have hK := lgkS_any F a cap T _ (hv.txs.below hH.below) (by unfold maxLen; omega)
  have HH : Hid _ := hH
  have HV : Hid (TxP w a cap T) := hv
  unfold lgV at hK ⊢
  clear hv hH
  by_cases hok : okLg (F, T)
  · rw [decide_eq_true hok] at hK
    have h1 := hok.1
    have h40 := hok.2.1
    simp only at h1 h40
    have hw1 : wrap64 (F + (T.length : Int)) = F + (T.length : Int) := by unfold wrap64; omega
    have hsz := sv_size s
    obtain ⟨i0, hi0, hz0, hz1, hz2⟩ := info_parts9 Tryd.info9
    have HC : Hid (∀ X, Below w.heap.size w X → Calls Tryd.prog 44 #[.agg #[.int .i64 F, .slice a T.length cap]] X fun e w' => AnsLg X w' e (F, T)) := fun X hX => lgcS_any F a cap T X (HV.out.txs.below hX) hm
    by_cases hadd : addB (F, T) v s
    · have HZ : Hid (addLg (F, T) v s = ((F, T ++ [s]), true)) := by rw [Hid, addLg, if_pos hok, if_pos hadd]
      obtain ⟨a1, a2, a3⟩ := hadd
      simp only at a1 a2
      have g1 : (v != F + (T.length : Int)) = false := by simpa using a1
      have g2 : ((T.length : Int) == 40) = false := by simp; omega
      have g3 : ¬ ((100 : Int) < (s.length : Int)) := by omega
      have HL : Hid (T.length < 40) := by rw [Hid]; omega
      clear hok a1 a2 HV
      go_enter Tryd.func13, Tryd.ntmps13
      go_wp2_with (first
        | (go_at_call 18; refine hK.mono ?_; rintro e w2 ⟨rfl, hg2⟩; have H2 := HH.out.step hg2.1; obtain ⟨x0, x1⟩ := H2.box.r2; have hC := HC.out w2 H2.below)
        | (go_at_call 44; refine hC.mono ?_; rintro e w3 ⟨a3', c3, rfl, hO3⟩; unfold lgV; obtain ⟨fp3, ho3, hf3, hb3⟩ := hO3; have H3 := (H2.step hb3).step (oneA w3 (.cells #[.int .i64 F, .slice a3' T.length c3] 26)); obtain ⟨u0, u1⟩ := H3.box.r2; have hy3 := Bx.new w3 26 #[.int .i64 F, .slice a3' T.length c3]; obtain ⟨y0, y1⟩ := hy3.r2; obtain ⟨aq, cq, G3, eq3, ho3', hfq⟩ := ow_scl.1 ho3; cases eq3; have ho4 := ((ho3'.wrt (f := fun _ => False) (Wrt.of_below (oneA w3 (.cells #[.int .i64 F, .slice a3' T.length c3] 26))) (fun b _ h => h)).wrt (f := fun _ => False) (Wrt.of_below (oneA (w3.alloc (.cells #[.int .i64 F, .slice a3' T.length c3] 26)) (.cells #[.string (sv s)] 9))) (fun b _ h => h)))
        | (at_builtin; refine wpList_append_oo _ rfl _ _ _ rfl 9 i0 _ 1 16 Tryd.underlying24 hi0 hz0 hz1 hz2 rfl (by omega) a3' T.length c3 _ G3 rfl ho4 (some ⟨w3.heap.size + 1, 0, none⟩) 1 1 [.string (sv s)] rfl rfl (.inr ⟨_, rfl, World.news_of_block (cs := #[.string (sv s)]) (t := 9) (fr := (0, 0)) (by have := heap_alloc_new (w3.alloc (.cells #[.int .i64 F, .slice a3' T.length c3] 26)) (.cells #[.string (sv s)] 9); rw [World.size_alloc] at this; exact this)⟩) (by simp [Value.oneCell']) (by have := HL.out; unfold maxLen; omega) (by have := HL.out; omega) ?_; intro a6 c6 G6 w6 ho6 hg6 hat6; obtain ⟨⟨q0, q1, q2⟩, ⟨q3, q4, q5, q6, q7, q8⟩, hN6⟩ := lga_app H2 hb3 (fun b hb => hf3 b ((hfq b).2 hb)) ho3' ho6 hg6 hat6))
      refine bodyPost_ret (v := .tuple #[.agg #[.int .i64 F, .slice a6 (T.length + 1) c6], .bool true]) (by simp [results, Tryd.results13, go_sem, *]) rfl ?_
      rw [HZ.out]
      refine ⟨a6, c6, ?_, hN6⟩
      rw [List.length_append]
      rfl
    · have HZ : Hid (addLg (F, T) v s = ((F, T), false)) := by rw [Hid, addLg, if_pos hok, if_neg hadd]
      have HF : Hid (∀ w2 w3 a3 c3 fp3, LgH w w2 F a T.length cap → Below w2.heap.size w2 w3 → Cel.ow w3 (scl T) (.slice a3 T.length c3) fp3 → (∀ b, fp3 b → w2.heap.size ≤ b) →
          ((w3.alloc (.cells #[.int .i64 F, .slice a3 T.length c3] 26)).cell? ⟨w.heap.size, 0, none⟩ = some (.int .i64 F) ∧ (w3.alloc (.cells #[.int .i64 F, .slice a3 T.length c3] 26)).cell? ⟨w.heap.size, 1, none⟩ = some (.slice a T.length cap) ∧ (w3.alloc (.cells #[.int .i64 F, .slice a3 T.length c3] 26)).cell? ⟨w.heap.size + 1, 0, none⟩ = some (.int .i64 0) ∧ (w3.alloc (.cells #[.int .i64 F, .slice a3 T.length c3] 26)).cell? ⟨w.heap.size + 1, 1, none⟩ = some (.slice none 0 0) ∧
            (w3.alloc (.cells #[.int .i64 F, .slice a3 T.length c3] 26)).frozen? ⟨w.heap.size + 1, 0, none⟩ = false ∧ (w3.alloc (.cells #[.int .i64 F, .slice a3 T.length c3] 26)).frozen? ⟨w.heap.size + 1, 1, none⟩ = false) ∧
          NewO w (((w3.alloc (.cells #[.int .i64 F, .slice a3 T.length c3] 26)).setCell ⟨w.heap.size + 1, 0, none⟩ (.int .i64 F)).setCell ⟨w.heap.size + 1, 1, none⟩ (.slice a3 T.length c3)) (scl T) (.slice a3 T.length c3)) := by
        intro w2 w3 a3 c3 fp3 H2 hb3 ho3 hf3
        have H3 := (H2.step hb3).step (oneA w3 (.cells #[.int .i64 F, .slice a3 T.length c3] 26))
        have hr2 := H2.res.lt
        exact ⟨⟨H3.box.at 0 rfl, H3.box.at 1 rfl, H3.res.at 0 rfl, H3.res.at 1 rfl, H3.res.f 0, H3.res.f 1⟩, fp3, Cel.ow_wrt (Cel.ow_below ho3 (oneA _ _)) (wrt2 _ (w.heap.size + 1)) (fun b hb e => by have := hf3 b hb; omega), fun b hb => by have := hf3 b hb; omega, below2 H3.below (by omega)⟩
      have hcase : ((v != F + (T.length : Int)) = true) ∨ ((v != F + (T.length : Int)) = false ∧ ((T.length : Int) == 40) = true) ∨ ((v != F + (T.length : Int)) = false ∧ ((T.length : Int) == 40) = false ∧ (100 : Int) < (s.length : Int)) := by
        by_cases e1 : v = F + (T.length : Int)
        · by_cases e2 : T.length = 40
          · exact .inr (.inl ⟨by simpa using e1, by simp; omega⟩)
          · refine .inr (.inr ⟨by simpa using e1, by simp; omega, ?_⟩)
            have : ¬ s.length ≤ 100 := fun h => hadd ⟨e1, e2, h⟩
            omega
        · exact .inl (by simpa using e1)
      clear hok HV hadd
      rcases hcase with g1 | ⟨g1, g2⟩ | ⟨g1, g2, g3⟩
      all_goals
        go_enter Tryd.func13, Tryd.ntmps13
        go_wp2_with (first
          | (go_at_call 18; refine hK.mono ?_; rintro e w2 ⟨rfl, hg2⟩; have H2 := HH.out.step hg2.1; obtain ⟨x0, x1⟩ := H2.box.r2; have hC := HC.out w2 H2.below)
          | (go_at_call 44; refine hC.mono ?_; rintro e w3 ⟨a3', c3, rfl, hO3⟩; unfold lgV; obtain ⟨fp3, ho3, hf3, hb3⟩ := hO3; obtain ⟨⟨q0, q1, q2, q3, q4, q5⟩, hN3⟩ := HF.out w2 w3 a3' c3 fp3 H2 hb3 ho3 hf3))
        refine bodyPost_ret (v := .tuple #[.agg #[.int .i64 F, .slice a3' T.length c3], .bool false]) (by simp [results, Tryd.results13, go_sem, *]) rfl ?_
        rw [HZ.out]
        exact ⟨a3', c3, rfl, hN3⟩
  · rw [decide_eq_false hok] at hK
    have HZ : Hid (addLg (F, T) v s = (zeroLg, false)) := by rw [Hid, addLg, if_neg hok]
    clear hok HV
    go_enter Tryd.func13, Tryd.ntmps13
    go_wp2_with (go_at_call 18; refine hK.mono ?_; rintro e w2 ⟨rfl, hg2⟩; have H2 := HH.out.step hg2.1; obtain ⟨x0, x1⟩ := H2.res.r2; have f0 := H2.res.f 0; have f1 := H2.res.f 1)
    refine bodyPost_ret (v := .tuple #[.agg #[.int .i64 0, .slice none 0 0], .bool false]) (by simp [results, Tryd.results13, go_sem, *]) rfl ?_
    rw [HZ.out]
    exact ⟨none, 0, rfl, newO_nil (below2 H2.below (by omega))⟩
end Go.Proofs.YtbnpliobigjapaaDoor
