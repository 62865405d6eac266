/-
  Several texts in one: Rtn.
-/
import Derived.Test.YtdniajogojlmdaaJp
/-
  The contract of the specification's Turn.
-/
namespace Go.Proofs.Ytdniajogojlmdaa
set_option linter.unusedVariables false
set_option linter.unusedSimpArgs false
open Go.RowKit Go.Sort

/-- A list of passes, to be read. -/
def PsS (w : World) (a : Option Addr) (n : Nat) (cs : List Ps) : Prop := cs.length = n ∧ (n = 0 ∨ ∃ b off, a = some ⟨b, off, none⟩ ∧ ∀ i, i < n → w.cell? ⟨b, off + i * 3, none⟩ = some (.int .i64 (pat cs i).1) ∧ w.cell? ⟨b, off + i * 3 + 1, none⟩ = some (.int .i64 (pat cs i).2.1) ∧ w.cell? ⟨b, off + i * 3 + 2, none⟩ = some (.int .i64 (pat cs i).2.2))
theorem PsS.below {w w' : World} {a : Option Addr} {n : Nat} {cs : List Ps} (h : PsS w a n cs) (hb : Below w.heap.size w w') : PsS w' a n cs := by
  refine ⟨h.1, ?_⟩
  rcases h.2 with h | ⟨b, off, ha, hc⟩
  · exact .inl h
  · exact .inr ⟨b, off, ha, fun i hi => by
      obtain ⟨h0, h1, h2⟩ := hc i hi
      exact ⟨(hb.cell (World.block_lt_of_cell? _ _ h0)).trans h0, (hb.cell (World.block_lt_of_cell? _ _ h1)).trans h1, (hb.cell (World.block_lt_of_cell? _ _ h2)).trans h2⟩⟩

/-- What Turn holds: the relay that came, the answer's room, and the new relay in block o, of n rows Z so far. -/
def TSt (w wr : World) (N B : Int) (a : Option Addr) (len cap : Nat) (o n : Nat) (Z : List (List Int)) : Prop := ∃ a' c fp, Bx wr w.heap.size 35 #[.int .i64 N, .int .i64 B, .slice a len cap] ∧ Bx wr (w.heap.size + 1) 35 #[.int .i64 0, .int .i64 0, .slice none 0 0] ∧
  Bx wr o 35 #[.int .i64 N, .int .i64 B, .slice a' n c] ∧ Cel.ow wr (.sl 1 n (Z.map icl)) (.slice a' n c) fp ∧ (∀ b, fp b → o < b) ∧ w.heap.size + 1 < o ∧ Below w.heap.size w wr

theorem tst_row {w wr : World} {N B : Int} {a : Option Addr} {len cap o k : Nat} {H : List (List Int)} {a' : Option Addr} {c : Nat} {fp : Fp} {x : Option Addr} {cx : Nat}
    (i0 : TypeInfo) (hi0 : Try.prog.info? 2 = some i0) (hz0 : i0.zero = some (.int .i64 0)) (hz1 : i0.size = 1) (hz2 : i0.bytes = 8)
    (i1 : TypeInfo) (hi1 : Try.prog.info? 24 = some i1) (hy0 : i1.zero = some (.slice none 0 0)) (hy1 : i1.size = 1) (hy2 : i1.bytes = 24)
    (hr : Bx wr w.heap.size 35 #[.int .i64 N, .int .i64 B, .slice a len cap]) (hz : Bx wr (w.heap.size + 1) 35 #[.int .i64 0, .int .i64 0, .slice none 0 0])
    (ho : Bx wr o 35 #[.int .i64 N, .int .i64 B, .slice a' k c]) (hO : Cel.ow wr (.sl 1 k ((H.take k).map icl)) (.slice a' k c) fp) (hfp : ∀ b, fp b → o < b) (hlo : w.heap.size + 1 < o) (hb : Below w.heap.size w wr)
    (hk : k < H.length) (hk12 : k < 12) (hv : Vec wr x (row H k).length (row H k)) (hm : (row H k).length ≤ 1000000) :
    ∀ X, Same X (wr.alloc (.cells #[] 2)) → ∃ v' w2, (Builtin.append_ #[24, 24] 24 #[.slice (some ⟨wr.heap.size, 0, none⟩) 0 0, .slice x (row H k).length cx]).run Try.prog X = .ok v' w2 ∧
      ∃ a1 c1, v' = .slice a1 (row H k).length c1 ∧ w2.cell? ⟨o, 2, none⟩ = some (.slice a' k c) ∧ (w2.alloc (.cells #[.slice a1 (row H k).length c1] 24)).cell? ⟨o, 2, none⟩ = some (.slice a' k c) ∧
        ∀ Y, Same Y (w2.alloc (.cells #[.slice a1 (row H k).length c1] 24)) → ∃ v'' w4, (Builtin.append_ #[33, 33] 33 #[.slice a' k c, .slice (some ⟨w2.heap.size, 0, none⟩) 1 1]).run Try.prog Y = .ok v'' w4 ∧
          ∃ a2 c2, v'' = .slice a2 (k + 1) c2 ∧ w4.cell? ⟨o, 2, none⟩ = some (.slice a' k c) ∧ w4.frozen? ⟨o, 2, none⟩ = false ∧ TSt w (w4.setCell ⟨o, 2, none⟩ (.slice a2 (k + 1) c2)) N B a len cap o (k + 1) (H.take (k + 1)) := by
  intro X hX
  have w0 : Wrt (fun _ => False) wr X := (Wrt.of_below (one_alloc10 wr _)).trans (hX.wrt _) (fun _ _ h => h)
  obtain ⟨a1, c1, w2, f1, hr1, hO1, hw1, hf1⟩ := ints_copied (P := Try.prog) (w := X) 24 24 2 i0 Try.underlying24 hi0 hz0 hz1 hz2 (plainS wr.heap.size 0) (x := x) (c := cx) (hv.below (w0.below (Below.refl _ _) (Nat.le_refl _) (fun _ h => absurd h id)) (Nat.le_refl _)) hm
  have w2w : Wrt (fun _ => False) wr w2 := w0.trans hw1 (fun _ _ h => h)
  have ho2 := ho.wrt w2w id
  refine ⟨_, w2, hr1, a1, c1, rfl, ho2.at 2 rfl, (ho2.alloc _).at 2 rfl, fun Y hY => ?_⟩
  have w2y : Wrt (fun _ => False) w2 Y := (Wrt.of_below (one_alloc10 w2 _)).trans (hY.wrt _) (fun _ _ h => h)
  have wy : Wrt (fun _ => False) wr Y := w2w.trans w2y (fun _ _ h => h)
  have hX1 : X.heap.size = wr.heap.size + 1 := by rw [hX.size]; simp
  have hlt : ∀ b, fp b → b < wr.heap.size := Cel.ow_lt hO
  have hd : owL Y [icl (row H k)] [.slice a1 (row H k).length c1] f1 := ⟨_, [], f1, fun _ => False, rfl, Cel.ow_wrt hO1 w2y (fun _ _ h => h), ⟨rfl, fun _ h => h⟩, fun _ _ h => h, fun b => by simp⟩
  obtain ⟨a2, c2, w4, fp', hr4, hO4, hw4, hf4⟩ := ow_push (P := Try.prog) (w := Y) 33 33 24 i1 _ 1 24 Try.underlying33 hi1 hy0 hy1 hy2 rfl (by omega) (Cel.ow_wrt hO wy (fun _ _ h => h)) hd (fun b h1 h2 => by have := hlt b h1; have := hf1 b h2; omega) rfl (by simp [Value.oneCell']) w2.heap.size 24 (by rw [hY.heap]; exact heap_alloc_new w2 _) (by unfold maxLen; omega) (by omega)
  have wall : Wrt fp wr w4 := (wy.mono (fun _ _ h => absurd h id)).trans hw4 (fun _ _ h => h)
  have hr' := hr.wrt wall (fun h => by have := hfp _ h; omega)
  have hz' := hz.wrt wall (fun h => by have := hfp _ h; omega)
  have ho' := ho.wrt wall (fun h => by have := hfp _ h; omega)
  have hol := ho.lt
  have hYs : wr.heap.size ≤ Y.heap.size := wy.size
  have hfp' : ∀ b, fp' b → o < b := fun b hb => by
    rcases hf4 b hb with h | h | h
    · exact hfp b h
    · have := hf1 b h; omega
    · omega
  refine ⟨_, w4, hr4, a2, c2, rfl, ho'.at 2 rfl, ho'.f 2, a2, c2, fp', hr'.far (by omega) _, hz'.far (by omega) _, ho'.setC 2 _, ?_, hfp', hlo, ?_⟩
  · have e : (H.take (k + 1)).map icl = (H.take k).map icl ++ [icl (row H k)] := by
      have e0 : row H k = H[k] := by simp [row, List.getD, hk]
      rw [List.take_succ_eq_append_getElem hk, List.map_append, e0]
      rfl
    rw [e]
    exact Cel.ow_wrt hO4 (Wrt.set _ o 2 _) (fun b hb h => by have := hfp' b hb; omega)
  · exact (wall.below hb hb.size (fun b h => by have := hfp b h; omega)).setCell (p := ⟨o, 2, none⟩) (show w.heap.size ≤ o by omega) _
theorem map_row {Z : List (List Int)} {t : Nat} (ht : t < Z.length) : (Z.map icl)[t]? = some (icl (row Z t)) := by
  rw [List.getElem?_map, List.getElem?_eq_getElem ht]
  simp [row, List.getD, ht]
/-- One row is put anew. -/
theorem tst_put {w wr : World} {N B : Int} {a : Option Addr} {len cap o n : Nat} {Z : List (List Int)} {a' : Option Addr} {c : Nat} {fp : Fp} {t : Nat}
    (hr : Bx wr w.heap.size 35 #[.int .i64 N, .int .i64 B, .slice a len cap]) (hz : Bx wr (w.heap.size + 1) 35 #[.int .i64 0, .int .i64 0, .slice none 0 0])
    (ho : Bx wr o 35 #[.int .i64 N, .int .i64 B, .slice a' n c]) (hO : Cel.ow wr (.sl 1 n (Z.map icl)) (.slice a' n c) fp) (hfp : ∀ b, fp b → o < b) (hlo : w.heap.size + 1 < o) (hb : Below w.heap.size w wr)
    (hn : Z.length = n) (ht : t < n) :
    ∃ g off at' ct ft, a' = some ⟨g, off, none⟩ ∧ wr.cell? ⟨g, off + t, none⟩ = some (.slice at' (row Z t).length ct) ∧ wr.frozen? ⟨g, off + t, none⟩ = false ∧ o < g ∧ Cel.ow wr (icl (row Z t)) (.slice at' (row Z t).length ct) ft ∧
      ∀ (w4 : World) (R : List Int) (v' : Value) (f' : Fp), Below wr.heap.size wr w4 → Cel.ow w4 (icl R) v' f' → (∀ b, f' b → ft b ∨ wr.heap.size ≤ b) → w4.cell? ⟨g, off + t, none⟩ = some (.slice at' (row Z t).length ct) ∧ w4.frozen? ⟨g, off + t, none⟩ = false ∧ w4.cell? ⟨o, 2, none⟩ = some (.slice a' n c) ∧ TSt w (w4.setCell ⟨g, off + t, none⟩ v') N B a len cap o n (Z.set t R) := by
  obtain ⟨a0, c0, us, G, f, e0, hs, hL, hG, hf⟩ := hO
  cases e0
  obtain ⟨u, ft, hu, hcu, hsub, hput⟩ := owL_at hL (map_row (by omega : t < Z.length))
  have hcu' := hcu
  obtain ⟨at', ct, Gt, rfl, hst, hft⟩ := ow_icl.1 hcu
  rcases hs with ⟨h0, _⟩ | ⟨g, off, rfl, hs, rfl⟩
  · omega
  have hog : o < g := hfp g ((hf g).2 (.inl rfl))
  have hcell : wr.cell? ⟨g, off + t, none⟩ = some (.slice at' (row Z t).length ct) := (hs.cell t (by omega)).trans hu
  have hfr : wr.frozen? ⟨g, off + t, none⟩ = false := hs.free t (by have := hs.le; omega)
  refine ⟨g, off, at', ct, ft, rfl, hcell, hfr, hog, hcu', fun w4 R v' f' h4 hR hf' => ?_⟩
  have hs4 := hs.below h4 hs.blk
  have hu4 : w4.cell? ⟨g, off + t, none⟩ = some (.slice at' (row Z t).length ct) := (hs4.cell t (by omega)).trans hu
  refine ⟨hu4, hs4.free t (by have := hs.le; omega), (ho.below h4).at 2 rfl, ?_⟩
  have hol := ho.lt
  have hlt : ∀ b, f b → b < wr.heap.size := owL_lt hL
  have hgf : ¬ f g := hG g rfl
  have hw : Wrt (fun b => b = g) w4 (w4.setCell ⟨g, off + t, none⟩ v') := Wrt.set w4 g (off + t) v'
  have hf'g : ¬ f' g := fun h => by
    rcases hf' g h with h | h
    · exact hgf (hsub g h)
    · have := hs.blk; omega
  have hk := hput (w4.setCell ⟨g, off + t, none⟩ v') (icl R) v' f' (by have := h4.size; simp [World.setCell]; omega) (Cel.ow_wrt hR hw (fun b hb h => hf'g (h ▸ hb)))
    (fun b hb hnb => by
      have e1 := hw.block b (Nat.lt_of_lt_of_le (hlt b hb) h4.size) (fun h => hgf (h ▸ hb))
      rw [e1]
      exact h4.block b (hlt b hb))
    (fun b hb hb2 => by
      rcases hf' b hb with h | h
      · exact h
      · have := hlt b hb2; omega)
  refine ⟨some ⟨g, off, none⟩, c, fun b => some g = some b ∨ f' b ∨ f b ∧ ¬ ft b, (hr.below h4).far (by omega) _, (hz.below h4).far (by omega) _, (ho.below h4).far (by omega) _, ?_, fun b hb => ?_, hlo, ?_⟩
  · refine ⟨_, c, us.set t v', some g, fun b => f' b ∨ f b ∧ ¬ ft b, rfl, OSo.of (osl_put hs4 (by omega) v'), ?_, fun b hb h => ?_, fun b => Iff.rfl⟩
    · rw [List.map_set]
      exact hk
    · cases hb
      rcases h with h | ⟨h, _⟩
      · exact hf'g h
      · exact hgf h
  · rcases hb with hb | hb | ⟨hb, _⟩
    · cases hb; exact hog
    · rcases hf' b hb with h | h
      · exact hfp b ((hf b).2 (.inr (hsub b h)))
      · omega
    · exact hfp b ((hf b).2 (.inr hb))
  · exact (hb.trans (h4.mono hb.size)).setCell (p := ⟨g, off + t, none⟩) (show w.heap.size ≤ g by omega) _
end Go.Proofs.Ytdniajogojlmdaa
