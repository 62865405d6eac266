/-
  Several texts in one: Dr0.
-/
import Derived.Test.YtdniajogojlmdaaJu
import Derived.Test.YtdniajogojlmdaaIw
/-
  The draw of a relay (l10Draw): what it holds, and its steps.
-/
namespace Go.Proofs.Ytdniajogojlmdaa
set_option linter.unusedVariables false
set_option linter.unusedSimpArgs false
open Go.RowKit Go.Sort

/-- What l10Draw holds: the cursor, the answer's room B2, the relay in block B3 and its lists in memory of its own. -/
structure D10 (w X wr : World) (p B2 B3 : Nat) (a : Option Addr) (len cap : Nat) (bs : Nat → Int) (N B : Int) (a' : Option Addr) (c : Nat) (H : List (List Int)) (M : Nat) : Prop where
  cc : Cc w wr p a len cap bs
  gr : X.grownBy wr (some p)
  res : Bx wr B2 35 #[.int .i64 0, .int .i64 0, .slice none 0 0]
  box : Bx wr B3 35 #[.int .i64 N, .int .i64 B, .slice a' H.length c]
  own : ∃ f, Cel.ow wr (iicl H) (.slice a' H.length c) f ∧ ∀ b, f b → B2 < b ∧ b ≠ B3 ∧ b < M ∧ b ≠ p
  lo : (p < B2 ∨ B2 < p ∧ p < B3) ∧ B2 < B3 ∧ B3 < M
  mx : M ≤ wr.heap.size
  wlo : w.heap.size ≤ B2
  xlo : X.heap.size ≤ B2
theorem grown_blw {w w' : World} (h : Below w.heap.size w w') (r : Option Nat) : w.grownBy w' r := ⟨h.os, h.tape, h.output, h.size, fun k hk _ => h.block k hk⟩
theorem grown_new {w w1 w2 : World} {r r2 : Option Nat} (h : w.grownBy w1 r) (k : w1.grownBy w2 r2) (hr : ∀ b, r2 = some b → w.heap.size ≤ b) : w.grownBy w2 r :=
  ⟨k.os.trans h.os, k.tape.trans h.tape, k.output.trans h.output, Nat.le_trans h.size k.size, fun b hb hn => (k.block b (Nat.lt_of_lt_of_le hb h.size) (fun e => by have := hr b e.symm; omega)).trans (h.block b hb hn)⟩
theorem grown_far {w w1 : World} {r : Option Nat} {g : Nat} (h : w.grownBy w1 r) (hg : w.heap.size ≤ g) (i : Nat) (v : Value) : w.grownBy (w1.setCell ⟨g, i, none⟩ v) r := grown_new h (grown_set (grown_refl w1 (some g)) i v) (fun b e => by cases e; exact hg)
theorem grown_wrt {w w1 w2 : World} {r : Option Nat} {f : Fp} (h : w.grownBy w1 r) (k : Wrt f w1 w2) (hf : ∀ b, f b → w.heap.size ≤ b) : w.grownBy w2 r :=
  ⟨k.os.trans h.os, k.tape.trans h.tape, k.output.trans h.output, Nat.le_trans h.size k.size, fun b hb hn => (k.block b (Nat.lt_of_lt_of_le hb h.size) (fun e => by have := hf b e; omega)).trans (h.block b hb hn)⟩
theorem grown_put3 {w w1 : World} {r : Option Nat} {g : Nat} (h : w.grownBy w1 r) (hg : w.heap.size ≤ g) (x y z : Value) : w.grownBy (((w1.setCell ⟨g, 0, none⟩ x).setCell ⟨g, 1, none⟩ y).setCell ⟨g, 2, none⟩ z) r :=
  grown_far (grown_far (grown_far h hg 0 x) hg 1 y) hg 2 z
theorem cc_wrt {w X X' : World} {p : Nat} {a : Option Addr} {len cap : Nat} {bs : Nat → Int} {f : Fp} (h : Cc w X p a len cap bs) (hw : Wrt f X X') (hp : ¬ f p) (hf : ∀ b, f b → w.heap.size ≤ b) : Cc w X' p a len cap bs := by
  have hl := h.cur.lt
  obtain ⟨i, x, hi, hh⟩ := h.cur
  exact ⟨⟨i, x, hi, (hw.block p hl hp).trans hh⟩, h.code, hw.below h.below h.below.size hf, h.off, h.hl, h.hp⟩
theorem D10.step {w X wr w' : World} {p B2 B3 : Nat} {a : Option Addr} {len cap : Nat} {bs : Nat → Int} {N B : Int} {a' : Option Addr} {c : Nat} {H : List (List Int)} {M : Nat} (h : D10 w X wr p B2 B3 a len cap bs N B a' c H M) (hb : Below wr.heap.size wr w') : D10 w X w' p B2 B3 a len cap bs N B a' c H M := by
  obtain ⟨f, h1, h2⟩ := h.own
  exact ⟨h.cc.step hb, grown_trans h.gr (grown_blw hb _), h.res.below hb, h.box.below hb, ⟨f, Cel.ow_below h1 hb, h2⟩, h.lo, Nat.le_trans h.mx hb.size, h.wlo, h.xlo⟩
theorem D10.drawn {w X wr w' : World} {p B2 B3 : Nat} {a : Option Addr} {len cap : Nat} {bs : Nat → Int} {N B : Int} {a' : Option Addr} {c : Nat} {H : List (List Int)} {M : Nat} (h : D10 w X wr p B2 B3 a len cap bs N B a' c H M) (hg : wr.grownBy w' (some p)) (hc : Cc w w' p a len cap bs) : D10 w X w' p B2 B3 a len cap bs N B a' c H M := by
  obtain ⟨f, h1, h2⟩ := h.own
  have hl := h.lo
  exact ⟨hc, grown_trans h.gr hg, h.res.grown hg (by simp; omega), h.box.grown hg (by simp; omega), ⟨f, Cel.ow_wrt h1 (Wrt.of_grown hg) (fun b hb e => by cases e; have := h2 _ hb; omega), h2⟩, h.lo, Nat.le_trans h.mx hg.size, h.wlo, h.xlo⟩
/-- Another relay is put into the block. -/
theorem D10.put2 {w X wr : World} {p B2 B3 : Nat} {a : Option Addr} {len cap : Nat} {bs : Nat → Int} {N B : Int} {a' : Option Addr} {c : Nat} {H : List (List Int)} {M : Nat} (h : D10 w X wr p B2 B3 a len cap bs N B a' c H M) {N2 B2' : Int} {a2 : Option Addr} {c2 : Nat} {H2 : List (List Int)} {f2 : Fp} (h2 : Cel.ow wr (iicl H2) (.slice a2 H2.length c2) f2) (hf2 : ∀ b, f2 b → M ≤ b) :
    D10 w X (((wr.setCell ⟨B3, 0, none⟩ (.int .i64 N2)).setCell ⟨B3, 1, none⟩ (.int .i64 B2')).setCell ⟨B3, 2, none⟩ (.slice a2 H2.length c2)) p B2 B3 a len cap bs N2 B2' a2 c2 H2 wr.heap.size := by
  have hl := h.lo
  have hw := h.wlo
  have hx := h.xlo
  have hbl := h.box.lt
  refine ⟨((h.cc.set (by omega) (by omega) 0 _).set (by omega) (by omega) 1 _).set (by omega) (by omega) 2 _, grown_put3 h.gr (by omega) _ _ _, ((h.res.far (by omega) _).far (by omega) _).far (by omega) _, ((h.box.setC 0 _).setC 1 _).setC 2 _, ⟨f2, Cel.ow_wrt h2 (wrt3 wr B3) (fun b hb' e => by have := hf2 b hb'; omega), fun b hb' => ⟨by have := hf2 b hb'; omega, by have := hf2 b hb'; omega, Cel.ow_lt h2 b hb', by have := hf2 b hb'; omega⟩⟩, ⟨hl.1, hl.2.1, by omega⟩, by simp [World.setCell], h.wlo, h.xlo⟩
theorem D10.put {w X wr w' : World} {p B2 B3 : Nat} {a : Option Addr} {len cap : Nat} {bs : Nat → Int} {N B : Int} {a' : Option Addr} {c : Nat} {H : List (List Int)} {M : Nat} (h : D10 w X wr p B2 B3 a len cap bs N B a' c H M) (hb : Below wr.heap.size wr w') {N2 B2' : Int} {a2 : Option Addr} {c2 : Nat} {H2 : List (List Int)} {f2 : Fp} (h2 : Cel.ow w' (iicl H2) (.slice a2 H2.length c2) f2) (hf2 : ∀ b, f2 b → wr.heap.size ≤ b) :
    D10 w X (((w'.setCell ⟨B3, 0, none⟩ (.int .i64 N2)).setCell ⟨B3, 1, none⟩ (.int .i64 B2')).setCell ⟨B3, 2, none⟩ (.slice a2 H2.length c2)) p B2 B3 a len cap bs N2 B2' a2 c2 H2 w'.heap.size :=
  (h.step hb).put2 h2 (fun b hb' => Nat.le_trans h.mx (hf2 b hb'))
theorem D10.far {w X wr : World} {p B2 B3 : Nat} {a : Option Addr} {len cap : Nat} {bs : Nat → Int} {N B : Int} {a' : Option Addr} {c : Nat} {H : List (List Int)} {M : Nat} (h : D10 w X wr p B2 B3 a len cap bs N B a' c H M) {k : Nat} (hk : M ≤ k) (i : Nat) (v : Value) : D10 w X (wr.setCell ⟨k, i, none⟩ v) p B2 B3 a len cap bs N B a' c H M := by
  obtain ⟨f, h1, h2⟩ := h.own
  have hl := h.lo
  have hw := h.wlo
  have hx := h.xlo
  exact ⟨h.cc.set (by omega) (by omega) i v, grown_far h.gr (by omega) i v, h.res.far (by omega) _, h.box.far (by omega) _, ⟨f, Cel.ow_wrt h1 (Wrt.set wr k i v) (fun b hb e => by have := h2 b hb; omega), h2⟩, h.lo, by simp [World.setCell]; exact h.mx, h.wlo, h.xlo⟩
theorem D10.vv {w X wr : World} {p B2 B3 : Nat} {a : Option Addr} {len cap : Nat} {bs : Nat → Int} {N B : Int} {a' : Option Addr} {c : Nat} {H : List (List Int)} {M : Nat} (h : D10 w X wr p B2 B3 a len cap bs N B a' c H M) (hf : FitsH H) : VV wr a' H.length c H := by
  obtain ⟨f, h1, _⟩ := h.own
  exact vv_of_vw (Cel.ow_vw h1) hf
/-- What Turn answers at a right relay and passes that are right. -/
theorem turnL_yes {N B : Int} {H : List (List Int)} {cs : List Ps} (h : (turnL N B H cs).2 = true) : okRel N B H ∧ turnOk N H cs ∧ turnL N B H cs = ((N, B, outs H cs cs.length), true) := by
  unfold turnL at h ⊢
  split
  · rename_i hk
    exact ⟨hk.1, hk.2, rfl⟩
  · rename_i hk
    rw [if_neg hk] at h
    cases h
/-- The chain's passes are right. -/
theorem chnAt_mem {H : List (List Int)} {k : Nat} {p : Ps} (h : p ∈ chnAt H k) : p.1 = (k : Int) ∧ p.2.1 = (k : Int) + 1 ∧ p.2.2 ∈ row H k := by
  unfold chnAt firstN at h
  split at h
  · rename_i q hq
    simp at h
    subst h
    exact ⟨rfl, rfl, List.mem_of_find?_eq_some hq⟩
  · simp at h
/-- Its first number is put anew. -/
theorem D10.setN {w X wr : World} {p B2 B3 : Nat} {a : Option Addr} {len cap : Nat} {bs : Nat → Int} {N B : Int} {a' : Option Addr} {c : Nat} {H : List (List Int)} {M : Nat} (h : D10 w X wr p B2 B3 a len cap bs N B a' c H M) (x : Int) : D10 w X (wr.setCell ⟨B3, 0, none⟩ (.int .i64 x)) p B2 B3 a len cap bs x B a' c H M := by
  obtain ⟨f, h1, h2⟩ := h.own
  have hl := h.lo
  have hw := h.wlo
  have hx := h.xlo
  exact ⟨h.cc.set (by omega) (by omega) 0 _, grown_far h.gr (by omega) 0 _, h.res.far (by omega) _, h.box.setC 0 _, ⟨f, Cel.ow_wrt h1 (Wrt.set wr B3 0 _) (fun b hb e => by have := h2 b hb; omega), h2⟩, h.lo, by simp [World.setCell]; exact h.mx, h.wlo, h.xlo⟩
/-- One row is put anew. -/
theorem d10_row {w X wr : World} {p B2 B3 : Nat} {a : Option Addr} {len cap : Nat} {bs : Nat → Int} {N B : Int} {a' : Option Addr} {c : Nat} {H : List (List Int)} {M t : Nat} (h : D10 w X wr p B2 B3 a len cap bs N B a' c H M) (ht : t < H.length) :
    ∃ g off at' ct ft, a' = some ⟨g, off, none⟩ ∧ wr.cell? ⟨g, off + t, none⟩ = some (.slice at' (row H t).length ct) ∧ wr.frozen? ⟨g, off + t, none⟩ = false ∧ (B3 ≠ g ∧ B2 < g ∧ g < M ∧ g ≠ p) ∧ Cel.ow wr (icl (row H t)) (.slice at' (row H t).length ct) ft ∧ (∀ b, ft b → B2 < b ∧ b ≠ B3 ∧ b ≠ g ∧ b < M ∧ b ≠ p) ∧
      ∀ (w4 : World) (R : List Int) (v' : Value) (f' : Fp), Cc w w4 p a len cap bs → Wrt (fun b => b = p ∨ ft b) wr w4 → Cel.ow w4 (icl R) v' f' → (∀ b, f' b → ft b ∨ wr.heap.size ≤ b) → w4.cell? ⟨g, off + t, none⟩ = some (.slice at' (row H t).length ct) ∧ w4.frozen? ⟨g, off + t, none⟩ = false ∧ w4.cell? ⟨B3, 2, none⟩ = some (.slice a' H.length c) ∧ D10 w X (w4.setCell ⟨g, off + t, none⟩ v') p B2 B3 a len cap bs N B a' c (H.set t R) w4.heap.size := by
  obtain ⟨F, hO, hF⟩ := h.own
  obtain ⟨a0, c0, us, G, f, e0, hs, hL, hG, hf⟩ := hO
  cases e0
  obtain ⟨u, ft, hu, hcu, hsub, hput⟩ := owL_at hL (map_row ht)
  have hcu' := hcu
  obtain ⟨at', ct, Gt, rfl, hst, hft⟩ := ow_icl.1 hcu
  rcases hs with ⟨h0, _⟩ | ⟨g, off, rfl, hs, rfl⟩
  · omega
  have hg := hF g ((hf g).2 (.inl rfl))
  have hl := h.lo
  have hx := h.xlo
  have hw0 := h.wlo
  have hmx := h.mx
  have hgf : ¬ f g := hG g rfl
  have hcell : wr.cell? ⟨g, off + t, none⟩ = some (.slice at' (row H t).length ct) := (hs.cell t (by omega)).trans hu
  have hfr : wr.frozen? ⟨g, off + t, none⟩ = false := hs.free t (by have := hs.le; omega)
  have hftF : ∀ b, ft b → B2 < b ∧ b ≠ B3 ∧ b ≠ g ∧ b < M ∧ b ≠ p := fun b hb => by
    have h1 := hF b ((hf b).2 (.inr (hsub b hb)))
    exact ⟨h1.1, h1.2.1, fun e => hgf (e ▸ hsub b hb), h1.2.2.1, h1.2.2.2⟩
  refine ⟨g, off, at', ct, ft, rfl, hcell, hfr, ⟨fun e => hg.2.1 e.symm, hg.1, hg.2.2.1, hg.2.2.2⟩, hcu', hftF, fun w4 R v' f' hcc4 h4 hR hf' => ?_⟩
  have h4g : ¬ (fun b => b = p ∨ ft b) g := fun e => by
    rcases e with e | e
    · omega
    · exact (hftF g e).2.2.1 rfl
  have hs4 := osl_wrt hs h4 h4g
  have hu4 : w4.cell? ⟨g, off + t, none⟩ = some (.slice at' (row H t).length ct) := (hs4.cell t (by omega)).trans hu
  have hlt : ∀ b, f b → b < wr.heap.size := owL_lt hL
  have hfB3 : ¬ (fun b => b = p ∨ ft b) B3 := fun e => by
    rcases e with e | e
    · omega
    · exact (hftF B3 e).2.1 rfl
  have hfB2 : ¬ (fun b => b = p ∨ ft b) B2 := fun e => by
    rcases e with e | e
    · omega
    · have := (hftF B2 e).1; omega
  have box4 := h.box.wrt h4 hfB3
  have res4 := h.res.wrt h4 hfB2
  refine ⟨hu4, hs4.free t (by have := hs.le; omega), box4.at 2 rfl, ?_⟩
  have hw : Wrt (fun b => b = g) w4 (w4.setCell ⟨g, off + t, none⟩ v') := Wrt.set w4 g (off + t) v'
  have hf'g : ¬ f' g := fun h => by
    rcases hf' g h with h | h
    · exact hgf (hsub g h)
    · have := hs.blk; omega
  have hk := hput (w4.setCell ⟨g, off + t, none⟩ v') (icl R) v' f' (by have := h4.size; simp [World.setCell]; omega) (Cel.ow_wrt hR hw (fun b hb h => hf'g (h ▸ hb)))
    (fun b hb hnb => by
      have e1 := hw.block b (Nat.lt_of_lt_of_le (hlt b hb) h4.size) (fun h => hgf (h ▸ hb))
      rw [e1]
      refine h4.block b (hlt b hb) (fun e => ?_)
      rcases e with e | e
      · have := hF b ((hf b).2 (.inr hb)); omega
      · exact hnb e)
    (fun b hb hb2 => by
      rcases hf' b hb with h | h
      · exact h
      · have := hlt b hb2; omega)
  have hgr : X.grownBy w4 (some p) := ⟨h4.os.trans h.gr.os, h4.tape.trans h.gr.tape, h4.output.trans h.gr.output, Nat.le_trans h.gr.size h4.size, fun b hb hn => (h4.block b (Nat.lt_of_lt_of_le hb h.gr.size) (fun e => by
    rcases e with e | e
    · exact hn (by rw [e])
    · have := (hftF b e).1; omega)).trans (h.gr.block b hb hn)⟩
  have hsz := h4.size
  have hgl := hs.blk
  have hB3l := h.box.lt
  refine ⟨hcc4.set (by omega) (by omega) _ _, grown_far hgr (by omega) _ _, res4.far (by omega) _, ?_, ⟨fun b => some g = some b ∨ f' b ∨ f b ∧ ¬ ft b, ?_, fun b hb => ?_⟩, ⟨hl.1, hl.2.1, by omega⟩, by simp [World.setCell], h.wlo, h.xlo⟩
  · rw [List.length_set]
    exact box4.far (by omega) _
  · unfold iicl
    rw [List.length_set]
    refine ⟨_, c, us.set t v', some g, fun b => f' b ∨ f b ∧ ¬ ft b, rfl, OSo.of (osl_put hs4 (by omega) v'), ?_, fun b hb h => ?_, fun b => Iff.rfl⟩
    · rw [List.map_set]
      exact hk
    · cases hb
      rcases h with h | ⟨h, _⟩
      · exact hf'g h
      · exact hgf h
  · have hlim : ∀ b, f b → B2 < b ∧ b ≠ B3 ∧ b < w4.heap.size ∧ b ≠ p := fun b hb => by
      have := hF b ((hf b).2 (.inr hb))
      have := hlt b hb
      omega
    rcases hb with hb | hb | ⟨hb, _⟩
    · cases hb; exact ⟨hg.1, hg.2.1, by omega, hg.2.2.2⟩
    · have hlb := Cel.ow_lt hR b hb
      rcases hf' b hb with h | h
      · exact hlim b (hsub b h)
      · exact ⟨by omega, by omega, hlb, by omega⟩
    · exact hlim b hb
/-- A row without its first number. -/
theorem ow_tail {w : World} {x : Int} {xs : List Int} {g off c : Nat} {f : Fp} (h : Cel.ow w (icl (x :: xs)) (.slice (some ⟨g, off, none⟩) (x :: xs).length c) f) :
    (c = 1 → Cel.ow w (icl xs) (.slice (some ⟨g, off, none⟩) 0 0) (fun _ => False) ∧ xs = []) ∧ (1 < c → Cel.ow w (icl xs) (.slice (some ⟨g, off + 1, none⟩) xs.length (c - 1)) f) := by
  obtain ⟨a0, c0, G, e, ho, hf⟩ := ow_icl.1 h
  cases e
  rcases ho with ⟨h0, _⟩ | ⟨g0, off0, e, ho, rfl⟩
  · simp at h0
  · cases e
    have hle := ho.le
    have hlen : (x :: xs).length = xs.length + 1 := rfl
    rw [hlen] at hle
    refine ⟨fun hc => ?_, fun hc => ow_icl.2 ⟨_, _, some g, rfl, OSo.of ?_, hf⟩⟩
    · have : xs = [] := List.eq_nil_of_length_eq_zero (by omega)
      subst this
      exact ⟨ow_icl.2 ⟨_, _, none, rfl, OSo.nil _ _ (plainS _ _), fun b => by simp⟩, rfl⟩
    · refine ⟨by simp, by omega, by have := ho.max; omega, ho.blk, fun i hi => ?_, fun i hi => ?_, fun i hi => ?_⟩
      · have := ho.cell (i + 1) (by rw [hlen]; omega)
        rw [show off + 1 + i = off + (i + 1) by omega, this]
        simp
      · have := ho.some (i + 1) (by omega)
        rwa [show off + 1 + i = off + (i + 1) by omega]
      · have := ho.free (i + 1) (by omega)
        rwa [show off + 1 + i = off + (i + 1) by omega]
/-- What stands when a relay has been asked for by one pass: a relay x in a block of its own. -/
def X10 (w X wx : World) (p B2 B3 : Nat) (a : Option Addr) (len cap : Nat) (bs : Nat → Int) (N B : Int) (a' : Option Addr) (c : Nat) (H : List (List Int)) (M : Nat) (s6 s7 : Value) : Prop :=
  ∃ (xb : Nat) (N2 B2' : Int) (a2 : Option Addr) (c2 : Nat) (H2 : List (List Int)) (t : Bool) (f2 : Fp), s6 = .pointer (some ⟨xb, 0, none⟩) ∧ s7 = .bool t ∧ D10 w X wx p B2 B3 a len cap bs N B a' c H M ∧ Bx wx xb 35 #[.int .i64 N2, .int .i64 B2', .slice a2 H2.length c2] ∧
    Cel.ow wx (iicl H2) (.slice a2 H2.length c2) f2 ∧ (∀ b, f2 b → M ≤ b) ∧ (t = true → okRel N2 B2' H2)
theorem x10_set {w X V4 : World} {p B2 B3 : Nat} {a : Option Addr} {len cap : Nat} {bs : Nat → Int} {N B : Int} {a' : Option Addr} {c : Nat} {H : List (List Int)} {M : Nat} (h : D10 w X V4 p B2 B3 a len cap bs N B a' c H M) {xb : Nat} (q4 : Bx V4 xb 35 #[.int .i64 0, .int .i64 0, .slice none 0 0]) (hxb : M ≤ xb)
    {N2 B2' : Int} {a2 : Option Addr} {c2 : Nat} {H2 : List (List Int)} {f2 : Fp} {t : Bool} (ho : Cel.ow V4 (iicl H2) (.slice a2 H2.length c2) f2) (hf : ∀ b, f2 b → xb < b) (hok : t = true → okRel N2 B2' H2) :
    X10 w X (((V4.setCell ⟨xb, 0, none⟩ (.int .i64 N2)).setCell ⟨xb, 1, none⟩ (.int .i64 B2')).setCell ⟨xb, 2, none⟩ (.slice a2 H2.length c2)) p B2 B3 a len cap bs N B a' c H M (.pointer (some ⟨xb, 0, none⟩)) (.bool t) :=
  ⟨xb, N2, B2', a2, c2, H2, t, f2, rfl, rfl, ((h.far hxb 0 _).far hxb 1 _).far hxb 2 _, ((q4.setC 0 _).setC 1 _).setC 2 _, Cel.ow_wrt ho (wrt3 V4 xb) (fun b hb e => by have := hf b hb; omega), fun b hb => by have := hf b hb; omega, hok⟩
theorem x10_new {w X V4 : World} {p B2 B3 : Nat} {a : Option Addr} {len cap : Nat} {bs : Nat → Int} {N B : Int} {a' : Option Addr} {c : Nat} {H : List (List Int)} {M : Nat} (h : D10 w X V4 p B2 B3 a len cap bs N B a' c H M)
    {N2 B2' : Int} {a2 : Option Addr} {c2 : Nat} {H2 : List (List Int)} {f2 : Fp} {t : Bool} (ho : Cel.ow V4 (iicl H2) (.slice a2 H2.length c2) f2) (hf : ∀ b, f2 b → M ≤ b) (hok : t = true → okRel N2 B2' H2) :
    X10 w X (V4.alloc (.cells #[.int .i64 N2, .int .i64 B2', .slice a2 H2.length c2] 35)) p B2 B3 a len cap bs N B a' c H M (.pointer (some ⟨V4.heap.size, 0, none⟩)) (.bool t) :=
  ⟨V4.heap.size, N2, B2', a2, c2, H2, t, f2, rfl, rfl, h.step (one_alloc10 _ _), Bx.new _ _ _, Cel.ow_below ho (one_alloc10 _ _), hf, hok⟩
theorem turnL_ok {N B : Int} {H : List (List Int)} {cs : List Ps} (h : (turnL N B H cs).2 = true) : okRel (turnL N B H cs).1.1 (turnL N B H cs).1.2.1 (turnL N B H cs).1.2.2 := by
  obtain ⟨h1, h2, h3⟩ := turnL_yes h
  rw [h3]
  exact outs_ok h1 h2 _ (Nat.le_refl _)
end Go.Proofs.Ytdniajogojlmdaa
