/-
  Several texts in one: Rdk.
-/
import Derived.Test.YtgaibngaincahaaMs
import Derived.Test.YtgaibngaincahaaMp
import Derived.Test.YtgaibngaincahaaJp
/-
  What l16Draw holds: a row under way.
-/
namespace Go.Proofs.Ytgaibngaincahaa
set_option linter.unusedVariables false
set_option linter.unusedSimpArgs false
open Go.RowKit Go.Sort

/-- What a drawn row is like. -/
structure SmR (r : Rw) : Prop where
  ver : -10 ≤ r.ver ∧ r.ver ≤ 1000020
  tl : r.txt.length ≤ 20
  ts : ∀ i, i < r.txt.length → (r.txt.getD i []).length ≤ 21
  gl : r.got.length ≤ 16
  gf : Fits r.got
  sl : r.sus.length ≤ 16
  sf : Fits r.sus
  ml : r.trm.length ≤ 16
  mf : Fits r.trm
  bys : -1 ≤ r.by_ ∧ r.by_ ≤ 7
def zeroRc : Array Value := #[.int .i64 0, .slice none 0 0, .slice none 0 0, .slice none 0 0, .bool false, .bool false, .int .i64 0, .slice none 0 0]
/-- What a draw of a row holds. -/
def RD (w X Y : World) (p : Nat) (a : Option Addr) (len cap : Nat) (bs : Nat → Int) (o : Nat) (Zr : Array Value) (A : Ra) (r : Rw) (fp : Fp) : Prop := SD w X Y p a len cap bs 35 o Zr (rwC A r) (rwCels r) (rwVals A r) fp
section
variable {w X Y Y' : World} {p : Nat} {a : Option Addr} {len cap : Nat} {bs : Nat → Int} {o : Nat} {Zr : Array Value} {A : Ra} {r : Rw} {fp : Fp}
theorem RD.drawn (h : RD w X Y p a len cap bs o Zr A r fp) (hg : Y.grownBy Y' (some p)) (hc : Cc w Y' p a len cap bs) : RD w X Y' p a len cap bs o Zr A r fp := SD.drawn h hg hc
theorem RD.step (h : RD w X Y p a len cap bs o Zr A r fp) (hb : Below Y.heap.size Y Y') : RD w X Y' p a len cap bs o Zr A r fp := SD.step h hb
theorem RD.drewN (h : RD w X Y p a len cap bs o Zr A r fp) (n : Nat) : RD w X (Y.drewN n) p a len cap bs o Zr A r fp := SD.drewN h n
theorem RD.c8 (h : RD w X Y p a len cap bs o Zr A r fp) : (Y.cell? ⟨o, 0, none⟩ = some (.int .i64 r.ver) ∧ Y.cell? ⟨o, 1, none⟩ = some (.slice A.ta r.txt.length A.tc) ∧ Y.cell? ⟨o, 2, none⟩ = some (.slice A.ga r.got.length A.gc) ∧ Y.cell? ⟨o, 3, none⟩ = some (.slice A.sa r.sus.length A.sc)) ∧ Y.cell? ⟨o, 4, none⟩ = some (.bool r.wed) ∧ Y.cell? ⟨o, 5, none⟩ = some (.bool r.rdy) ∧ Y.cell? ⟨o, 6, none⟩ = some (.int .i64 r.by_) ∧ Y.cell? ⟨o, 7, none⟩ = some (.slice A.ma r.trm.length A.mc) := Bx.r8 h.own
theorem RD.ver (h : RD w X Y p a len cap bs o Zr A r fp) (x : Int) : RD w X (Y.setCell ⟨o, 0, none⟩ (.int .i64 x)) p a len cap bs o Zr A { r with ver := x } fp := SD.set h 0 (.int .i64 x)
theorem RD.wed (h : RD w X Y p a len cap bs o Zr A r fp) (x : Bool) : RD w X (Y.setCell ⟨o, 4, none⟩ (.bool x)) p a len cap bs o Zr A { r with wed := x } fp := SD.set h 4 (.bool x)
theorem RD.rdy (h : RD w X Y p a len cap bs o Zr A r fp) (x : Bool) : RD w X (Y.setCell ⟨o, 5, none⟩ (.bool x)) p a len cap bs o Zr A { r with rdy := x } fp := SD.set h 5 (.bool x)
theorem RD.by_ (h : RD w X Y p a len cap bs o Zr A r fp) (x : Int) : RD w X (Y.setCell ⟨o, 6, none⟩ (.int .i64 x)) p a len cap bs o Zr A { r with by_ := x } fp := SD.set h 6 (.int .i64 x)
/-- New lists. -/
theorem RD.got (h : RD w X Y p a len cap bs o Zr A r fp) {a' : Option Addr} {c' : Nat} {Z : List Int} {f' : Fp} (hc : Cel.ow Y (icl Z) (.slice a' Z.length c') f') (hf : ∀ b, f' b → X.heap.size < b ∧ b ≠ o) (hd : ∀ b, f' b → ¬ fp b) : ∃ fp', RD w X (Y.setCell ⟨o, 2, none⟩ (.slice a' Z.length c')) p a len cap bs o Zr { A with ga := a', gc := c' } { r with got := Z } fp' := by
  obtain ⟨fp', h1⟩ := SD.new h (j := 1) rfl hc hf hd
  exact ⟨fp', SD.set h1 2 (.slice a' Z.length c')⟩
theorem RD.sus (h : RD w X Y p a len cap bs o Zr A r fp) {a' : Option Addr} {c' : Nat} {Z : List Int} {f' : Fp} (hc : Cel.ow Y (icl Z) (.slice a' Z.length c') f') (hf : ∀ b, f' b → X.heap.size < b ∧ b ≠ o) (hd : ∀ b, f' b → ¬ fp b) : ∃ fp', RD w X (Y.setCell ⟨o, 3, none⟩ (.slice a' Z.length c')) p a len cap bs o Zr { A with sa := a', sc := c' } { r with sus := Z } fp' := by
  obtain ⟨fp', h1⟩ := SD.new h (j := 2) rfl hc hf hd
  exact ⟨fp', SD.set h1 3 (.slice a' Z.length c')⟩
theorem RD.trm (h : RD w X Y p a len cap bs o Zr A r fp) {a' : Option Addr} {c' : Nat} {Z : List Int} {f' : Fp} (hc : Cel.ow Y (icl Z) (.slice a' Z.length c') f') (hf : ∀ b, f' b → X.heap.size < b ∧ b ≠ o) (hd : ∀ b, f' b → ¬ fp b) : ∃ fp', RD w X (Y.setCell ⟨o, 7, none⟩ (.slice a' Z.length c')) p a len cap bs o Zr { A with ma := a', mc := c' } { r with trm := Z } fp' := by
  obtain ⟨fp', h1⟩ := SD.new h (j := 3) rfl hc hf hd
  exact ⟨fp', SD.set h1 7 (.slice a' Z.length c')⟩
theorem RD.txt (h : RD w X Y p a len cap bs o Zr A r fp) {a' : Option Addr} {c' : Nat} {Z : List (List UInt8)} {f' : Fp} (hc : Cel.ow Y (scl Z) (.slice a' Z.length c') f') (hf : ∀ b, f' b → X.heap.size < b ∧ b ≠ o) (hd : ∀ b, f' b → ¬ fp b) : ∃ fp', RD w X (Y.setCell ⟨o, 1, none⟩ (.slice a' Z.length c')) p a len cap bs o Zr { A with ta := a', tc := c' } { r with txt := Z } fp' := by
  obtain ⟨fp', h1⟩ := SD.new h (j := 0) rfl hc hf hd
  exact ⟨fp', SD.set h1 1 (.slice a' Z.length c')⟩
/-- The lists, to be read. -/
theorem RD.owI (h : RD w X Y p a len cap bs o Zr A r fp) : ∃ f1 f2 f3 f4, Cel.ow Y (scl r.txt) (.slice A.ta r.txt.length A.tc) f1 ∧ Cel.ow Y (icl r.got) (.slice A.ga r.got.length A.gc) f2 ∧ Cel.ow Y (icl r.sus) (.slice A.sa r.sus.length A.sc) f3 ∧ Cel.ow Y (icl r.trm) (.slice A.ma r.trm.length A.mc) f4 := by
  obtain ⟨u1, us1, f1, g1, e1, o1, h2, _⟩ := h.ls
  cases e1
  obtain ⟨u2, us2, f2, g2, e2, o2, h3, _⟩ := h2
  cases e2
  obtain ⟨u3, us3, f3, g3, e3, o3, h4, _⟩ := h3
  cases e3
  obtain ⟨u4, us4, f4, g4, e4, o4, h5, _⟩ := h4
  cases e4
  exact ⟨f1, f2, f3, f4, o1, o2, o3, o4⟩
/-- A number of Got is stored. -/
theorem RD.gotAt (h : RD w X Y p a len cap bs o Zr A r fp) {i : Nat} (hi : i < r.got.length) : ∃ g off, A.ga = some ⟨g, off, none⟩ ∧ (Y.cell? ⟨g, off + i, none⟩ = some (.int .i64 (el r.got i)) ∧ Y.frozen? ⟨g, off + i, none⟩ = false) ∧
    ∀ x : Int, ∃ fp', RD w X (Y.setCell ⟨g, off + i, none⟩ (.int .i64 x)) p a len cap bs o Zr A { r with got := r.got.set i x } fp' := by
  obtain ⟨u, f, hu, hc, hs, hp⟩ := SD.at h (j := 1) rfl
  cases hu
  obtain ⟨a', c', G, e, ho, hf⟩ := ow_icl.1 hc
  cases e
  rcases ho.oi with ⟨e, _, _⟩ | ⟨g, off, e1, ho', e2⟩
  · rw [e] at hi; exact absurd hi (Nat.not_lt_zero _)
  · have hle := ho'.le
    refine ⟨g, off, e1, ⟨?_, ho'.free i (by omega)⟩, fun x => ?_⟩
    · have := ho'.cell i (by omega)
      rw [this]
      simp [el, hi]
    · subst e2
      have hset := num_set ho' hi x
      have := hp (Y.setCell ⟨g, off + i, none⟩ (.int .i64 x)) (icl (r.got.set i x)) (.slice A.ga (r.got.set i x).length A.gc) f ((Wrt.set Y g (off + i) _).mono (fun b _ e => (hf b).2 (by rw [e]))) (ow_icl.2 ⟨_, _, some g, rfl, by rw [List.length_set, e1]; exact OSo.of hset, hf⟩) (fun b hb => .inl hb)
      obtain ⟨fp', h1⟩ := this
      refine ⟨fp', ?_⟩
      have e3 : rwC A { r with got := r.got.set i x } = rwC A r := by simp [rwC]
      unfold RD
      rw [e3]
      exact h1
/-- One more text is appended and stored. -/
theorem RD.app (h : RD w X Y p a len cap bs o Zr A r fp) (i0 : TypeInfo) (hi0 : Try.prog.info? 9 = some i0) (hz0 : i0.zero = some (.string ⟨#[]⟩)) (hz1 : i0.size = 1) (hz2 : i0.bytes = 16) (s : List UInt8) (hl : r.txt.length ≤ 1000) :
    ∀ Z, Same Z (Y.alloc (.cells #[.string (sv s)] 9)) → ∃ v' w4, (Builtin.append_ #[33, 33] 33 #[.slice A.ta r.txt.length A.tc, .slice (some ⟨Y.heap.size, 0, none⟩) 1 1]).run Try.prog Z = .ok v' w4 ∧
      ∃ a' c', v' = .slice a' (r.txt.length + 1) c' ∧ w4.cell? ⟨o, 1, none⟩ = some (.slice A.ta r.txt.length A.tc) ∧ w4.frozen? ⟨o, 1, none⟩ = false ∧ ∃ fp', RD w X (w4.setCell ⟨o, 1, none⟩ (.slice a' (r.txt.length + 1) c')) p a len cap bs o Zr { A with ta := a', tc := c' } { r with txt := r.txt ++ [s] } fp' := by
  intro Z hZ
  have hbZ : Below Y.heap.size Y Z := (oneA16 Y _).trans (hZ.below.mono (oneA16 Y _).size)
  have hD := h.step hbZ
  obtain ⟨u, f, hu, hc, hs, hp⟩ := SD.at hD (j := 0) rfl
  cases hu
  obtain ⟨ta', tc', G, e, ho, hf⟩ := ow_scl.1 hc
  cases e
  have hnew : Z.heap[Y.heap.size]? = some (.cells #[.string (sv s)] 9) := by rw [hZ.heap]; exact heap_alloc_new Y _
  obtain ⟨a', c', G', w4, hr, ho', hg, hat⟩ := run_append_oo (P := Try.prog) Z 33 33 9 i0 _ 1 16 Try.underlying33 hi0 hz0 hz1 hz2 rfl (by omega) A.ta r.txt.length A.tc (svs r.txt) G ho (some ⟨Y.heap.size, 0, none⟩) 1 1 [.string (sv s)] rfl (.inr ⟨_, rfl, World.news_of_block (cs := #[.string (sv s)]) (t := 9) (fr := (0, 0)) hnew⟩) (by simp [Value.oneCell']) (by unfold maxLen; omega) (by omega)
  have hw4 : Wrt f Z w4 := (Wrt.of_grown hg).mono (fun b _ e => (hf b).2 e)
  have hno : ¬ f o := fun e => (hD.fpl o (hs o e)).2 rfl
  have k0 := hD.own.wrt hw4 hno
  have elen : (r.txt ++ [s]).length = r.txt.length + 1 := by simp
  obtain ⟨fp', h1⟩ := hp w4 (scl (r.txt ++ [s])) (.slice a' (r.txt.length + 1) c') (fun b => G' = some b) hw4 (ow_scl.2 ⟨a', c', G', by rw [elen], by rw [svs_app, elen]; exact ho', fun b => Iff.rfl⟩) (fun b hb => by
    rcases hat with e | e
    · exact .inl ((hf b).2 (e ▸ hb))
    · rw [e] at hb; cases hb; exact .inr (Nat.le_refl _))
  refine ⟨_, w4, hr, a', c', rfl, k0.at 1 rfl, k0.f 1, fp', ?_⟩
  have h2 := SD.set h1 1 (.slice a' (r.txt.length + 1) c')
  unfold RD
  have e1 : rwC { A with ta := a', tc := c' } { r with txt := r.txt ++ [s] } = (rwC A r).setIfInBounds 1 (.slice a' (r.txt.length + 1) c') := by simp [rwC]
  have e2 : rwVals { A with ta := a', tc := c' } { r with txt := r.txt ++ [s] } = (rwVals A r).set 0 (.slice a' (r.txt.length + 1) c') := by simp [rwVals]
  rw [e1, e2]
  exact h2
theorem RD.ans (h : RD w X Y p a len cap bs o Zr A r fp) {x0 x1 x2 x3 x4 x5 x6 x7 : Value} : owL ((((((((Y.setCell ⟨X.heap.size, 0, none⟩ x0).setCell ⟨X.heap.size, 1, none⟩ x1).setCell ⟨X.heap.size, 2, none⟩ x2).setCell ⟨X.heap.size, 3, none⟩ x3).setCell ⟨X.heap.size, 4, none⟩ x4).setCell ⟨X.heap.size, 5, none⟩ x5).setCell ⟨X.heap.size, 6, none⟩ x6).setCell ⟨X.heap.size, 7, none⟩ x7) (rwCels r) (rwVals A r) fp ∧ (∀ b, fp b → X.heap.size ≤ b) ∧ Cc w ((((((((Y.setCell ⟨X.heap.size, 0, none⟩ x0).setCell ⟨X.heap.size, 1, none⟩ x1).setCell ⟨X.heap.size, 2, none⟩ x2).setCell ⟨X.heap.size, 3, none⟩ x3).setCell ⟨X.heap.size, 4, none⟩ x4).setCell ⟨X.heap.size, 5, none⟩ x5).setCell ⟨X.heap.size, 6, none⟩ x6).setCell ⟨X.heap.size, 7, none⟩ x7) p a len cap bs ∧ X.grownBy ((((((((Y.setCell ⟨X.heap.size, 0, none⟩ x0).setCell ⟨X.heap.size, 1, none⟩ x1).setCell ⟨X.heap.size, 2, none⟩ x2).setCell ⟨X.heap.size, 3, none⟩ x3).setCell ⟨X.heap.size, 4, none⟩ x4).setCell ⟨X.heap.size, 5, none⟩ x5).setCell ⟨X.heap.size, 6, none⟩ x6).setCell ⟨X.heap.size, 7, none⟩ x7) (some p) := SD.ans h (wrt8 Y X.heap.size)
theorem RD.r8 (h : RD w X Y p a len cap bs o zeroRc A r fp) : (Y.cell? ⟨X.heap.size, 0, none⟩ = some (.int .i64 0) ∧ Y.cell? ⟨X.heap.size, 1, none⟩ = some (.slice none 0 0) ∧ Y.cell? ⟨X.heap.size, 2, none⟩ = some (.slice none 0 0) ∧ Y.cell? ⟨X.heap.size, 3, none⟩ = some (.slice none 0 0)) ∧ Y.cell? ⟨X.heap.size, 4, none⟩ = some (.bool false) ∧ Y.cell? ⟨X.heap.size, 5, none⟩ = some (.bool false) ∧ Y.cell? ⟨X.heap.size, 6, none⟩ = some (.int .i64 0) ∧ Y.cell? ⟨X.heap.size, 7, none⟩ = some (.slice none 0 0) := Bx.r8 h.res
theorem RD.f8 (h : RD w X Y p a len cap bs o Zr A r fp) : (Y.frozen? ⟨X.heap.size, 0, none⟩ = false ∧ Y.frozen? ⟨X.heap.size, 1, none⟩ = false ∧ Y.frozen? ⟨X.heap.size, 2, none⟩ = false ∧ Y.frozen? ⟨X.heap.size, 3, none⟩ = false) ∧ Y.frozen? ⟨X.heap.size, 4, none⟩ = false ∧ Y.frozen? ⟨X.heap.size, 5, none⟩ = false ∧ Y.frozen? ⟨X.heap.size, 6, none⟩ = false ∧ Y.frozen? ⟨X.heap.size, 7, none⟩ = false := Bx.f8 h.res
theorem RD.fo (h : RD w X Y p a len cap bs o Zr A r fp) (i : Nat) : Y.frozen? ⟨o, i, none⟩ = false := h.own.f i
end
/-- Trim is a copy of Got. -/
theorem RD.copyT {w X Y : World} {p : Nat} {a : Option Addr} {len cap : Nat} {bs : Nat → Int} {o : Nat} {Zr : Array Value} {A : Ra} {r : Rw} {fp : Fp} (h : RD w X Y p a len cap bs o Zr A r fp) (hf : Fits r.got) (hl : r.got.length ≤ 1000) (i0 : TypeInfo) (hi0 : Try.prog.info? 2 = some i0) (hz0 : i0.zero = some (.int .i64 0)) (hz1 : i0.size = 1) (hz2 : i0.bytes = 8) :
    ∀ Z, Same Z (Y.alloc (.cells #[] 2)) → ∃ v' w4, (Builtin.append_ #[24, 24] 24 #[.slice (some ⟨Y.heap.size, 0, none⟩) 0 0, .slice A.ga r.got.length A.gc]).run Try.prog Z = .ok v' w4 ∧
      ∃ a' c', v' = .slice a' r.got.length c' ∧ w4.cell? ⟨o, 7, none⟩ = some (.slice A.ma r.trm.length A.mc) ∧ w4.frozen? ⟨o, 7, none⟩ = false ∧ ∃ fp', RD w X (w4.setCell ⟨o, 7, none⟩ (.slice a' r.got.length c')) p a len cap bs o Zr { A with ma := a', mc := c' } { r with trm := r.got } fp' := by
  intro Z hZ
  have hbZ : Below Y.heap.size Y Z := (oneA16 Y _).trans (hZ.below.mono (oneA16 Y _).size)
  have hD := h.step hbZ
  obtain ⟨_, f2, _, _, _, ho2, _, _⟩ := hD.owI
  obtain ⟨a6, c6, w6, fp6, hr6, ho6, hw6, hf6⟩ := ints_copied (P := Try.prog) (w := Z) 24 24 2 i0 Try.underlying24 hi0 hz0 hz1 hz2 (plainS Y.heap.size 0) (x := A.ga) (c := A.gc) (ow_vcp ho2 hf).vec (by omega)
  have hb6 : Below Z.heap.size Z w6 := hw6.below (Below.refl _ _) (Nat.le_refl _) (fun b h => absurd h id)
  have hE := hD.step hb6
  have hol := hD.own.lt
  have hXo := h.ho
  obtain ⟨fp', h2⟩ := RD.trm hE (a' := a6) (c' := c6) (Z := r.got) ho6 (fun b hb => by have := hf6 b hb; omega) (fun b hb hfp => by have := hf6 b hb; have := owL_lt hD.ls b hfp; omega)
  exact ⟨_, w6, hr6, a6, c6, rfl, hE.c8.2.2.2.2, hE.fo 7, fp', h2⟩
/-- A number is put into Suspects: what l1Put answers. -/
theorem RD.putS {w X Y : World} {p : Nat} {a : Option Addr} {len cap : Nat} {bs : Nat → Int} {o : Nat} {Zr : Array Value} {A : Ra} {r : Rw} {fp : Fp} (h : RD w X Y p a len cap bs o Zr A r fp) (hf : Fits r.sus) (hl : r.sus.length ≤ 100) (n : Int) :
    Calls Try.prog 87 #[.slice A.sa r.sus.length A.sc, .int .i64 n] Y fun e w' => ∃ a' c', e = .returned (.slice a' (putL r.sus n).length c') ∧ Below Y.heap.size Y w' ∧ ∃ fp', RD w X (w'.setCell ⟨o, 3, none⟩ (.slice a' (putL r.sus n).length c')) p a len cap bs o Zr { A with sa := a', sc := c' } { r with sus := putL r.sus n } fp' := by
  obtain ⟨_, _, f3, _, _, _, ho3, _⟩ := h.owI
  have hv := ow_vcp ho3 hf
  refine (putO_any A.sa A.sc r.sus n Y hv.vec hv.nn hv.le hv.mx (by omega) hv.pl).mono ?_
  rintro e w' (⟨rfl, h1, rfl⟩ | hA)
  · refine ⟨A.sa, A.sc, by rw [h1], Below.refl _ _, fp, ?_⟩
    have h2 := SD.set h 3 (.slice A.sa r.sus.length A.sc)
    have e1 : (rwC A r).setIfInBounds 3 (.slice A.sa r.sus.length A.sc) = rwC A r := by simp [rwC]
    rw [e1] at h2
    rw [h1]
    exact h2
  · obtain ⟨g, off, c, rfl, hg, ho, hb⟩ := hA
    have hD := h.step hb
    have hol := h.own.lt
    have hXo := h.ho
    obtain ⟨fp', h2⟩ := RD.sus hD (a' := some ⟨g, off, none⟩) (c' := c) (Z := putL r.sus n) (f' := fun b => b = g) (ow_icl.2 ⟨_, c, some g, rfl, OSo.of ho, fun b => by simp [eq_comm]⟩) (fun b hb => by omega) (fun b hb hfp => by have := owL_lt h.ls b hfp; omega)
    exact ⟨_, c, rfl, hb, fp', h2⟩
end Go.Proofs.Ytgaibngaincahaa
