/-
  Several texts in one: Lgj.
-/
import Derived.Test.YtbnpliobigjapaaDoorKy
import Derived.Test.YtbnpliobigjapaaDoorIw
import Derived.Test.YtbnpliobigjapaaDoorGt
import Derived.Deep.RegionHeld3
/-
  The kit of stage 12's draws: what l12Draw holds, and one more text.
-/
namespace Go.Proofs.YtbnpliobigjapaaDoor
set_option linter.unusedVariables false
set_option linter.unusedSimpArgs false
open Go.RowKit Go.Sort

theorem textG (most : Nat) (n : Int) (hn : n = (most : Int)) (hm : most ≤ 1000) {w X : World} {p : Nat} {a : Option Addr} {len cap : Nat} {bs : Nat → Int} (h : Cc w X p a len cap bs) :
    Calls Tryd.prog 32 #[.pointer (some ⟨p, 0, none⟩), .int .i64 n] X fun e w' => ∃ l : List UInt8, e = .returned (.string (sv l)) ∧ l.length ≤ most ∧ Cc w w' p a len cap bs ∧ X.grownBy w' (some p) := by
  subst hn
  refine (drawText_any p a len cap bs most X h.cur h.bvec h.off h.hl hm).mono ?_
  rintro e w' ⟨l, h1, rfl, hc, hg⟩
  exact ⟨l, rfl, h1, h.drawn hg hc, hg⟩
/-- What a drawn log is like. -/
def SmL (l : Lg) : Prop := (-1 ≤ l.1 ∧ l.1 ≤ 1000001) ∧ l.2.length ≤ 41 ∧ ∀ i, i < l.2.length → (l.2.getD i []).length ≤ 101
/-- What l12Draw holds: the cursor, the answer's room, the log in block o. -/
structure LD (w X Y : World) (p : Nat) (a : Option Addr) (len cap : Nat) (bs : Nat → Int) (o : Nat) (F : Int) (T : List (List UInt8)) (ta : Option Addr) (tc : Nat) (fp : Fp) : Prop where
  cc : Cc w Y p a len cap bs
  res : Bx Y X.heap.size 26 #[.int .i64 0, .slice none 0 0]
  own : Bx Y o 26 #[.int .i64 F, .slice ta T.length tc]
  txt : Cel.ow Y (scl T) (.slice ta T.length tc) fp
  fpl : ∀ b, fp b → o < b
  hpo : p < X.heap.size
  ho : X.heap.size < o
  gr : X.grownBy Y (some p)
theorem LD.drawn {w X Y Y' : World} {p : Nat} {a : Option Addr} {len cap : Nat} {bs : Nat → Int} {o : Nat} {F : Int} {T : List (List UInt8)} {ta : Option Addr} {tc : Nat} {fp : Fp} (h : LD w X Y p a len cap bs o F T ta tc fp) (hg : Y.grownBy Y' (some p)) (hc : Cc w Y' p a len cap bs) : LD w X Y' p a len cap bs o F T ta tc fp := by
  have h1 := h.hpo
  have h2 := h.ho
  exact ⟨hc, h.res.grown hg (by simp; omega), h.own.grown hg (by simp; omega), Cel.ow_wrt h.txt (Wrt.of_grown hg) (fun b hb e => by cases e; have := h.fpl _ hb; omega), h.fpl, h1, h2, grown_trans h.gr hg⟩
theorem LD.step {w X Y Y' : World} {p : Nat} {a : Option Addr} {len cap : Nat} {bs : Nat → Int} {o : Nat} {F : Int} {T : List (List UInt8)} {ta : Option Addr} {tc : Nat} {fp : Fp} (h : LD w X Y p a len cap bs o F T ta tc fp) (hb : Below Y.heap.size Y Y') : LD w X Y' p a len cap bs o F T ta tc fp :=
  ⟨h.cc.step hb, h.res.below hb, h.own.below hb, Cel.ow_below h.txt hb, h.fpl, h.hpo, h.ho, grown_trans h.gr ⟨hb.os, hb.tape, hb.output, hb.size, fun x hx _ => hb.block x hx⟩⟩
/-- One more text is appended and stored. -/
theorem LD.app {w X Y : World} {p : Nat} {a : Option Addr} {len cap : Nat} {bs : Nat → Int} {o : Nat} {F : Int} {T : List (List UInt8)} {ta : Option Addr} {tc : Nat} {fp : Fp} (i0 : TypeInfo) (hi0 : Tryd.prog.info? 9 = some i0) (hz0 : i0.zero = some (.string ⟨#[]⟩)) (hz1 : i0.size = 1) (hz2 : i0.bytes = 16)
    (h : LD w X Y p a len cap bs o F T ta tc fp) (s : List UInt8) (hl : T.length ≤ 1000) :
    ∀ Z, Same Z (Y.alloc (.cells #[.string (sv s)] 9)) → ∃ v' w4, (Builtin.append_ #[24, 24] 24 #[.slice ta T.length tc, .slice (some ⟨Y.heap.size, 0, none⟩) 1 1]).run Tryd.prog Z = .ok v' w4 ∧
      ∃ a' c', v' = .slice a' (T.length + 1) c' ∧ w4.cell? ⟨o, 1, none⟩ = some (.slice ta T.length tc) ∧ w4.frozen? ⟨o, 1, none⟩ = false ∧ ∃ fp', LD w X (w4.setCell ⟨o, 1, none⟩ (.slice a' (T.length + 1) c')) p a len cap bs o F (T ++ [s]) a' c' fp' := by
  intro Z hZ
  have hbZ : Below Y.heap.size Y Z := (oneA Y _).trans (hZ.below.mono (oneA Y _).size)
  have hD := h.step hbZ
  obtain ⟨ta', tc', G, e, ho, hf⟩ := ow_scl.1 hD.txt
  cases e
  have hnew : Z.heap[Y.heap.size]? = some (.cells #[.string (sv s)] 9) := by rw [hZ.heap]; exact heap_alloc_new Y _
  obtain ⟨a', c', G', w4, hr, ho', hg, hat⟩ := run_append_oo (P := Tryd.prog) Z 24 24 9 i0 _ 1 16 Tryd.underlying24 hi0 hz0 hz1 hz2 rfl (by omega) ta T.length tc (svs T) G ho (some ⟨Y.heap.size, 0, none⟩) 1 1 [.string (sv s)] rfl (.inr ⟨_, rfl, World.news_of_block (cs := #[.string (sv s)]) (t := 9) (fr := (0, 0)) hnew⟩) (by simp [Value.oneCell']) (by unfold maxLen; omega) (by omega)
  have h1 := h.hpo
  have h2 := h.ho
  have hol := hD.own.lt
  have hG : ∀ b, G = some b → o < b := fun b hb => h.fpl b ((hf b).2 hb)
  have hG' : ∀ b, G' = some b → o < b := fun b hb => by
    rcases hat with e | e
    · exact hG b (e ▸ hb)
    · rw [e] at hb; cases hb; exact hol
  have hw4 := Wrt.of_grown hg
  have k0 := hD.own.wrt hw4 (fun e => by have := hG _ e; omega)
  have k1 := hD.res.wrt hw4 (fun e => by have := hG _ e; omega)
  have hgX : X.grownBy w4 (some p) := ⟨hg.os.trans hD.gr.os, hg.tape.trans hD.gr.tape, hg.output.trans hD.gr.output, Nat.le_trans hD.gr.size hg.size, fun b hb hn => (hg.block b (Nat.lt_of_lt_of_le hb hD.gr.size) (fun e => by have := hG b e.symm; omega)).trans (hD.gr.block b hb hn)⟩
  have hc4 : Cc w w4 p a len cap bs := ⟨hD.cc.cur.grown hg (fun e => by have := hG p e; omega), hD.cc.code, hw4.below hD.cc.below hD.cc.below.size (fun b hb => by have := hG b hb; have := hD.cc.hp; omega), hD.cc.off, hD.cc.hl, hD.cc.hp⟩
  refine ⟨_, w4, hr, a', c', rfl, k0.at 1 rfl, k0.f 1, fun b => G' = some b, ?_⟩
  refine ⟨hc4.set (by omega) (by have := hc4.hp; omega) 1 _, k1.far (by omega) _, ?_, ?_, hG', h1, h2, ⟨hgX.os, hgX.tape, hgX.output, by simp [World.setCell]; exact hgX.size, fun b hb hn => ((Wrt.set w4 o 1 (.slice a' (T.length + 1) c')).block b (Nat.lt_of_lt_of_le hb hgX.size) (by omega)).trans (hgX.block b hb hn)⟩⟩
  · have := k0.setC 1 (.slice a' (T.length + 1) c')
    rw [List.length_append]
    simpa using this
  · refine ow_scl.2 ⟨a', c', G', by rw [List.length_append, List.length_singleton], ?_, fun b => Iff.rfl⟩
    rw [svs_app, List.length_append]
    exact ho'.set (fun e => by have := hG' _ e; omega) _
theorem LD.ans {w X Y : World} {p : Nat} {a : Option Addr} {len cap : Nat} {bs : Nat → Int} {o : Nat} {F : Int} {T : List (List UInt8)} {ta : Option Addr} {tc : Nat} {fp : Fp} (h : LD w X Y p a len cap bs o F T ta tc fp) :
    Cel.ow ((Y.setCell ⟨X.heap.size, 0, none⟩ (.int .i64 F)).setCell ⟨X.heap.size, 1, none⟩ (.slice ta T.length tc)) (scl T) (.slice ta T.length tc) fp ∧ (∀ b, fp b → X.heap.size ≤ b) ∧ Cc w ((Y.setCell ⟨X.heap.size, 0, none⟩ (.int .i64 F)).setCell ⟨X.heap.size, 1, none⟩ (.slice ta T.length tc)) p a len cap bs ∧
      X.grownBy ((Y.setCell ⟨X.heap.size, 0, none⟩ (.int .i64 F)).setCell ⟨X.heap.size, 1, none⟩ (.slice ta T.length tc)) (some p) := by
  have h1 := h.hpo
  have h2 := h.ho
  have hp := h.cc.hp
  have hw := wrt2 Y X.heap.size (x := .int .i64 F) (y := .slice ta T.length tc)
  refine ⟨Cel.ow_wrt h.txt hw (fun b hb e => by have := h.fpl b hb; omega), fun b hb => by have := h.fpl b hb; omega, (h.cc.set (by omega) (by omega) 0 _).set (by omega) (by omega) 1 _, hw.os.trans h.gr.os, hw.tape.trans h.gr.tape, hw.output.trans h.gr.output, Nat.le_trans h.gr.size hw.size, fun b hb hn => (hw.block b (Nat.lt_of_lt_of_le hb h.gr.size) (by omega)).trans (h.gr.block b hb hn)⟩
theorem SmL.snoc {F : Int} {T : List (List UInt8)} {s : List UInt8} {n : Nat} (h : (∀ i, i < T.length → (T.getD i []).length ≤ n)) (hs : s.length ≤ n) : ∀ i, i < (T ++ [s]).length → ((T ++ [s]).getD i []).length ≤ n := fun i hi => by
  rw [List.length_append, List.length_singleton] at hi
  by_cases e : i < T.length
  · have := h i e
    simpa [List.getD_eq_getElem?_getD, List.getElem?_append_left e] using this
  · obtain rfl : i = T.length := by omega
    simpa [List.getD_eq_getElem?_getD] using hs
/-- Another number, or another list of texts, is stored. -/
theorem LD.setF {w X Y : World} {p : Nat} {a : Option Addr} {len cap : Nat} {bs : Nat → Int} {o : Nat} {F : Int} {T : List (List UInt8)} {ta : Option Addr} {tc : Nat} {fp : Fp} (h : LD w X Y p a len cap bs o F T ta tc fp) (G : Int) : LD w X (Y.setCell ⟨o, 0, none⟩ (.int .i64 G)) p a len cap bs o G T ta tc fp := by
  have h1 := h.hpo
  have h2 := h.ho
  have hp := h.cc.hp
  have hw := Wrt.set Y o 0 (.int .i64 G)
  refine ⟨h.cc.set (by omega) (by omega) 0 _, h.res.far (by omega) _, ?_, Cel.ow_wrt h.txt hw (fun b hb e => by have := h.fpl b hb; omega), h.fpl, h1, h2, hw.os.trans h.gr.os, hw.tape.trans h.gr.tape, hw.output.trans h.gr.output, Nat.le_trans h.gr.size hw.size, fun b hb hn => (hw.block b (Nat.lt_of_lt_of_le hb h.gr.size) (by omega)).trans (h.gr.block b hb hn)⟩
  have := h.own.setC 0 (.int .i64 G)
  simpa using this
theorem LD.setT {w X Y : World} {p : Nat} {a : Option Addr} {len cap : Nat} {bs : Nat → Int} {o : Nat} {F : Int} {T T' : List (List UInt8)} {ta ta' : Option Addr} {tc tc' : Nat} {fp fp' : Fp} (h : LD w X Y p a len cap bs o F T ta tc fp) (ho : Cel.ow Y (scl T') (.slice ta' T'.length tc') fp') (hf : ∀ b, fp' b → o < b) : LD w X (Y.setCell ⟨o, 1, none⟩ (.slice ta' T'.length tc')) p a len cap bs o F T' ta' tc' fp' := by
  have h1 := h.hpo
  have h2 := h.ho
  have hp := h.cc.hp
  have hw := Wrt.set Y o 1 (.slice ta' T'.length tc')
  refine ⟨h.cc.set (by omega) (by omega) 1 _, h.res.far (by omega) _, ?_, Cel.ow_wrt ho hw (fun b hb e => by have := hf b hb; omega), hf, h1, h2, hw.os.trans h.gr.os, hw.tape.trans h.gr.tape, hw.output.trans h.gr.output, Nat.le_trans h.gr.size hw.size, fun b hb hn => (hw.block b (Nat.lt_of_lt_of_le hb h.gr.size) (by omega)).trans (h.gr.block b hb hn)⟩
  have := h.own.setC 1 (.slice ta' T'.length tc')
  simpa using this
end Go.Proofs.YtbnpliobigjapaaDoor
