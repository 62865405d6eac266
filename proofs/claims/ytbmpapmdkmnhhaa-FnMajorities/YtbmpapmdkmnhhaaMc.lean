/-
  Several texts in one: Vwl Vwm.
-/
import Derived.Test.YtbmpapmdkmnhhaaMa
import Derived.Test.YtbmpapmdkmnhhaaIw
import Derived.Test.YtbmpapmdkmnhhaaLl
import Derived.Test.YtbmpapmdkmnhhaaLp
import Derived.Deep.RegionHeld3
/-
  The draw of a list of stage 14.
-/
namespace Go.Proofs.Ytbmpapmdkmnhhaa
set_option linter.unusedVariables false
set_option linter.unusedSimpArgs false
open Go.RowKit Go.Sort

theorem grown_over {X Y Z : World} {p g : Nat} (h : X.grownBy Y (some p)) (hg : Y.grownBy Z (some g)) (hX : X.heap.size ≤ g) : X.grownBy Z (some p) :=
  ⟨hg.os.trans h.os, hg.tape.trans h.tape, hg.output.trans h.output, Nat.le_trans h.size hg.size, fun b hb hne => (hg.block b (Nat.lt_of_lt_of_le hb h.size) (by simp; omega)).trans (h.block b hb hne)⟩
theorem grown_ofB {X Y : World} (p : Option Nat) (hb : Below X.heap.size X Y) : X.grownBy Y p := ⟨hb.os, hb.tape, hb.output, hb.size, fun x hx _ => hb.block x hx⟩
set_option maxRecDepth 100000 in
set_option maxHeartbeats 3200000 in
theorem drawLi_any {w X : World} {p : Nat} {a : Option Addr} {len cap : Nat} {bs : Nat → Int} (h : Cc w X p a len cap bs) :
    Calls Try.prog 74 #[.pointer (some ⟨p, 0, none⟩)] X fun e X' => ∃ (V : List Int) (g og cg : Nat), e = .returned (.slice (some ⟨g, og, none⟩) V.length cg) ∧ OI X' g og V.length cg V ∧ X.heap.size ≤ g ∧ V.length ≤ 4 ∧ (∀ x ∈ V, -1 ≤ x ∧ x ≤ 10) ∧ Cc w X' p a len cap bs ∧ X.grownBy X' (some p) := by
  obtain ⟨i0, hi0, hz0, hz1, hz2⟩ := info_parts2n Try.info2n
  have hpl := h.lt
  have hpw := h.hp
  have hb0 := one14 X (.cells #[] 2)
  have C0 := h.step hb0
  have O0 : OI (X.alloc (.cells #[] 2)) X.heap.size 0 0 0 [] := num_empty _ 2
  have G0 : X.grownBy (X.alloc (.cells #[] 2)) (some p) := grown_ofB _ hb0
  clear hb0 h
  go_enter Try.func74, Try.ntmps74
  go_wp2_with fail
  refine (belowC 5 5 rfl C0 (by omega) (by omega)).mono ?_
  rintro e Y1 ⟨n, rfl, hn, C1, g1⟩
  have O1 : OI Y1 X.heap.size 0 0 0 [] := OSl.grown O0 g1 (by simp; omega)
  have G1 := grown_trans G0 g1
  have HH : Hid (OI Y1 X.heap.size 0 0 0 [] ∧ Cc w Y1 p a len cap bs ∧ X.grownBy Y1 (some p)) := ⟨O1, C1, G1⟩
  clear O0 C0 G0 g1 O1 C1 G1
  go_wp2_with fail
  go_loopw [3, 4] (fun v i wr => ∃ (k g og cg : Nat) (V : List Int), i = .int .i64 (k : Int) ∧ v = .slice (some ⟨g, og, none⟩) V.length cg ∧ V.length + k = n ∧ (∀ x ∈ V, -1 ≤ x ∧ x ≤ 10) ∧ X.heap.size ≤ g ∧ OI wr g og V.length cg V ∧ Cc w wr p a len cap bs ∧ X.grownBy wr (some p)) (fun _ i _ => (intOf i).toNat)
  case atStart => exact ⟨n, X.heap.size, 0, 0, [], rfl, rfl, by simp, fun x hx => absurd hx List.not_mem_nil, Nat.le_refl _, HH.out.1, HH.out.2⟩
  case round =>
    clear HH
    obtain ⟨k, g, og, cg, V, rfl, rfl, hVk, hVx, hgX, hO, hC, hG⟩ := hrel
    by_cases hlt : 0 < k
    · have k1 : (0 : Int) < (k : Int) := by omega
      have HVx : Hid (∀ x ∈ V, -1 ≤ x ∧ x ≤ 10) := hVx
      have HVk : Hid (V.length + k = n) := hVk
      have hVl : V.length ≤ 4 := by omega
      have hk4 : k ≤ 4 := by omega
      clear hVx hVk
      go_wp2_with fail
      refine (fromC (-1) 10 (by omega) (by omega) (by omega) hC).mono ?_
      rintro e Y5 ⟨y, rfl, hy0, hy1, C5, g5⟩
      have G5 := grown_trans hG g5
      have O5 : OI Y5 g og V.length cg V := OSl.grown hO g5 (by simp; omega)
      have hb5 := one14 Y5 (.cells #[.int .i64 y] 2)
      have hO2 : OSl (Y5.alloc (.cells #[.int .i64 y] 2)) 1 g og V.length cg (V.map (Value.int .i64)) := OSl.below O5 ((Below.refl _ _).alloc (Nat.le_refl _) _) O5.blk
      have HD6 : Hid (Cc w (Y5.alloc (.cells #[.int .i64 y] 2)) p a len cap bs ∧ X.grownBy (Y5.alloc (.cells #[.int .i64 y] 2)) (some p)) := ⟨C5.step hb5, grown_trans G5 (grown_ofB _ hb5)⟩
      clear C5 g5 G5 O5 hO hC hG hb5
      go_wp2_with (at_builtin; refine wpList_append_os _ rfl _ _ _ rfl 2 i0 _ 1 8 Try.underlying24 hi0 hz0 hz1 hz2 rfl (by omega) g og V.length cg _ rfl hO2 ⟨Y5.heap.size, 0, none⟩ 1 1 [.int .i64 y] rfl rfl (World.news_of_block (cs := #[.int .i64 y]) (t := 2) (fr := (0, 0)) (heap_alloc_new _ _)) (by simp [Value.oneCell']) (by unfold maxLen; omega) (by omega) ?_; intro g6 o6 c6 w6 hO6 hg6 hat6)
      have NG : Hid (X.heap.size ≤ g6) := by
        rcases hat6 with h | h
        · rw [h]; exact hgX
        · rw [h]; exact HD6.out.2.size
      have ND : Hid (Cc w w6 p a len cap bs ∧ X.grownBy w6 (some p)) := ⟨HD6.out.1.grown hg6 (by omega) (by omega), grown_over HD6.out.2 hg6 hgX⟩
      have NO : Hid (OI w6 g6 o6 (V ++ [y]).length c6 (V ++ [y])) := by
        rw [Hid, List.length_append, OI, List.map_append]; exact hO6
      have NX : Hid (∀ x ∈ V ++ [y], -1 ≤ x ∧ x ≤ 10) := fun x hx => by
        rcases List.mem_append.1 hx with h | h
        · exact HVx.out x h
        · rw [List.mem_singleton.1 h]; omega
      clear hO6 hg6 hat6 hO2 HD6
      go_roundw
      case rel => exact ⟨k - 1, g6, o6, c6, V ++ [y], by go_num, by rw [List.length_append]; rfl, by have := HVk.out; rw [List.length_append, List.length_singleton]; omega, NX.out, NG.out, NO.out, ND.out⟩
      case measure => simp [intOf]; omega
    · have k1 : ¬ ((0 : Int) < (k : Int)) := by omega
      have HE : Hid ((∀ x ∈ V, -1 ≤ x ∧ x ≤ 10) ∧ V.length ≤ 4 ∧ OI wr g og V.length cg V ∧ Cc w wr p a len cap bs ∧ X.grownBy wr (some p)) := ⟨hVx, by omega, hO, hC, hG⟩
      clear hVx hO hC hG
      go_wp2
      go_ret
      exact ⟨V, g, og, cg, rfl, HE.out.2.2.1, hgX, HE.out.2.1, HE.out.1, HE.out.2.2.2⟩
end Go.Proofs.Ytbmpapmdkmnhhaa

/-
  The kit of l14Draw: what it holds, one more number; two that may come up in a region (a step of the text Tlr's machine).
-/
namespace Go.Proofs.Ytbmpapmdkmnhhaa
set_option linter.unusedVariables false
set_option linter.unusedSimpArgs false
open Go.RowKit Go.Sort

/-- What a drawn view is like. -/
def SmV (v : Vw) : Prop := (0 ≤ v.1 ∧ v.1 ≤ 1000001) ∧ v.2.length ≤ 9 ∧ ∀ x ∈ v.2, -1 ≤ x ∧ x ≤ 100
/-- What l14Draw holds: the cursor, the answer's room, the view in block o. -/
structure VD (w X Y : World) (p : Nat) (a : Option Addr) (len cap : Nat) (bs : Nat → Int) (o : Nat) (F : Int) (T : List Int) (ta : Option Addr) (tc : Nat) (fp : Fp) : Prop where
  cc : Cc w Y p a len cap bs
  res : Bx Y X.heap.size 34 #[.int .i64 0, .slice none 0 0]
  own : Bx Y o 34 #[.int .i64 F, .slice ta T.length tc]
  txt : Cel.ow Y (icl T) (.slice ta T.length tc) fp
  fpl : ∀ b, fp b → o < b
  hpo : p < X.heap.size
  ho : X.heap.size < o
  gr : X.grownBy Y (some p)
theorem VD.drawn {w X Y Y' : World} {p : Nat} {a : Option Addr} {len cap : Nat} {bs : Nat → Int} {o : Nat} {F : Int} {T : List Int} {ta : Option Addr} {tc : Nat} {fp : Fp} (h : VD w X Y p a len cap bs o F T ta tc fp) (hg : Y.grownBy Y' (some p)) (hc : Cc w Y' p a len cap bs) : VD w X Y' p a len cap bs o F T ta tc fp := by
  have h1 := h.hpo
  have h2 := h.ho
  exact ⟨hc, h.res.grown hg (by simp; omega), h.own.grown hg (by simp; omega), Cel.ow_wrt h.txt (Wrt.of_grown hg) (fun b hb e => by cases e; have := h.fpl _ hb; omega), h.fpl, h1, h2, grown_trans h.gr hg⟩
theorem VD.step {w X Y Y' : World} {p : Nat} {a : Option Addr} {len cap : Nat} {bs : Nat → Int} {o : Nat} {F : Int} {T : List Int} {ta : Option Addr} {tc : Nat} {fp : Fp} (h : VD w X Y p a len cap bs o F T ta tc fp) (hb : Below Y.heap.size Y Y') : VD w X Y' p a len cap bs o F T ta tc fp :=
  ⟨h.cc.step hb, h.res.below hb, h.own.below hb, Cel.ow_below h.txt hb, h.fpl, h.hpo, h.ho, grown_trans h.gr ⟨hb.os, hb.tape, hb.output, hb.size, fun x hx _ => hb.block x hx⟩⟩
/-- One more text is appended and stored. -/
theorem VD.app {w X Y : World} {p : Nat} {a : Option Addr} {len cap : Nat} {bs : Nat → Int} {o : Nat} {F : Int} {T : List Int} {ta : Option Addr} {tc : Nat} {fp : Fp} (i0 : TypeInfo) (hi0 : Try.prog.info? 2 = some i0) (hz0 : i0.zero = some (.int .i64 0)) (hz1 : i0.size = 1) (hz2 : i0.bytes = 8)
    (h : VD w X Y p a len cap bs o F T ta tc fp) (s : Int) (hl : T.length ≤ 1000) :
    ∀ Z, Same Z (Y.alloc (.cells #[.int .i64 s] 2)) → ∃ v' w4, (Builtin.append_ #[24, 24] 24 #[.slice ta T.length tc, .slice (some ⟨Y.heap.size, 0, none⟩) 1 1]).run Try.prog Z = .ok v' w4 ∧
      ∃ a' c', v' = .slice a' (T.length + 1) c' ∧ w4.cell? ⟨o, 1, none⟩ = some (.slice ta T.length tc) ∧ w4.frozen? ⟨o, 1, none⟩ = false ∧ ∃ fp', VD w X (w4.setCell ⟨o, 1, none⟩ (.slice a' (T.length + 1) c')) p a len cap bs o F (T ++ [s]) a' c' fp' := by
  intro Z hZ
  have hbZ : Below Y.heap.size Y Z := (one14 Y _).trans (hZ.below.mono (one14 Y _).size)
  have hD := h.step hbZ
  obtain ⟨ta', tc', G, e, ho, hf⟩ := ow_icl.1 hD.txt
  cases e
  have hnew : Z.heap[Y.heap.size]? = some (.cells #[.int .i64 s] 2) := by rw [hZ.heap]; exact heap_alloc_new Y _
  obtain ⟨a', c', G', w4, hr, ho', hg, hat⟩ := run_append_oo (P := Try.prog) Z 24 24 2 i0 _ 1 8 Try.underlying24 hi0 hz0 hz1 hz2 rfl (by omega) ta T.length tc ((T.map (Value.int .i64))) G ho (some ⟨Y.heap.size, 0, none⟩) 1 1 [.int .i64 s] rfl (.inr ⟨_, rfl, World.news_of_block (cs := #[.int .i64 s]) (t := 2) (fr := (0, 0)) hnew⟩) (by simp [Value.oneCell']) (by unfold maxLen; omega) (by omega)
  have h1 := h.hpo
  have h2 := h.ho
  have hol := hD.own.lt
  have hG : ∀ b, G = some b → o < b := fun b hb => h.fpl b ((hf b).2 hb)
  have hG' : ∀ b, G' = some b → o < b := fun b hb => by
    rcases hat with e | e
    · exact hG b (e ▸ hb)
    · rw [e] at hb; cases hb; exact hol
  have hw4 := Wrt.of_grown hg
  have k0 := hD.own.wrt hw4 (fun e => by have := hG _ e; omega)
  have k1 := hD.res.wrt hw4 (fun e => by have := hG _ e; omega)
  have hgX : X.grownBy w4 (some p) := ⟨hg.os.trans hD.gr.os, hg.tape.trans hD.gr.tape, hg.output.trans hD.gr.output, Nat.le_trans hD.gr.size hg.size, fun b hb hn => (hg.block b (Nat.lt_of_lt_of_le hb hD.gr.size) (fun e => by have := hG b e.symm; omega)).trans (hD.gr.block b hb hn)⟩
  have hc4 : Cc w w4 p a len cap bs := ⟨hD.cc.cur.grown hg (fun e => by have := hG p e; omega), hD.cc.code, hw4.below hD.cc.below hD.cc.below.size (fun b hb => by have := hG b hb; have := hD.cc.hp; omega), hD.cc.off, hD.cc.hl, hD.cc.hp⟩
  refine ⟨_, w4, hr, a', c', rfl, k0.at 1 rfl, k0.f 1, fun b => G' = some b, ?_⟩
  refine ⟨hc4.set (by omega) (by have := hc4.hp; omega) 1 _, k1.far (by omega) _, ?_, ?_, hG', h1, h2, ⟨hgX.os, hgX.tape, hgX.output, by simp [World.setCell]; exact hgX.size, fun b hb hn => ((Wrt.set w4 o 1 (.slice a' (T.length + 1) c')).block b (Nat.lt_of_lt_of_le hb hgX.size) (by omega)).trans (hgX.block b hb hn)⟩⟩
  · have := k0.setC 1 (.slice a' (T.length + 1) c')
    rw [List.length_append]
    simpa using this
  · refine ow_icl.2 ⟨a', c', G', by rw [List.length_append, List.length_singleton], ?_, fun b => Iff.rfl⟩
    rw [List.map_append, List.length_append]
    exact ho'.set (fun e => by have := hG' _ e; omega) _
theorem VD.ans {w X Y : World} {p : Nat} {a : Option Addr} {len cap : Nat} {bs : Nat → Int} {o : Nat} {F : Int} {T : List Int} {ta : Option Addr} {tc : Nat} {fp : Fp} (h : VD w X Y p a len cap bs o F T ta tc fp) :
    Cel.ow ((Y.setCell ⟨X.heap.size, 0, none⟩ (.int .i64 F)).setCell ⟨X.heap.size, 1, none⟩ (.slice ta T.length tc)) (icl T) (.slice ta T.length tc) fp ∧ (∀ b, fp b → X.heap.size ≤ b) ∧ Cc w ((Y.setCell ⟨X.heap.size, 0, none⟩ (.int .i64 F)).setCell ⟨X.heap.size, 1, none⟩ (.slice ta T.length tc)) p a len cap bs ∧
      X.grownBy ((Y.setCell ⟨X.heap.size, 0, none⟩ (.int .i64 F)).setCell ⟨X.heap.size, 1, none⟩ (.slice ta T.length tc)) (some p) := by
  have h1 := h.hpo
  have h2 := h.ho
  have hp := h.cc.hp
  have hw := setw2 Y X.heap.size (x := .int .i64 F) (y := .slice ta T.length tc)
  refine ⟨Cel.ow_wrt h.txt hw (fun b hb e => by have := h.fpl b hb; omega), fun b hb => by have := h.fpl b hb; omega, (h.cc.set (by omega) (by omega) 0 _).set (by omega) (by omega) 1 _, hw.os.trans h.gr.os, hw.tape.trans h.gr.tape, hw.output.trans h.gr.output, Nat.le_trans h.gr.size hw.size, fun b hb hn => (hw.block b (Nat.lt_of_lt_of_le hb h.gr.size) (by omega)).trans (h.gr.block b hb hn)⟩
/-- Another number, or another list, is stored. -/
theorem VD.setF {w X Y : World} {p : Nat} {a : Option Addr} {len cap : Nat} {bs : Nat → Int} {o : Nat} {F : Int} {T : List Int} {ta : Option Addr} {tc : Nat} {fp : Fp} (h : VD w X Y p a len cap bs o F T ta tc fp) (G : Int) : VD w X (Y.setCell ⟨o, 0, none⟩ (.int .i64 G)) p a len cap bs o G T ta tc fp := by
  have h1 := h.hpo
  have h2 := h.ho
  have hp := h.cc.hp
  have hw := Wrt.set Y o 0 (.int .i64 G)
  refine ⟨h.cc.set (by omega) (by omega) 0 _, h.res.far (by omega) _, ?_, Cel.ow_wrt h.txt hw (fun b hb e => by have := h.fpl b hb; omega), h.fpl, h1, h2, hw.os.trans h.gr.os, hw.tape.trans h.gr.tape, hw.output.trans h.gr.output, Nat.le_trans h.gr.size hw.size, fun b hb hn => (hw.block b (Nat.lt_of_lt_of_le hb h.gr.size) (by omega)).trans (h.gr.block b hb hn)⟩
  have := h.own.setC 0 (.int .i64 G)
  simpa using this
theorem VD.setT {w X Y : World} {p : Nat} {a : Option Addr} {len cap : Nat} {bs : Nat → Int} {o : Nat} {F : Int} {T T' : List Int} {ta ta' : Option Addr} {tc tc' : Nat} {fp fp' : Fp} (h : VD w X Y p a len cap bs o F T ta tc fp) (ho : Cel.ow Y (icl T') (.slice ta' T'.length tc') fp') (hf : ∀ b, fp' b → o < b) : VD w X (Y.setCell ⟨o, 1, none⟩ (.slice ta' T'.length tc')) p a len cap bs o F T' ta' tc' fp' := by
  have h1 := h.hpo
  have h2 := h.ho
  have hp := h.cc.hp
  have hw := Wrt.set Y o 1 (.slice ta' T'.length tc')
  refine ⟨h.cc.set (by omega) (by omega) 1 _, h.res.far (by omega) _, ?_, Cel.ow_wrt ho hw (fun b hb e => by have := hf b hb; omega), hf, h1, h2, hw.os.trans h.gr.os, hw.tape.trans h.gr.tape, hw.output.trans h.gr.output, Nat.le_trans h.gr.size hw.size, fun b hb hn => (hw.block b (Nat.lt_of_lt_of_le hb h.gr.size) (by omega)).trans (h.gr.block b hb hn)⟩
  have := h.own.setC 1 (.slice ta' T'.length tc')
  simpa using this
theorem num_tailV {w : World} {g off n cap : Nat} {z : Int} {zs : List Int} (h : OI w g off (n + 1) cap (z :: zs)) : OI w g (off + 1) n (cap - 1) zs := by
  have hl := h.length
  have hle := h.le
  have hmx := h.max
  refine ⟨by simpa using hl, by omega, by omega, h.blk, fun i hi => ?_, fun i hi => ?_, fun i hi => ?_⟩
  · have := h.cell (i + 1) (by omega)
    rw [show off + (i + 1) = off + 1 + i by omega] at this
    rw [this]
    simp
  · have := h.some (i + 1) (by omega)
    rwa [show off + (i + 1) = off + 1 + i by omega] at this
  · have := h.free (i + 1) (by omega)
    rwa [show off + (i + 1) = off + 1 + i by omega] at this
end Go.Proofs.Ytbmpapmdkmnhhaa
