/-
  Several texts in one: Sfc Sbl.
-/
import Derived.Test.YtbgkfiijfocgiaaHq
import Derived.Lib.AppendZeros
import Derived.Deep.RegionHeld3
/-
  The contract of the closure that fires a rule and puts those that read what it changed on the list.
-/
namespace Go.Proofs.Ytbgkfiijfocgiaa
set_option linter.unusedSimpArgs false
set_option linter.unusedVariables false
open Go.RowKit Go.Sort

theorem CRk.form {X : Cx} {K : Nat → Nat} {w : World} {k : Nat} {R : List Pl} (h : CRk X K w k R) : ∃ a cr, w.cell? ⟨X.br, k, none⟩ = some (.slice a R.length cr) ∧ R.length ≤ cr ∧ cr ≤ maxLen ∧ (R = [] ∨ ∃ gr og, a = some ⟨gr, og, none⟩ ∧ OSl w 1 gr og R.length cr (R.map (enlV X)) ∧ K gr = 10 + k) := by
  obtain ⟨_, v, hc, h2⟩ := h
  rcases h2 with ⟨rfl, rfl⟩ | ⟨gr, og, cr, rfl, h3, h4⟩
  · exact ⟨none, 0, hc, Nat.le_refl _, Nat.zero_le _, .inl rfl⟩
  · exact ⟨_, cr, hc, h3.le, h3.max, .inr ⟨gr, og, rfl, h3, h4⟩⟩
/-- The mark of one rule is written. -/
theorem Sq.mark {X : Cx} {w0 : World} {K : Nat → Nat} {w : World} {x : List Int} {L ps : List Pl} {M M' : Pl → Bool} (h : Sq X w0 K w x L ps M) {e : Pl} (he : e ∈ ps) (hM : ∀ a ∈ ps, a ≠ e → M a = M' a) : Sq X w0 K (w.setCell ⟨e.wt, 0, none⟩ (.bool (M' e))) x L ps M' := by
  have hP := h.p e he
  have mv : Mv (fun b t => b = e.wt ∧ t = 21) K K w (w.setCell ⟨e.wt, 0, none⟩ (.bool (M' e))) := Mv.set _ _ _ (fun _ => ⟨rfl, hP.t1⟩)
  refine ⟨h.v.mv mv (by simp), h.n.mv mv (by simp), h.l.mv mv (by simp) (fun b => by simp), h.rt, fun k hk => (h.r k hk).mv h.rt mv (by simp) (fun b => by omega), fun a ha => ?_, h.inj, h.old, grown_mv h.grown h.old mv (fun b => by omega)⟩
  by_cases hae : a = e
  · subst hae
    exact (h.p a ha).mark mv (by simp) (by simp) (World.cell?_setCell_same _ _ _ hP.m) (by rw [World.frozen?_setCell]; exact hP.mf)
  · refine ((h.p a ha).mv mv (by simp) ?_ (by simp)).congr (hM a ha hae)
    intro hT
    exact hae (h.inj a ha e he (by simpa using hT))
/-- The vector is changed. -/
theorem Sq.vec {X : Cx} {w0 : World} {K : Nat → Nat} {w w' : World} {x y : List Int} {L ps : List Pl} {M : Pl → Bool} (h : Sq X w0 K w x L ps M) (hy : OI w' X.g X.o 8 X.c y) (hg : w.grownBy w' (some X.g)) : Sq X w0 K w' y L ps M := by
  have mv : Mv (fun b t => t = 4) K K w w' := Mv.of_grown hg (fun _ => h.n.2)
  refine ⟨h.v.mv mv (by simp), ⟨hy, h.n.2⟩, h.l.mv mv (by simp) (fun b => by simp), h.rt, fun k hk => (h.r k hk).mv h.rt mv (by simp) (fun b => by omega), fun a ha => (h.p a ha).mv mv (by simp) (by simp) (by simp), h.inj, h.old, grown_mv h.grown h.old mv (fun b => by omega)⟩

set_option maxRecDepth 100000 in
set_option maxHeartbeats 3200000 in
theorem fireC_any (X : Cx) (w0 : World) (K : Nat → Nat) (w : World) (x : List Int) (L ps : List Pl) (M : Pl → Bool) (e : Pl) (h : Sq X w0 K w x L ps M) (he : e ∈ ps) (hM : ∀ a ∈ ps, a ≠ e → M a = decide (a ∈ L)) (heL : e ∉ L) (hx : Ok8 x) (hok : okRu e.r = true) (hps : ps.length ≤ 20) (hLs : L ⊆ ps) (hLn : L.Nodup) :
    Calls Try.prog 84 #[pt e.wt, pt e.ru, pt X.bv, pt X.br] w fun en w' => en = .returned (.tuple #[]) ∧ ∃ K' L', Sq X w0 K' w' (fire x e.r) L' ps (fun a => decide (a ∈ L')) ∧ L ⊆ L' ∧ L' ⊆ ps ∧ L'.Nodup ∧ (¬ el x e.r.to.toNat < asks x e.r → L' = L) ∧ (el x e.r.to.toNat < asks x e.r → ∀ a ∈ ps, a.r.fr = e.r.to → a ∈ L') := by
  have hP := h.p e he
  have mc := hP.m
  have mf := hP.mf
  have H1 : Hid (Sq X w0 K (w.setCell ⟨e.wt, 0, none⟩ (.bool false)) x L ps (fun a => decide (a ∈ L))) := by
    have := h.mark (M' := fun a => decide (a ∈ L)) he hM
    rw [show decide (e ∈ L) = false from decide_eq_false heL] at this
    exact this
  have P1 := H1.out.p e he
  have r0 := P1.r0
  have r1 := P1.r1
  have r2 := P1.r2
  have r3 := P1.r3
  have cv := H1.out.v.1
  have hF := fire_any X.g X.o X.c x e.r (w.setCell ⟨e.wt, 0, none⟩ (.bool false)) H1.out.n.1 hx hok
  obtain ⟨t, f, p, m, hq, ht8, hf8, hp0, hp1, hm0, hm1⟩ := ru_split hok
  have hto : e.r.to = (t : Int) := by rw [hq]
  have HTO : Hid (e.r.to = (t : Int)) := hto
  have HTN : Hid (e.r.to.toNat = t) := by rw [Hid, hto]; simp
  have HNN : Hid (L.Nodup) := hLn
  unfold ruV at hF
  generalize hW : w.setCell ⟨e.wt, 0, none⟩ (.bool false) = W at *
  clear h hP P1 hM hq hto
  by_cases hlt : el x e.r.to.toNat < asks x e.r
  · rw [decide_eq_true hlt] at hF
    have HLT : Hid (el x e.r.to.toNat < asks x e.r) := hlt
    clear hlt
    unfold pt
    go_enter Try.func84, Try.ntmps84
    go_wp2_with fail
    refine hF.mono ?_
    rintro en w2 ⟨rfl, ho2, hg2⟩
    have H2 : Hid (Sq X w0 K w2 (fire x e.r) L ps (fun a => decide (a ∈ L))) := H1.out.vec ho2 hg2
    have s0 := (H2.out.p e he).r0
    rw [HTO.out] at s0
    obtain ⟨a, cr, hcr, hle, hmx, hcase⟩ := (H2.out.r t ht8).form
    have HR : Hid (∀ b ∈ ps, b.r.fr = (t : Int) → b ∈ ps.filter (fun e => decide (e.r.fr = (t : Int)))) := fun b hb h2 => by rw [List.mem_filter]; exact ⟨hb, by simpa using h2⟩
    have HS : Hid (∀ b ∈ ps.filter (fun e => decide (e.r.fr = (t : Int))), b ∈ ps) := fun b hb => (List.mem_filter.1 hb).1
    have hRl : (ps.filter (fun e => decide (e.r.fr = (t : Int)))).length ≤ 20 := Nat.le_trans (List.length_filter_le _ _) hps
    clear ho2 hg2 hF r0 r1 r2 r3 cv mc mf
    generalize ps.filter (fun e => decide (e.r.fr = (t : Int))) = R at *
    have t1 : (t : Int) < 8 := by omega
    have t0 : (0 : Int) ≤ (t : Int) := by omega
    unfold maxLen at hmx
    go_wp2
    go_loopw [14] (fun i wr => ∃ j : Nat, j ≤ R.length ∧ i = .int .i64 j ∧ ∃ K' L', Sq X w0 K' wr (fire x e.r) L' ps (fun a => decide (a ∈ L')) ∧ Mv (fun b t => t = 2 ∨ t = 5 ∨ t = 21) K K' w2 wr ∧ L ⊆ L' ∧ L' ⊆ ps ∧ L'.Nodup ∧ ∀ q b, q < j → R[q]? = some b → b ∈ L') (fun i _ => R.length - (intOf i).toNat)
    case atStart => exact ⟨0, Nat.zero_le _, rfl, K, L, H2.out, Mv.refl _ _ _, fun _ h => h, hLs, HNN.out, fun q b hq _ => by omega⟩
    case round =>
      obtain ⟨j, hj, rfl, K', L', hs, hmv, hsub, hsub', hnd, hall⟩ := hrel
      have KS : Hid (Sq X w0 K' wr (fire x e.r) L' ps (fun a => decide (a ∈ L'))) := hs
      have KM : Hid (Mv (fun b t => t = 2 ∨ t = 5 ∨ t = 21) K K' w2 wr) := hmv
      have KA : Hid (∀ q b, q < j → R[q]? = some b → b ∈ L') := hall
      have KD : Hid (L'.Nodup) := hnd
      have K1 : Hid (L ⊆ L') := hsub
      have K2 : Hid (L' ⊆ ps) := hsub'
      clear hs hmv hall hnd hsub hsub'
      by_cases hjl : j < R.length
      · rcases hcase with h0 | ⟨gr, og, rfl, hO, hK⟩
        · rw [h0] at hjl; simp at hjl
        · have hO' := KM.out.os1 hO (by rw [hK]; omega)
          have hc := hO'.cell j (by omega)
          have hge : R[j]? = some R[j] := List.getElem?_eq_getElem hjl
          rw [List.getElem?_map, hge] at hc
          have hbp : R[j] ∈ ps := HS.out _ (List.getElem_mem hjl)
          have HGE : Hid (R[j]? = some R[j]) := hge
          generalize R[j] = b at *
          have hE := enl_any X w0 K' wr (fire x e.r) L' ps b KS.out hbp (Nat.le_trans (nodup_le KD.out K2.out) hps)
          simp only [Option.map_some] at hc
          unfold enlV at hc
          unfold pt at hc hE
          have j1 : (j : Int) < (R.length : Int) := by omega
          have j0 : (0 : Int) ≤ (j : Int) := by omega
          clear hO hO' hK hge
          go_wp2_with fail
          refine hE.mono ?_
          rintro en w3 ⟨rfl, K3, hm3, hs3⟩
          have HN3 : Hid (∃ K' L', Sq X w0 K' w3 (fire x e.r) L' ps (fun a => decide (a ∈ L')) ∧ Mv (fun b t => t = 2 ∨ t = 5 ∨ t = 21) K K' w2 w3 ∧ L ⊆ L' ∧ L' ⊆ ps ∧ L'.Nodup ∧ ∀ q b, q < j + 1 → R[q]? = some b → b ∈ L') := by
            refine ⟨K3, putL L' b, hs3, KM.out.trans (hm3.mono (fun b t hT => by rcases hT with h | h | h; exact .inl h; exact .inr (.inl h); exact .inr (.inr h.2))), fun y hy => mem_putL.2 (.inl (K1.out hy)), putL_sub K2.out hbp, putL_nodup KD.out, fun q z hq hz => ?_⟩
            by_cases hqj : q = j
            · subst hqj
              rw [HGE.out] at hz
              simp only [Option.some.injEq] at hz
              exact mem_putL.2 (.inr hz.symm)
            · exact mem_putL.2 (.inl (KA.out q z (by omega) hz))
          clear hm3 hs3 hE hc
          go_wp2
          go_roundw
          case rel => exact ⟨j + 1, by omega, by go_num, HN3.out⟩
          case measure => simp [intOf]; omega
      · have hjr : j = R.length := by omega
        subst hjr
        go_wp2
        go_end0
        refine ⟨rfl, K', L', KS.out, K1.out, K2.out, KD.out, fun hn => (by exfalso; have := HLT.out; omega), fun _ b hb hbr => ?_⟩
        have hbR := HR.out b hb (by rw [hbr, HTO.out])
        obtain ⟨q, hq, rfl⟩ := List.getElem_of_mem hbR
        exact KA.out q _ hq (List.getElem?_eq_getElem hq)
  · rw [decide_eq_false hlt] at hF
    have HLT : Hid (¬ el x e.r.to.toNat < asks x e.r) := hlt
    clear hlt
    unfold pt
    go_enter Try.func84, Try.ntmps84
    go_wp2_with fail
    refine hF.mono ?_
    rintro en w2 ⟨rfl, ho2, hg2⟩
    have H2 : Hid (Sq X w0 K w2 (fire x e.r) L ps (fun a => decide (a ∈ L))) := H1.out.vec ho2 hg2
    clear ho2 hg2 hF r0 r1 r2 r3 cv mc mf
    go_wp2
    go_end0
    exact ⟨rfl, K, L, H2.out, fun _ h => h, hLs, HNN.out, fun _ => rfl, fun h => (by exfalso; have := HLT.out; omega)⟩
end Go.Proofs.Ytbgkfiijfocgiaa

/-
  Settle's steps on what it holds: a rule is taken up, becomes a reader; one is taken off the list; what the list's end means.
-/
namespace Go.Proofs.Ytbgkfiijfocgiaa
set_option linter.unusedSimpArgs false
set_option linter.unusedVariables false
open Go.RowKit Go.Sort

theorem OSl.init {w : World} {g o n c : Nat} {xs : List Value} {u : Value} (h : OSl w 1 g o (n + 1) c (xs ++ [u])) : OSl w 1 g o n c xs := by
  have hl := h.len
  simp only [List.length_append, List.length_cons, List.length_nil] at hl
  refine ⟨by omega, by have := h.le; omega, h.max, h.blk, fun i hi => ?_, h.some, h.free⟩
  rw [h.cell i (by omega), List.getElem?_append_left (by omega)]
/-- One function more at the end of a slice of functions, nil or one's own. -/
theorem fn_append {w : World} {v : Value} {R : List Value} (h : (v = .slice none 0 0 ∧ R = []) ∨ ∃ gr og cr, v = .slice (some ⟨gr, og, none⟩) R.length cr ∧ OSl w 1 gr og R.length cr R) (hL : R.length ≤ 1000) (ty : TypeId) (u : Value) (hu : u.oneCell' = true) :
    ∃ g' o' c' w', (Builtin.append_ #[82, 82] ty #[v, .slice (some ⟨w.heap.size, 0, none⟩) 1 1]).run Try.prog (w.alloc (.cells #[u] 1)) = .ok (.slice (some ⟨g', o', none⟩) (R.length + 1) c') w' ∧ OSl w' 1 g' o' (R.length + 1) c' (R ++ [u]) ∧ (w.alloc (.cells #[u] 1)).grownBy w' v.ownBlock ∧
      (some g' = v.ownBlock ∨ g' = (w.alloc (.cells #[u] 1)).heap.size) := by
  obtain ⟨i0, hi0, hz0, hz1, hz2⟩ := info_parts2n Try.info1f
  have hnews := World.news_of_block (w := w.alloc (.cells #[u] 1)) (cs := #[u]) (t := 1) (fr := (0, 0)) (heap_alloc_new w _)
  have h1 : ∀ y ∈ [u], y.oneCell' = true := by simpa using hu
  rcases h with ⟨rfl, rfl⟩ | ⟨g, off, cap, rfl, h2⟩
  · obtain ⟨v', w', hr, hown, hg, hn⟩ := run_append_own (P := Try.prog) (w.alloc (.cells #[u] 1)) 0 82 ty 1 i0 _ 1 8 Try.underlying82 hi0 hz0 hz1 hz2 rfl (by omega) (.slice none 0 0) 0 [] (World.ownsRow_nil _ _ _ _) ⟨w.heap.size, 0, none⟩ 1 1 [u] rfl hnews h1 (by unfold maxLen; omega) (by omega) (by simp)
    have hr2 := run_append_nil (P := Try.prog) (w.alloc (.cells #[u] 1)) 82 ty 1 i0 _ Try.underlying82 hi0 hz0 ⟨w.heap.size, 0, none⟩ 1 1 [u] (by rw [hz1]; rfl) hnews (by omega) (by omega) (by rw [hz2]; omega)
    obtain ⟨g2, cap2, hv2, hb2, hO⟩ := OSl.of_ownsRow hown (by rw [Ne, hn]; omega)
    subst hv2
    have e := hr
    rw [hr2] at e
    simp only [Result.ok.injEq, Value.slice.injEq, Option.some.injEq, Addr.mk.injEq] at e
    exact ⟨g2, 0, cap2, w', hr, hO, hg, .inr e.1.1.1.symm⟩
  · have hO : OSl (w.alloc (.cells #[u] 1)) 1 g off R.length cap R := OSl.below h2 ((Below.refl _ _).alloc (Nat.le_refl _) _) h2.blk
    obtain ⟨g', off', cap', w', hr, hO', hg, hat⟩ := run_append_os (P := Try.prog) (w.alloc (.cells #[u] 1)) 82 ty 1 i0 _ 1 8 Try.underlying82 hi0 hz0 hz1 hz2 rfl (by omega) g off R.length cap _ hO ⟨w.heap.size, 0, none⟩ 1 1 [u] rfl hnews h1 (by unfold maxLen; omega) (by omega)
    refine ⟨g', off', cap', w', hr, hO', hg, ?_⟩
    rcases hat with h | h
    · rw [h]; exact .inl rfl
    · exact .inr h
/-- An append whose run is known, in a drawn region. -/
theorem step_append_run6 {P : Program} (w : World) {ops : Array Oper} {o : Oper} {a : Act} {K : Act → World → Prop} {Q : Exit → Act → World → Prop} {E : Prop} (hgd : o.guard = none) (s x : Operand) (t tn : TypeId)
    (ho : o.op = .call { callee := .builtin .append, args := #[s, x], argTypes := #[t, tn] }) (vs vx : Value) (hs : a.eval s = vs) (hx : a.eval x = vx)
    (v' : Value) (w' : World) (hr : (Builtin.append_ #[t, tn] o.type #[vs, vx]).run P w = .ok v' w') (h : K (a.put o.dst v') w') :
    if Region.wanted o (yielded ops a.tmps) = true then Oper.wp P o a w K Q else E := by
  have hw : Region.wanted o (yielded ops a.tmps) = true := by simp [Region.wanted, hgd]
  rw [if_pos hw]
  exact Lib.wp_append_run w s x t tn ho vs vx hs hx v' w' hr h

theorem Sq.grew {X : Cx} {w0 : World} {K : Nat → Nat} {w w' : World} {x : List Int} {L ps : List Pl} {M : Pl → Bool} (h : Sq X w0 K w x L ps M) (hg : Grew w w') : Sq X w0 K w' x L ps M := by
  have mv : Mv (fun _ _ => False) K K w w' := Mv.of_grew hg _
  exact ⟨h.v.mv mv (by simp), h.n.mv mv (by simp), h.l.mv mv (by simp) (fun b => by simp), h.rt, fun k hk => (h.r k hk).mv h.rt mv (by simp) (fun b => by simp), fun a ha => (h.p a ha).mv mv (by simp) (by simp) (by simp), h.inj, h.old, grown_mv h.grown h.old mv (fun b => by simp)⟩
/-- New tags for blocks that are new. -/
theorem Sq.retag {X : Cx} {w0 : World} {K K' : Nat → Nat} {w w' : World} {x : List Int} {L ps : List Pl} {M : Pl → Bool} (h : Sq X w0 K w x L ps M) (hg : Grew w w') (hK : ∀ b, b < w.heap.size → K' b = K b) : Sq X w0 K' w' x L ps M := by
  have mv : Mv (fun _ _ => False) K K' w w' := ⟨hg.1.os, hg.1.tape, hg.1.output, hg.1.size, fun b hb _ => hg.1.block b hb, hK⟩
  refine ⟨h.v.mv mv (by simp), h.n.mv mv (by simp), h.l.mv mv (by simp) (fun b => by simp), ?_, fun k hk => (h.r k hk).mv h.rt mv (by simp) (fun b => by simp), fun a ha => (h.p a ha).mv mv (by simp) (by simp) (by simp), h.inj, old_mv h.grown h.old mv, grown_mv h.grown h.old mv (fun b => by simp)⟩
  obtain ⟨_, v, hv, _⟩ := h.r 0 (by omega)
  rw [mv.tag _ (World.block_lt_of_cell? _ _ hv)]
  exact h.rt
/-- A rule becomes a reader. -/
theorem Sq.reads {X : Cx} {w0 : World} {K : Nat → Nat} {w X1 w4 : World} {x : List Int} {L ps : List Pl} {M : Pl → Bool} (h : Sq X w0 K w x L ps M) {e : Pl} (hP : CP X K w M e) {k : Nat} (hk : k < 8) (hf : e.r.fr = (k : Int)) (hnew : ∀ a ∈ ps, a.wt ≠ e.wt)
    {v : Value} (hv : w.cell? ⟨X.br, k, none⟩ = some v) (h1 : Grew w X1) {g' o' c' n : Nat} (hn : n = (ps.filter (fun e => decide (e.r.fr = (k : Int)))).length) (hO : OSl w4 1 g' o' (n + 1) c' ((ps.filter (fun e => decide (e.r.fr = (k : Int)))).map (enlV X) ++ [enlV X e])) (hg : X1.grownBy w4 v.ownBlock) (hat : some g' = v.ownBlock ∨ w.heap.size ≤ g') :
    Sq X w0 (tagd K g' (10 + k)) (w4.setCell ⟨X.br, k, none⟩ (.slice (some ⟨g', o', none⟩) (n + 1) c')) x L (ps ++ [e]) M := by
  obtain ⟨f0, v', hv', hcase⟩ := h.r k hk
  rw [hv] at hv'
  simp only [Option.some.injEq] at hv'
  subst hv'
  have hown : ∀ b, v.ownBlock = some b → K b = 10 + k := fun b hb => by
    rcases hcase with ⟨rfl, _⟩ | ⟨gr, og, cr, rfl, _, h4⟩
    · cases hb
    · simp only [Value.ownBlock, Option.some.injEq] at hb; subst hb; exact h4
  have s1 := h1.1.size
  have mv : Mv (fun b t => t = 10 + k) K (tagd K g' (10 + k)) w w4 := by
    refine Mv.tagd (T := fun b t => t = 10 + k) (K := K) (K' := K) ⟨hg.os.trans h1.1.os, hg.tape.trans h1.1.tape, hg.output.trans h1.1.output, Nat.le_trans s1 hg.size, fun b hb hT => (hg.block b (by omega) (fun e1 => hT (hown b e1.symm))).trans (h1.1.block b hb), fun _ _ => rfl⟩ (fun hlt => ?_)
    rcases hat with h' | h'
    · exact hown g' h'.symm
    · omega
  have hbr : X.br < w.heap.size := World.block_lt_of_cell? _ _ hv
  have tb : (tagd K g' (10 + k)) X.br = 3 := by rw [mv.tag _ hbr]; exact h.rt
  have cb : ∀ j u, w.cell? ⟨X.br, j, none⟩ = some u → w4.cell? ⟨X.br, j, none⟩ = some u := fun j u hu => mv.cell hu (by rw [h.rt]; omega)
  have m2 : Mv (fun b t => t = 3) (tagd K g' (10 + k)) (tagd K g' (10 + k)) w4 (w4.setCell ⟨X.br, k, none⟩ (.slice (some ⟨g', o', none⟩) (n + 1) c')) := Mv.set _ _ _ (fun _ => tb)
  have p2 : ∀ a, CP X K w M a → CP X (tagd K g' (10 + k)) (w4.setCell ⟨X.br, k, none⟩ (.slice (some ⟨g', o', none⟩) (n + 1) c')) M a := fun a ha => (ha.mv mv (by omega) (by omega) (by omega)).mv m2 (by simp) (by simp) (by simp)
  refine ⟨(h.v.mv mv (by omega)).mv m2 (by simp), (h.n.mv mv (by omega)).mv m2 (by simp), (h.l.mv mv (by omega) (fun b => by omega)).mv m2 (by simp) (fun b => by simp), tb, fun j hj => ?_, fun a ha => ?_, ?_, old_mv (grown_mv h.grown h.old mv (fun b => by omega)) (old_mv h.grown h.old mv) m2, grown_mv (grown_mv h.grown h.old mv (fun b => by omega)) (old_mv h.grown h.old mv) m2 (fun b => by simp)⟩
  · by_cases hjk : j = k
    · subst hjk
      have ef : (ps ++ [e]).filter (fun e => decide (e.r.fr = (j : Int))) = ps.filter (fun e => decide (e.r.fr = (j : Int))) ++ [e] := by
        rw [List.filter_append]; simp [hf]
      refine ⟨by rw [World.frozen?_setCell]; exact mv.free hbr f0 (by rw [h.rt]; omega), _, World.cell?_setCell_same _ _ _ (cb _ _ hv), .inr ⟨g', o', c', ?_, ?_, tagd_same _ _ _⟩⟩
      · rw [ef, hn]; simp
      · rw [ef]
        have := m2.os1 hO (by rw [tagd_same]; omega)
        rw [List.map_append, List.length_append, ← hn]
        exact this
    · have ef : (ps ++ [e]).filter (fun e => decide (e.r.fr = (j : Int))) = ps.filter (fun e => decide (e.r.fr = (j : Int))) := by
        rw [List.filter_append]
        have : ¬ (k : Int) = (j : Int) := by omega
        simp [hf, this]
      rw [ef]
      obtain ⟨fj, u, hu, hc⟩ := (h.r j hj).mv h.rt mv (by omega) (fun b => by omega)
      refine ⟨by rw [World.frozen?_setCell]; exact fj, u, ?_, ?_⟩
      · rw [World.cell?_setCell_other _ _ _ _ (by simp [Ne.symm hjk])]; exact hu
      · rcases hc with hc | ⟨gr, og, cr, h3, h4, h5⟩
        · exact .inl hc
        · exact .inr ⟨gr, og, cr, h3, m2.os1 h4 (by rw [h5]; omega), h5⟩
  · rcases List.mem_append.1 ha with h' | h'
    · exact p2 a (h.p a h')
    · simp only [List.mem_singleton] at h'
      rw [h']; exact p2 e hP
  · intro a ha b hb hab
    rcases List.mem_append.1 ha with h' | h' <;> rcases List.mem_append.1 hb with h'' | h''
    · exact h.inj a h' b h'' hab
    · simp only [List.mem_singleton] at h''
      rw [h''] at hab
      exact absurd hab (hnew a h')
    · simp only [List.mem_singleton] at h'
      rw [h'] at hab
      exact absurd hab.symm (hnew b h'')
    · simp only [List.mem_singleton] at h' h''
      rw [h', h'']
/-- One is taken off the list's end. -/
theorem Sq.pop {X : Cx} {w0 : World} {K : Nat → Nat} {w : World} {x : List Int} {L ps : List Pl} {M : Pl → Bool} {e : Pl} (h : Sq X w0 K w x (L ++ [e]) ps M) : ∃ gw ow cw, w.cell? ⟨X.bw, 0, none⟩ = some (.slice (some ⟨gw, ow, none⟩) (L.length + 1) cw) ∧ w.frozen? ⟨X.bw, 0, none⟩ = false ∧ w.cell? ⟨gw, ow + L.length, none⟩ = some (fireV X e) ∧ L.length + 1 ≤ cw ∧ cw ≤ maxLen ∧
    Sq X w0 K (w.setCell ⟨X.bw, 0, none⟩ (.slice (some ⟨gw, ow, none⟩) L.length cw)) x L ps M := by
  obtain ⟨gw, ow, cw, c1, c2, c3, c4, c5⟩ := h.l
  have eL : (L ++ [e]).length = L.length + 1 := by simp
  rw [eL] at c1 c3
  rw [List.map_append] at c3
  have mv : Mv (fun b t => t = 2) K K w (w.setCell ⟨X.bw, 0, none⟩ (.slice (some ⟨gw, ow, none⟩) L.length cw)) := Mv.set _ _ _ (fun _ => c5)
  refine ⟨gw, ow, cw, c1, c2, ?_, c3.le, c3.max, h.v.mv mv (by simp), h.n.mv mv (by simp), ⟨gw, ow, cw, World.cell?_setCell_same _ _ _ c1, by rw [World.frozen?_setCell]; exact c2, mv.os1 (OSl.init c3) (by rw [c4]; omega), c4, c5⟩, h.rt, fun k hk => (h.r k hk).mv h.rt mv (by simp) (fun b => by omega), fun a ha => (h.p a ha).mv mv (by simp) (by simp) (by simp), h.inj, h.old, grown_mv h.grown h.old mv (fun b => by omega)⟩
  rw [c3.cell _ (by omega), List.getElem?_append_right (by simp)]
  simp

/-- What the loop over the list keeps. -/
def Wk (xs : List Int) (rs : List Ru) (ps L : List Pl) (y : List Int) : Prop := Low xs rs y ∧ L ⊆ ps ∧ L.Nodup ∧ ∀ e ∈ ps, e ∉ L → asks y e.r ≤ el y e.r.to.toNat
def wkM (y : List Int) (L : List Pl) : Nat := rest8 y * 21 + L.length
theorem Wk.step {xs : List Int} {rs : List Ru} {ps L L' : List Pl} {y : List Int} {e : Pl} (h : Wk xs rs ps (L ++ [e]) y) (hrs : okRs rs = true) (hps : ps.map (·.r) = rs) (h1 : L ⊆ L') (h2 : L' ⊆ ps) (h3 : L'.Nodup)
    (h4 : ¬ el y e.r.to.toNat < asks y e.r → L' = L) (h5 : el y e.r.to.toNat < asks y e.r → ∀ a ∈ ps, a.r.fr = e.r.to → a ∈ L') : Wk xs rs ps L' (fire y e.r) ∧ wkM (fire y e.r) L' < wkM y (L ++ [e]) := by
  obtain ⟨hl, hs, hn, hst⟩ := h
  have he : e ∈ ps := hs (by simp)
  have hm : ∀ a ∈ ps, a.r ∈ rs := fun a ha => by rw [← hps]; exact List.mem_map_of_mem ha
  have hok := okRs_mem hrs (hm e he)
  have ho8 := hl.1
  have h20 : ps.length ≤ 20 := by have := okRs_len hrs; rw [← hps, List.length_map] at this; exact this
  have hL20 := nodup_le h3 h2
  refine ⟨⟨hl.fire hrs (hm e he), h2, h3, fun a ha haL => ?_⟩, ?_⟩
  · have hoa := okRs_mem hrs (hm a ha)
    by_cases hlt : el y e.r.to.toNat < asks y e.r
    · have hne : a.r.fr ≠ e.r.to := fun hf => haL (h5 hlt a ha hf)
      have ka := okRu_iff.1 hoa
      have ke := okRu_iff.1 hok
      have e1 : asks (fire y e.r) a.r = asks y a.r := by
        unfold asks
        rw [el_fire ho8.1 hok, if_neg (by omega)]
      rw [e1]
      have up := fire_up ho8.1 hok a.r.to.toNat (by omega)
      by_cases hae : a = e
      · subst hae
        rw [el_fire ho8.1 hok, if_pos rfl]
        omega
      · have := hst a ha (fun hmem => by
          rcases List.mem_append.1 hmem with h' | h'
          · exact haL (h1 h')
          · exact hae (by simpa using h'))
        omega
    · rw [fire_same ho8.1 hok hlt]
      by_cases hae : a = e
      · subst hae; omega
      · exact hst a ha (fun hmem => by
          rcases List.mem_append.1 hmem with h' | h'
          · exact haL (h1 h')
          · exact hae (by simpa using h'))
  · unfold wkM
    by_cases hlt : el y e.r.to.toNat < asks y e.r
    · have ke := okRu_iff.1 hok
      have := rest8_lt ho8 (fire_ok ho8 hok) (fire_up ho8.1 hok) (i := e.r.to.toNat) (by omega) (by rw [el_fire ho8.1 hok, if_pos rfl]; omega)
      simp only [List.length_append, List.length_cons, List.length_nil]
      omega
    · rw [fire_same ho8.1 hok hlt, h4 hlt]
      simp
theorem Wk.done {xs : List Int} {rs : List Ru} {ps : List Pl} {y : List Int} (h : Wk xs rs ps [] y) (hps : ps.map (·.r) = rs) : IsSet xs rs y := by
  refine h.1.done (fun r hr => ?_)
  rw [← hps] at hr
  obtain ⟨e, he, rfl⟩ := List.mem_map.1 hr
  exact h.2.2.2 e he (by simp)
theorem Wk.start {xs : List Int} {rs : List Ru} {ps : List Pl} (hx : Ok8 xs) (hn : ps.Nodup) : Wk xs rs ps ps xs := ⟨Low.start rs hx, fun _ h => h, hn, fun e he hne => absurd he hne⟩
end Go.Proofs.Ytbgkfiijfocgiaa
