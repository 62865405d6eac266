/-
  Several texts in one: Lgr Lgq.
-/
import Derived.Test.YtbnpliobigjapaaDoorKy
import Derived.Test.YtbnpliobigjapaaDoorGr
import Derived.Test.YtbnpliobigjapaaDoorLa
import Derived.Deep.RegionHeld3
import Derived.Deep.CutRange
import Derived.Deep.CutBlock
/-
  The specification's Recovered.
-/
namespace Go.Proofs.YtbnpliobigjapaaDoor
set_option linter.unusedVariables false
set_option linter.unusedSimpArgs false
open Go.RowKit Go.Sort

/-- No blank among the first k. -/
def No32 (d : List UInt8) (k : Nat) : Prop := ∀ j, j < k → byt d j ≠ 32
theorem no32_mem {d : List UInt8} {k : Nat} (h : No32 d k) (hk : k ≤ d.length) : ∀ x ∈ d.take k, x ≠ 32 := by
  intro x hx e
  obtain ⟨j, hj, rfl⟩ := List.getElem_of_mem hx
  rw [List.length_take] at hj
  have := h j (by omega)
  rw [byt_get (by omega)] at this
  rw [List.getElem_take] at e
  rw [e] at this
  exact this rfl
theorem upto32_end {d : List UInt8} (h : No32 d d.length) : upto 32 d = d := by
  have := no32_mem h (Nat.le_refl _)
  rw [List.take_length] at this
  exact upto_none this
theorem upto32_mid {d : List UInt8} {k : Nat} (h : No32 d k) (hk : k < d.length) (hb : byt d k = 32) : upto 32 d = d.take k := by
  have e : d[k] = 32 := UInt8.toNat_inj.1 (by rw [← byt_get hk, hb]; rfl)
  have : d = d.take k ++ 32 :: d.drop (k + 1) := by
    rw [← e, ← List.drop_eq_getElem_cons hk, List.take_append_drop]
  conv => lhs; rw [this]
  exact upto_at (no32_mem h (by omega)) _
theorem frames_exist : ∀ (n : Nat) (d : List UInt8), d.length ≤ n → ∃ ts, IsFrames d ts
  | 0, d, h => ⟨[], isFrames_of (r := d) rfl (fun t ht => by cases ht) (fun t hb => by
      have := hb.2.length_le
      rw [frL_len] at this
      omega)⟩
  | n + 1, d, h => by
    by_cases hb : ∃ t, Begins d t
    · obtain ⟨t, h1, r, h2⟩ := hb
      have hp := frL_pos t
      have hl := congrArg List.length h2
      rw [List.length_append] at hl
      obtain ⟨ts, hts⟩ := frames_exist n r (by omega)
      obtain ⟨r2, e, h4, h5⟩ := hts.at_
      refine ⟨t :: ts, isFrames_of (r := r2) ?_ ?_ h5⟩
      · rw [bytesOf_cons, List.append_assoc, ← e, h2]
      · intro x hx
        rcases List.mem_cons.1 hx with e | e
        · rw [e]; exact h1
        · exact h4 x e
    · exact ⟨[], isFrames_of (r := d) rfl (fun t ht => by cases ht) (fun t ht => hb ⟨t, ht⟩)⟩
/-- What is recovered of a disk with the frames ts. -/
def recLg (ts : List (List UInt8)) (first : Int) : Lg := if 1 ≤ first ∧ first ≤ 1000000 then recF (first, []) ts else zeroLg
theorem recF_drop_yes {l : Lg} {ts : List (List UInt8)} {k : Nat} (hk : k < ts.length) (h : (recStep l (ts.getD k [])).2 = true) : recF l (ts.drop k) = recF (recStep l (ts.getD k [])).1 (ts.drop (k + 1)) := by
  have e : ts.getD k [] = ts[k] := by simp [hk]
  rw [List.drop_eq_getElem_cons hk, recF, ← e, if_pos h]
theorem recF_drop_no {l : Lg} {ts : List (List UInt8)} {k : Nat} (hk : k < ts.length) (h : (recStep l (ts.getD k [])).2 = false) : recF l (ts.drop k) = l := by
  have e : ts.getD k [] = ts[k] := by simp [hk]
  rw [List.drop_eq_getElem_cons hk, recF, ← e, if_neg (by rw [h]; simp)]

/-- What Recovered holds: the answer's room, the log so far in the next block, the frames' texts. -/
structure RcS (w wr : World) (l : Lg) (a : Option Addr) (c g og cg : Nat) (ts : List (List UInt8)) (fp : Fp) : Prop where
  res : Bx wr w.heap.size 26 #[.int .i64 0, .slice none 0 0]
  own : Bx wr (w.heap.size + 1) 26 #[.int .i64 l.1, .slice a l.2.length c]
  txt : Cel.ow wr (scl l.2) (.slice a l.2.length c) fp
  fpl : ∀ b, fp b → w.heap.size + 1 < b
  frm : OS wr g og ts.length cg ts
  hg : w.heap.size + 1 < g
  below : Below w.heap.size w wr
theorem RcS.step {w wr w' : World} {l : Lg} {a : Option Addr} {c g og cg : Nat} {ts : List (List UInt8)} {fp : Fp} (h : RcS w wr l a c g og cg ts fp) (hb : Below wr.heap.size wr w') : RcS w w' l a c g og cg ts fp :=
  ⟨h.res.below hb, h.own.below hb, Cel.ow_below h.txt hb, h.fpl, h.frm.below hb h.frm.blk, h.hg, h.below.trans (hb.mono h.below.size)⟩
theorem RcS.put {w wr : World} {l l' : Lg} {a a' : Option Addr} {c c' g og cg : Nat} {ts : List (List UInt8)} {fp fp' : Fp} (h : RcS w wr l a c g og cg ts fp) (ho : Cel.ow wr (scl l'.2) (.slice a' l'.2.length c') fp') (hf : ∀ b, fp' b → w.heap.size + 1 < b) :
    RcS w ((wr.setCell ⟨w.heap.size + 1, 0, none⟩ (.int .i64 l'.1)).setCell ⟨w.heap.size + 1, 1, none⟩ (.slice a' l'.2.length c')) l' a' c' g og cg ts fp' := by
  have hw := wrt2 wr (w.heap.size + 1) (x := .int .i64 l'.1) (y := .slice a' l'.2.length c')
  have hg := h.hg
  refine ⟨h.res.wrt hw (by omega), ?_, Cel.ow_wrt ho hw (fun b hb e => by have := hf b hb; omega), hf, osl_wrt h.frm hw (by omega), hg, below2 h.below (by omega)⟩
  have := (h.own.setC 0 (.int .i64 l'.1)).setC 1 (.slice a' l'.2.length c')
  simpa using this
theorem wrapJ {j : Nat} (h : j ≤ 2000) : IntKind.i64.wrap ((j : Int) + 1) = (j : Int) + 1 := by rw [IntKind.wrap_i64]; omega
theorem RcS.ans {w wr : World} {l : Lg} {a : Option Addr} {c g og cg : Nat} {ts : List (List UInt8)} {fp : Fp} (h : RcS w wr l a c g og cg ts fp) : NewO w ((wr.setCell ⟨w.heap.size, 0, none⟩ (.int .i64 l.1)).setCell ⟨w.heap.size, 1, none⟩ (.slice a l.2.length c)) (scl l.2) (.slice a l.2.length c) :=
  ⟨fp, Cel.ow_wrt h.txt (wrt2 wr w.heap.size) (fun b hb e => by have := h.fpl b hb; omega), fun b hb => by have := h.fpl b hb; omega, below2 h.below (Nat.le_refl _)⟩

attribute [local irreducible] sv
set_option maxRecDepth 100000 in
set_option maxHeartbeats 6400000 in
theorem lgrS_any (d : List UInt8) (first : Int) (w : World) (hl : d.length ≤ 1048576) :
    Calls Tryd.prog 16 #[.string (sv d), .int .i64 first] w fun e w' => ∃ ts, IsFrames d ts ∧ AnsLg w w' e (recLg ts first) := by
  cases e0 : inB first 1 1000000 with
  | false =>
    have hno : ¬ (1 ≤ first ∧ first ≤ 1000000) := fun h => by rw [inB7.2 h] at e0; cases e0
    have HI : Hid (∃ ts, IsFrames d ts) := frames_exist d.length d (Nat.le_refl _)
    go_enter Tryd.func16, Tryd.ntmps16
    go_wp2_with (go_at_call 47; refine (l1In_any _ _ _ _).mono ?_; rintro e w' ⟨rfl, hw'⟩; rw [hw']; clear hw')
    refine bodyPost_ret (v := .agg #[.int .i64 0, .slice none 0 0]) (by simp [results, Tryd.results16, go_sem]) rfl ?_
    obtain ⟨ts, hts⟩ := HI.out
    refine ⟨ts, hts, ?_⟩
    rw [recLg, if_neg hno]
    exact ⟨none, 0, rfl, newO_nil (by first | exact oneA _ _ | exact below2 (oneA _ _) (Nat.le_refl _))⟩
  | true =>
    have hin := inB7.1 e0
    have hFr := specFrames_any d ((w.alloc (.cells #[.int .i64 0, .slice none 0 0] 26)).alloc (.cells #[.int .i64 first, .slice none 0 0] 26)) hl
    have hR0 : Bx ((w.alloc (.cells #[.int .i64 0, .slice none 0 0] 26)).alloc (.cells #[.int .i64 first, .slice none 0 0] 26)) w.heap.size 26 #[.int .i64 0, .slice none 0 0] := (Bx.new _ _ _).alloc _
    have hR1 : Bx ((w.alloc (.cells #[.int .i64 0, .slice none 0 0] 26)).alloc (.cells #[.int .i64 first, .slice none 0 0] 26)) (w.heap.size + 1) 26 #[.int .i64 first, .slice none 0 0] := by
      have := Bx.new (w.alloc (.cells #[.int .i64 0, .slice none 0 0] 26)) 26 #[.int .i64 first, .slice none 0 0]
      rwa [World.size_alloc] at this
    have hB0 : Below w.heap.size w ((w.alloc (.cells #[.int .i64 0, .slice none 0 0] 26)).alloc (.cells #[.int .i64 first, .slice none 0 0] 26)) := ((Below.refl _ _).alloc (Nat.le_refl _) _).alloc (by simp) _
    have hsW : ((w.alloc (.cells #[.int .i64 0, .slice none 0 0] 26)).alloc (.cells #[.int .i64 first, .slice none 0 0] 26)).heap.size = w.heap.size + 1 + 1 := by simp
    have HST : Hid (∀ w2 ts g og cg, ((w.alloc (.cells #[.int .i64 0, .slice none 0 0] 26)).alloc (.cells #[.int .i64 first, .slice none 0 0] 26)).heap.size ≤ g → OS w2 g og (List.length ts) cg ts → Below ((w.alloc (.cells #[.int .i64 0, .slice none 0 0] 26)).alloc (.cells #[.int .i64 first, .slice none 0 0] 26)).heap.size ((w.alloc (.cells #[.int .i64 0, .slice none 0 0] 26)).alloc (.cells #[.int .i64 first, .slice none 0 0] 26)) w2 → RcS w w2 (first, []) none 0 g og cg ts (fun _ => False)) := fun w2 ts g og cg hg ho hb => ⟨hR0.below hb, hR1.below hb, ow_scl.2 ⟨none, 0, none, rfl, OSo.nil _ _ plainN, fun b => by simp⟩, fun b h => absurd h id, ho, by omega, hB0.trans (hb.mono hB0.size)⟩
    have HIN : Hid (1 ≤ first ∧ first ≤ 1000000) := hin
    unfold AnsF at hFr
    clear hR0 hR1 hB0 hsW hin
    go_enter Tryd.func16, Tryd.ntmps16
    go_wp2_with (first
      | (go_at_call 47; refine (l1In_any _ _ _ _).mono ?_; rintro e w' ⟨rfl, hw'⟩; rw [hw']; clear hw')
      | (go_at_call 48; refine hFr.mono ?_; rintro e w2 ⟨ts, hIs, g, og, cg, rfl, hgg, hOS, hb2⟩))
    have HS0 : Hid (RcS w w2 (first, []) none 0 g og cg ts (fun _ => False)) := HST.out w2 ts g og cg hgg hOS hb2
    have HIS : Hid (IsFrames d ts) := hIs
    have hcnt : ts.length ≤ 1048576 := by
      obtain ⟨r, h1, h2, h3⟩ := hIs.at_
      have : Rd d ts := ⟨⟨r, h1⟩, h2⟩
      have := this.count
      omega
    have HTL : Hid (∀ k, k < ts.length → (ts.getD k []).length ≤ 2000) := fun k hk => by
      obtain ⟨r, h1, h2, h3⟩ := hIs.at_
      have := h2 _ (List.getElem_mem hk)
      simpa [hk] using this
    clear hFr HST hgg hOS hb2 hIs e0
    go_loopw [8] (fun i wr => ∃ (k : Nat) (l : Lg) (a : Option Addr) (c : Nat) (fp : Fp), k ≤ ts.length ∧ i = .int .i64 k ∧ RcS w wr l a c g og cg ts fp ∧ okLg l ∧ recF (first, []) ts = recF l (ts.drop k)) (fun i _ => ts.length - (intOf i).toNat)
    case atStart => exact ⟨0, _, none, 0, _, Nat.zero_le _, rfl, HS0.out, ⟨HIN.out, by simp, fun i hi => by simp at hi⟩, rfl⟩
    case round =>
      obtain ⟨k, l, a, c, fp, hk, rfl, hS, hok, hrec⟩ := hrel
      by_cases hlt : k < ts.length
      · have HS : Hid (RcS w wr l a c g og cg ts fp) := hS
        have hck := hS.frm.cellAt hlt
        have ht2 := HTL.out k hlt
        have k1 : (k : Int) < (ts.length : Int) := by omega
        have k0 : (0 : Int) ≤ (k : Int) := by omega
        have HYes : Hid (∀ t, ts.getD k [] = t → (recStep l t).2 = true → recF (first, []) ts = recF (recStep l t).1 (ts.drop (k + 1)) ∧ okLg (recStep l t).1) := fun t e h => by
          subst e
          exact ⟨by rw [hrec, recF_drop_yes hlt h], recStep_ok hok⟩
        have HNo : Hid (∀ t, ts.getD k [] = t → (recStep l t).2 = false → recLg ts first = l) := fun t e h => by
          subst e
          rw [recLg, if_pos HIN.out, hrec, recF_drop_no hlt h]
        have HOk : Hid (okLg l) := hok
        clear hS hok hrec
        generalize ht : ts.getD k [] = t at *
        have HYes2 := HYes.out t rfl
        have HY2 : Hid _ := HYes2
        have HNo2 := HNo.out t rfl
        have HN2 : Hid ((recStep l t).2 = false → recLg ts first = l) := HNo2
        clear HYes HNo HYes2 HNo2 ht
        have hsz := sv_size t
        go_upto_block 2 with fail
        go_cut [9] from 31 to 48 (fun s9 wx => ∃ j : Nat, s9 = .int .i64 j ∧ j ≤ t.length ∧ upto 32 t = t.take j ∧ wx = wr)
        case first =>
          go_wp2_with fail
          go_loop [9] (fun i => ∃ j : Nat, j ≤ t.length ∧ i = .int .i64 j ∧ No32 t j) (fun i => t.length - (intOf i).toNat)
          case atStart => exact ⟨0, Nat.zero_le _, rfl, fun j hj => by omega⟩
          case round =>
            obtain ⟨j, hj, rfl, hno⟩ := hrel
            have HNO : Hid (No32 t j) := hno
            clear hno
            by_cases hjl : j < t.length
            · have hby := sv_byt hjl
              have j1 : (j : Int) < (t.length : Int) := by omega
              have j0 : (0 : Int) ≤ (j : Int) := by omega
              have hjs : j < (sv t).size := by rw [hsz]; exact hjl
              by_cases h32 : byt t j = 32
              · have HU : Hid (upto 32 t = t.take j) := upto32_mid HNO.out hjl h32
                have hb32 : (((byt t j : Nat) : Int) != 32) = false := by rw [h32]; rfl
                clear h32
                go_wp2
                go_meet
                exact ⟨j, rfl, hj, HU.out, rfl⟩
              · have hb32 : (((byt t j : Nat) : Int) != 32) = true := by simp; omega
                have HN3 : Hid (No32 t (j + 1)) := fun i hi => by
                  rcases Nat.lt_succ_iff_lt_or_eq.1 hi with h | h
                  · exact HNO.out i h
                  · rw [h]; exact h32
                clear h32
                go_wp2
                go_round
                case rel => exact ⟨j + 1, by omega, by go_num, HN3.out⟩
                case measure => simp [intOf]; omega
            · have hje : j = t.length := by omega
              have HU : Hid (upto 32 t = t.take j) := by rw [Hid, hje, List.take_length]; exact upto32_end (hje ▸ HNO.out)
              subst hje
              go_wp2
              go_meet
              exact ⟨t.length, rfl, Nat.le_refl _, HU.out, rfl⟩
        case rest =>
          obtain ⟨j, rfl, hj, hup, hwc⟩ := hcut
          rw [hwc]
          clear hwc
          have hRd := specRead_any (t.take j) wr (by rw [List.length_take]; omega)
          have hlj : (upto 32 t).length = j := by rw [hup, List.length_take]; omega
          have HRS : Hid (∀ n is, rdL (t.take j) = (n, is) → recStep l t = if is = true ∧ j < t.length then addLg l n (t.drop (j + 1)) else (l, false)) := fun n is e => by
            rw [recStep, hlj, hup, e]
          have hex : (sv t).extract 0 j = sv (t.take j) := by rw [sv_sub]; simp
          have j0 : (0 : Int) ≤ (j : Int) := by omega
          have j2 : (j : Int) ≤ (t.length : Int) := by omega
          obtain ⟨n, is, hrd⟩ : ∃ n is, rdL (t.take j) = (n, is) := ⟨_, _, rfl⟩
          have HRS2 : Hid (recStep l t = if is = true ∧ j < t.length then addLg l n (t.drop (j + 1)) else (l, false)) := HRS.out n is hrd
          rw [hrd] at hRd
          simp only at hRd
          clear hup hlj HRS hrd
          obtain ⟨o0, o1⟩ := HS.out.own.r2
          obtain ⟨r0, r1⟩ := HS.out.res.r2
          have f0 := HS.out.res.f 0
          have f1 := HS.out.res.f 1
          cases is with
          | false =>
            have HE : Hid (recLg ts first = l) := HN2.out (by rw [HRS2.out]; simp)
            have HA := HS.out.ans
            go_wp2_with (go_at_call 49; refine hRd.mono ?_; rintro e w' ⟨rfl, hw'⟩; rw [hw']; clear hw')
            refine bodyPost_ret (v := .agg #[.int .i64 l.1, .slice a l.2.length c]) (by simp [results, Tryd.results16, go_sem, *]) rfl ?_
            refine ⟨ts, HIS.out, ?_⟩
            rw [HE.out]
            exact ⟨a, c, rfl, HA⟩
          | true =>
            by_cases hjl : j < t.length
            · have HR3 : Hid (recStep l t = addLg l n (t.drop (j + 1))) := by rw [Hid, HRS2.out, if_pos ⟨rfl, hjl⟩]
              have jne : ((j : Int) == (t.length : Int)) = false := by simp; omega
              have hl40 := HOk.out.2.1
              have hsl : (t.drop (j + 1)).length ≤ 9223372036854775807 := by rw [List.length_drop]; omega
              have hAd : ∀ X, Below wr.heap.size wr X → Calls Tryd.prog 13 #[.agg #[.int .i64 l.1, .slice a l.2.length c], .int .i64 n, .string (sv (t.drop (j + 1)))] X fun e w' => AnsLb X w' e (recStep l t) := fun X hX => by
                rw [HR3.out]
                exact lgaS_any l.1 a c l.2 n (t.drop (j + 1)) X ((ow_txp HS.out.txt).below hX) (by omega) hsl
              have HOk2 : Hid ((recStep l t).2 = true → recF (first, []) ts = recF (recStep l t).1 (ts.drop (k + 1)) ∧ okLg (recStep l t).1) := HY2.out
              have hex2 : (sv t).extract (j + 1) t.length = sv (t.drop (j + 1)) := by
                rw [sv_sub]
                congr 1
                rw [List.take_of_length_le (by rw [List.length_drop]; omega)]
              have j3 : (0 : Int) ≤ (j : Int) + 1 := by omega
              have j4 : (j : Int) + 1 ≤ (t.length : Int) := by omega
              have j5 : ((j : Int) + 1).toNat = j + 1 := by omega
              generalize t.drop (j + 1) = s at *
              unfold AnsLb lgV at hAd
              generalize hRR : recStep l t = RR at *
              obtain ⟨⟨RF, RT⟩, ok⟩ := RR
              simp only at hAd HOk2 HN2
              have KS : ∀ X, Below wr.heap.size wr X → (X.cell? ⟨w.heap.size + 1, 0, none⟩ = some (.int .i64 l.1) ∧ X.cell? ⟨w.heap.size + 1, 1, none⟩ = some (.slice a l.2.length c)) ∧ X.cell? ⟨g, og + k, none⟩ = some (.string (sv t)) := fun X hX => ⟨(HS.out.own.below hX).r2, (hX.cell (World.block_lt_of_cell? _ _ hck)).trans hck⟩
              have bd : Below wr.heap.size wr (wr.drewN 1) := belowN (Below.refl _ _)
              have bA : Below wr.heap.size wr ((wr.alloc (.cells #[.int .i64 0, .slice none 0 0] 26)).drewN 1) := belowN (oneA _ _)
              have zA : Bx ((wr.alloc (.cells #[.int .i64 0, .slice none 0 0] 26)).drewN 1) wr.heap.size 26 #[.int .i64 0, .slice none 0 0] := (Bx.new _ _ _).drewN 1
              have hrl := HS.out.own.lt
              have szA : wr.heap.size < ((wr.alloc (.cells #[.int .i64 0, .slice none 0 0] 26)).drewN 1).heap.size := by simp
              have hk1 : k + 1 ≤ ts.length := hlt
              have hwj : IntKind.i64.wrap ((j : Int) + 1) = (j : Int) + 1 := wrapJ (by omega)
              clear HRS2 HR3 HY2 hRR
              go_wp2_with (go_at_call 49; refine hRd.mono ?_; rintro e w' ⟨rfl, hw'⟩; rw [hw']; clear hw')
              clear o0 o1 r0 r1 f0 f1 hRd hex
              go_cut [12, 13] from 71 to 83 (fun s12 s13 wx => ∃ (q : Nat) (a' : Option Addr) (c' : Nat) (fp' : Fp), s12 = .pointer (some ⟨q, 0, none⟩) ∧ s13 = .bool ok ∧ Bx wx q 26 #[.int .i64 RF, .slice a' RT.length c'] ∧ Cel.ow wx (scl RT) (.slice a' RT.length c') fp' ∧ (∀ b, fp' b → w.heap.size + 1 < b) ∧ Below wr.heap.size wr wx)
              case first =>
                go_region_held3 (fun X => (X.cell? ⟨w.heap.size + 1, 0, none⟩ = some (.int .i64 l.1) ∧ X.cell? ⟨w.heap.size + 1, 1, none⟩ = some (.slice a l.2.length c)) ∧ X.cell? ⟨g, og + k, none⟩ = some (.string (sv t)))
                  (first | (with_reducible exact KS _ b7) | exact KS _ bA | exact KS _ bd | exact KS _ (b7.alloc b7.size _) | exact KS _ (below2 b7 (Nat.le_refl _)))
                  (first
                    | (go_at_call 13; refine (hAd _ (by first | exact bA | exact bd)).mono ?_; rintro e u7 ⟨a7, c7, rfl, fp7, ho7, hf7, hb7⟩; (first | have b7 : Below wr.heap.size wr u7 := bA.trans (hb7.mono bA.size) | have b7 : Below wr.heap.size wr u7 := bd.trans (hb7.mono bd.size)); (first | have z7 : Bx u7 wr.heap.size 26 #[.int .i64 0, .slice none 0 0] := zA.below hb7 | skip); (try obtain ⟨z70, z71⟩ := z7.r2); (try have z72 := z7.f 0); (try have z73 := z7.f 1)))
                all_goals (try go_wp2_with fail)
                all_goals go_meet
                all_goals first
                  | exact ⟨_, a7, c7, fp7, rfl, rfl, Bx.new _ _ _, Cel.ow_below ho7 (oneA _ _), fun b hb => Nat.lt_of_lt_of_le hrl (Nat.le_trans bd.size (hf7 b hb)), b7.alloc b7.size _⟩
                  | exact ⟨wr.heap.size, a7, c7, fp7, rfl, rfl, by have := (z7.setC 0 (.int .i64 RF)).setC 1 (.slice a7 RT.length c7); simpa using this, Cel.ow_wrt ho7 (wrt2 u7 wr.heap.size) (fun b hb e => Nat.lt_irrefl _ (Nat.lt_of_lt_of_le szA (e ▸ hf7 b hb))), fun b hb => Nat.lt_of_lt_of_le hrl (Nat.le_trans bA.size (hf7 b hb)), below2 b7 (Nat.le_refl _)⟩
              case rest =>
                obtain ⟨q, a', c', fp', rfl, rfl, hq, ho', hf', hbx⟩ := hcut
                clear hwj szA bd bA zA
                have HSx := HS.out.step hbx
                obtain ⟨q0, q1⟩ := hq.r2
                obtain ⟨o0, o1⟩ := HSx.own.r2
                cases ok with
                | false =>
                  obtain ⟨r0, r1⟩ := HSx.res.r2
                  have f0 := HSx.res.f 0
                  have f1 := HSx.res.f 1
                  have HE : Hid (recLg ts first = l) := HN2.out rfl
                  have HA := HSx.ans
                  clear KS hAd
                  go_wp2
                  refine bodyPost_ret (v := .agg #[.int .i64 l.1, .slice a l.2.length c]) (by simp [results, Tryd.results16, go_sem, *]) rfl ?_
                  refine ⟨ts, HIS.out, ?_⟩
                  rw [HE.out]
                  exact ⟨a, c, rfl, HA⟩
                | true =>
                  have f0 := HSx.own.f 0
                  have f1 := HSx.own.f 1
                  have HP : Hid (RcS w ((wc.setCell ⟨w.heap.size + 1, 0, none⟩ (.int .i64 RF)).setCell ⟨w.heap.size + 1, 1, none⟩ (.slice a' RT.length c')) (RF, RT) a' c' g og cg ts fp') := HSx.put (l' := (RF, RT)) ho' hf'
                  have HR2 := HOk2.out rfl
                  have HR4 : Hid (recF (first, []) ts = recF (RF, RT) (ts.drop (k + 1)) ∧ okLg (RF, RT)) := HR2
                  clear KS hAd HR2
                  go_wp2
                  go_roundw
                  case rel => exact ⟨k + 1, (RF, RT), a', c', fp', hk1, by go_num, HP.out, HR4.out.2, HR4.out.1⟩
                  case measure => simp [intOf]; omega
            · have hje : j = t.length := by omega
              have HE : Hid (recLg ts first = l) := HN2.out (by rw [HRS2.out, if_neg (fun h => hjl h.2)])
              have HA := HS.out.ans
              have jeq : ((j : Int) == (t.length : Int)) = true := by simp; omega
              clear hje hjl HRS2 HY2 HN2
              go_wp2_with (go_at_call 49; refine hRd.mono ?_; rintro e w' ⟨rfl, hw'⟩; rw [hw']; clear hw')
              refine bodyPost_ret (v := .agg #[.int .i64 l.1, .slice a l.2.length c]) (by simp [results, Tryd.results16, go_sem, *]) rfl ?_
              refine ⟨ts, HIS.out, ?_⟩
              rw [HE.out]
              exact ⟨a, c, rfl, HA⟩
      · have hkl : k = ts.length := by omega
        have HE : Hid (recLg ts first = l) := by rw [Hid, recLg, if_pos HIN.out, hrec, hkl, List.drop_length]; rfl
        obtain ⟨o0, o1⟩ := hS.own.r2
        obtain ⟨r0, r1⟩ := hS.res.r2
        have f0 := hS.res.f 0
        have f1 := hS.res.f 1
        have HA := hS.ans
        subst hkl
        clear hS hok hrec
        go_wp2
        refine bodyPost_ret (v := .agg #[.int .i64 l.1, .slice a l.2.length c]) (by simp [results, Tryd.results16, go_sem, *]) rfl ?_
        refine ⟨ts, HIS.out, ?_⟩
        rw [HE.out]
        exact ⟨a, c, rfl, HA⟩
end Go.Proofs.YtbnpliobigjapaaDoor

/-
  The walk of the exact law of Recovered FROM what the program answers.
-/
namespace Go.Proofs.YtbnpliobigjapaaDoor
set_option linter.unusedVariables false
set_option linter.unusedSimpArgs false
open Go.RowKit Go.Sort
attribute [local irreducible] sv

/-- What the program's Recovered must be shown to answer, in W and whatever it becomes. -/
def ImplRecovered (W : World) : Prop := ∀ (d : List UInt8) (first : Int) (ts : List (List UInt8)) (w : World), Below W.heap.size W w → I64l first → d.length ≤ 1048576 → IsFrames d ts → Calls Tryd.prog 12 #[.string (sv d), .int .i64 first] w fun e w' => AnsLg w w' e (recLg ts first)
theorem recLg_len (ts : List (List UInt8)) (first : Int) : (recLg ts first).2.length ≤ 40 := by
  unfold recLg
  split
  · rename_i h
    exact (recF_ok ts (l := (first, [])) ⟨h, by simp, fun i hi => by simp at hi⟩).2.1
  · simp [zeroLg]
set_option maxRecDepth 100000 in
set_option maxHeartbeats 3200000 in
theorem lawRecovered (d : List UInt8) (first : Int) (w : World) (hI : ImplRecovered w) (hf : I64l first) (hd0 : d.length ≤ 9223372036854775807) :
    Calls Tryd.prog 5 #[.string (sv d), .int .i64 first] w fun e w' => e = .returned (.bool true) ∧ Below w.heap.size w w' := by
  have hsz := sv_size d
  have B0 : Below w.heap.size w w := Below.refl _ _
  by_cases hd : d.length ≤ 1048576
  rotate_left
  · have hs2 : (1048576 : Int) < (d.length : Int) := by omega
    go_enter Tryd.func5, Tryd.ntmps5
    go_wp2
    go_ret
    exact ⟨rfl, B0⟩
  have hs2 : ¬ ((1048576 : Int) < (d.length : Int)) := by omega
  obtain ⟨ts, hts⟩ := frames_exist d.length d (Nat.le_refl _)
  have hS : ∀ X, Calls Tryd.prog 16 #[.string (sv d), .int .i64 first] X fun e w' => AnsLg X w' e (recLg ts first) := fun X => (lgrS_any d first X hd).mono (fun e w' h => by obtain ⟨t2, h1, h2⟩ := h; rw [hts.unique h1]; exact h2)
  have hIm : ∀ X, Below w.heap.size w X → Calls Tryd.prog 12 #[.string (sv d), .int .i64 first] X fun e w' => AnsLg X w' e (recLg ts first) := fun X hX => hI d first ts X hX hf hd hts
  have hlZ := recLg_len ts first
  generalize recLg ts first = RR at *
  obtain ⟨ZF, Z⟩ := RR
  simp only [] at hlZ
  unfold AnsLg at hS hIm
  simp only [] at hS hIm
  have hEz : ∀ X a1 c1 a2 c2 {l1 h1 l2 h2 : Nat}, It X [scl Z] [.slice a1 Z.length c1] l1 h1 → It X [scl Z] [.slice a2 Z.length c2] l2 h2 → Calls Tryd.prog 24 #[lgV ZF a1 Z.length c1, lgV ZF a2 Z.length c2] X fun e w' => e = .returned (.bool true) ∧ Below X.heap.size X w' := fun X a1 c1 a2 c2 l1 h1 l2 h2 i1 i2 => (eqLg_any ZF a1 a2 c1 c2 Z X (it_scl i1).1 (it_scl i2).1 (by unfold maxLen; omega)).mono (fun e w' h => ⟨h.1, h.2.1⟩)
  obtain ⟨M, hM⟩ : ∃ M : Int, Hid (M = ((1 : Nat) : Int) + (Z.length : Int)) := ⟨_, rfl⟩
  have hM0 : decide (M < 0) = false := by rw [hM.out]; simp; omega
  have hMM : (M != M) = false := by simp
  have hMz : ∀ X a1 c1 lo hi, It X [scl Z] [.slice a1 Z.length c1] lo hi → Calls Tryd.prog 25 #[lgV ZF a1 Z.length c1, .int .i64 1] X fun e w' => e = .returned (.int .i64 M) ∧ It w' [scl (marksS Z.length 1)] [.slice a1 Z.length c1] lo hi ∧ Wrt (Iv lo hi) X w' := fun X a1 c1 lo hi i => by rw [hM.out]; exact markLg_it ZF a1 c1 1 lo hi Z X i (by omega) (by omega) (by omega)
  have hHz : ∀ X a1 c1 lo hi, It X [scl (marksS Z.length 1)] [.slice a1 Z.length c1] lo hi → Calls Tryd.prog 26 #[lgV ZF a1 Z.length c1, .int .i64 1] X fun e w' => e = .returned (.int .i64 M) ∧ Below X.heap.size X w' := fun X a1 c1 lo hi i => by rw [hM.out]; exact heldLg_it ZF a1 c1 1 Z.length lo hi X i (by omega) (by omega) (by omega)
  clear hI hts
  unfold lgV at *
  go_enter Tryd.func5, Tryd.ntmps5
  go_wp2_with fail
  refine (hS w).mono ?_
  rintro e w1 ⟨av, cv, rfl, nv⟩
  have iv := It.of_newO nv
  obtain ⟨_, _, _, hbv⟩ := nv
  have B1 : Below w.heap.size w w1 := B0.trans (hbv.mono B0.size)
  have sB1 : w.heap.size ≤ w1.heap.size := hbv.size
  clear B0
  have b3 := oneA w1 (.cells #[.int .i64 ZF, .slice av Z.length cv] 26)
  have h4 := Bx.new w1 26 #[.int .i64 ZF, .slice av Z.length cv]
  generalize hX2 : w1.alloc (.cells #[.int .i64 ZF, .slice av Z.length cv] 26) = X2 at *
  have B6 : Below w.heap.size w X2 := B1.trans (b3.mono B1.size)
  have sB6 : w1.heap.size ≤ X2.heap.size := b3.size
  have h7 := iv.below b3
  clear B1 iv
  have k5 : w1.heap.size < X2.heap.size := h4.lt
  clear b3
  go_wp2_with fail
  refine (hIm X2 B6).mono ?_
  rintro e w2 ⟨ag, cg, rfl, ng⟩
  have ig := It.of_newO ng
  obtain ⟨_, _, _, hbg⟩ := ng
  have B8 : Below w.heap.size w w2 := B6.trans (hbg.mono B6.size)
  have sB8 : X2.heap.size ≤ w2.heap.size := hbg.size
  have h9 := h7.below hbg
  have h10 := h4.below hbg
  clear B6 h7 h4
  have b12 := oneA w2 (.cells #[.int .i64 ZF, .slice ag Z.length cg] 26)
  have h13 := Bx.new w2 26 #[.int .i64 ZF, .slice ag Z.length cg]
  generalize hX11 : w2.alloc (.cells #[.int .i64 ZF, .slice ag Z.length cg] 26) = X11 at *
  have B15 : Below w.heap.size w X11 := B8.trans (b12.mono B8.size)
  have sB15 : w2.heap.size ≤ X11.heap.size := b12.size
  have h16 := h9.below b12
  have h17 := h10.below b12
  have h18 := ig.below b12
  clear B8 h9 h10 ig
  have k14 : w2.heap.size < X11.heap.size := h13.lt
  clear b12
  obtain ⟨c19a, c19b⟩ := h13.r2
  obtain ⟨c20a, c20b⟩ := h17.r2
  go_wp2_with fail
  refine (hEz X11 _ _ _ _ h18 h16).mono ?_
  rintro e w3 ⟨rfl, hbw3⟩
  clear c19a c19b c20a c20b
  have B21 : Below w.heap.size w w3 := B15.trans (hbw3.mono B15.size)
  have sB21 : X11.heap.size ≤ w3.heap.size := hbw3.size
  have h22 := h16.below hbw3
  have h23 := h17.below hbw3
  have h24 := h18.below hbw3
  have h25 := h13.below hbw3
  clear B15 h16 h17 h18 h13
  obtain ⟨c26a, c26b⟩ := h25.r2
  go_wp2_with fail
  refine (hMz w3 _ _ _ _ h24).mono ?_
  rintro e w4 ⟨rfl, iw4, hww4⟩
  clear c26a c26b
  have sB27 : w3.heap.size ≤ w4.heap.size := hww4.size
  have B27 : Below w.heap.size w w4 := below_iv hww4 B21 B21.size (by omega)
  have h28 := h22.far hww4 (by omega)
  have h29 := h23.iv hww4 (by omega)
  have h30 := h25.iv hww4 (by omega)
  clear B21 h22 h23 h24 h25
  obtain ⟨c31a, c31b⟩ := h30.r2
  go_wp2_with fail
  refine (hHz w4 _ _ _ _ iw4).mono ?_
  rintro e w5 ⟨rfl, hbw5⟩
  clear c31a c31b
  have B32 : Below w.heap.size w w5 := B27.trans (hbw5.mono B27.size)
  have sB32 : w4.heap.size ≤ w5.heap.size := hbw5.size
  have h33 := h28.below hbw5
  have h34 := h29.below hbw5
  have h35 := iw4.below hbw5
  have h36 := h30.below hbw5
  clear B27 h28 h29 iw4 h30
  go_wp2_with fail
  refine (hIm w5 B32).mono ?_
  rintro e w6 ⟨ah, ch, rfl, nh⟩
  have ih := It.of_newO nh
  obtain ⟨_, _, _, hbh⟩ := nh
  have B37 : Below w.heap.size w w6 := B32.trans (hbh.mono B32.size)
  have sB37 : w5.heap.size ≤ w6.heap.size := hbh.size
  have h38 := h33.below hbh
  have h39 := h34.below hbh
  have h40 := h35.below hbh
  have h41 := h36.below hbh
  clear B32 h33 h34 h35 h36
  have b43 := oneA w6 (.cells #[.int .i64 ZF, .slice ah Z.length ch] 26)
  have h44 := Bx.new w6 26 #[.int .i64 ZF, .slice ah Z.length ch]
  generalize hX42 : w6.alloc (.cells #[.int .i64 ZF, .slice ah Z.length ch] 26) = X42 at *
  have B46 : Below w.heap.size w X42 := B37.trans (b43.mono B37.size)
  have sB46 : w6.heap.size ≤ X42.heap.size := b43.size
  have h47 := h38.below b43
  have h48 := h39.below b43
  have h49 := h40.below b43
  have h50 := h41.below b43
  have h51 := ih.below b43
  clear B37 h38 h39 h40 h41 ih
  have k45 : w6.heap.size < X42.heap.size := h44.lt
  clear b43
  obtain ⟨c52a, c52b⟩ := h44.r2
  obtain ⟨c53a, c53b⟩ := h48.r2
  go_wp2_with fail
  refine (hEz X42 _ _ _ _ h51 h47).mono ?_
  rintro e w7 ⟨rfl, hbw7⟩
  clear c52a c52b c53a c53b
  have B54 : Below w.heap.size w w7 := B46.trans (hbw7.mono B46.size)
  have sB54 : X42.heap.size ≤ w7.heap.size := hbw7.size
  have h55 := h47.below hbw7
  have h56 := h48.below hbw7
  have h57 := h49.below hbw7
  have h58 := h50.below hbw7
  have h59 := h51.below hbw7
  have h60 := h44.below hbw7
  clear B46 h47 h48 h49 h50 h51 h44
  obtain ⟨c61a, c61b⟩ := h58.r2
  go_wp2_with fail
  refine (hHz w7 _ _ _ _ h57).mono ?_
  rintro e w8 ⟨rfl, hbw8⟩
  clear c61a c61b
  have B62 : Below w.heap.size w w8 := B54.trans (hbw8.mono B54.size)
  have sB62 : w7.heap.size ≤ w8.heap.size := hbw8.size
  have h63 := h55.below hbw8
  have h64 := h56.below hbw8
  have h65 := h57.below hbw8
  have h66 := h58.below hbw8
  have h67 := h59.below hbw8
  have h68 := h60.below hbw8
  clear B54 h55 h56 h57 h58 h59 h60
  go_wp2
  go_ret
  exact ⟨rfl, B62⟩
end Go.Proofs.YtbnpliobigjapaaDoor
