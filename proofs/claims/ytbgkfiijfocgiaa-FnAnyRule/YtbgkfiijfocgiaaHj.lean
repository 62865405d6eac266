/-
  Several texts in one: Rfi Rse.
-/
import Derived.Test.YtbgkfiijfocgiaaHi
import Derived.Test.YtbgkfiijfocgiaaHh
import Derived.Deep.LoopGhost
/-
  The contract of the specification's Fired.
-/
namespace Go.Proofs.Ytbgkfiijfocgiaa
set_option linter.unusedSimpArgs false
set_option linter.unusedVariables false
open Go.RowKit Go.Sort

/-- What Fired answers. -/
def firedL (xs : List Int) (r : Ru) : List Int := if told xs [r] then fire xs r else []
theorem rus_one (w : World) (r : Ru) (b : Nat) (hb : b = w.heap.size) : RuS (w.alloc (.cells #[.int .i64 r.to, .int .i64 r.fr, .int .i64 r.pl, .int .i64 r.mo] 40)) (some ⟨b, 0, none⟩) 1 [r] := by
  subst hb
  refine ⟨rfl, .inr ⟨_, 0, rfl, fun i hi => ?_⟩⟩
  have : i = 0 := by omega
  subst this
  exact ⟨by simp [ruAt], by simp [ruAt], by simp [ruAt], by simp [ruAt]⟩

set_option maxRecDepth 100000 in
set_option maxHeartbeats 3200000 in
theorem fired_any (a : Option Addr) (len cap : Nat) (xs : List Int) (r : Ru) (w : World) (hv : Vec w a len xs) (hm : len ≤ maxLen) :
    Calls Try.prog 38 #[.slice a len cap, ruV r] w fun e w' => AnsN w w' e (firedL xs r) := by
  obtain ⟨i0, hi0, hz0, hz1, hz2⟩ := info_parts2n Try.info2n
  have HX0 : Hid (Grew w ((w.alloc (.cells #[.int .i64 r.to, .int .i64 r.fr, .int .i64 r.pl, .int .i64 r.mo] 40)).alloc (.cells #[.int .i64 r.to, .int .i64 r.fr, .int .i64 r.pl, .int .i64 r.mo] 40))) := ((Grew.refl _).alloc _).alloc _
  have hT := told_any a len cap xs (some ⟨w.heap.size + 1, 0, none⟩) 1 1 [r] _ (hv.below HX0.out.1 (Nat.le_refl _)) (rus_one (w.alloc (.cells #[.int .i64 r.to, .int .i64 r.fr, .int .i64 r.pl, .int .i64 r.mo] 40)) r (w.heap.size + 1) (by simp)) hm (by unfold maxLen; omega)
  have HBOX : Hid (∀ X, Grew ((w.alloc (.cells #[.int .i64 r.to, .int .i64 r.fr, .int .i64 r.pl, .int .i64 r.mo] 40)).alloc (.cells #[.int .i64 r.to, .int .i64 r.fr, .int .i64 r.pl, .int .i64 r.mo] 40)) X → X.cell? ⟨w.heap.size, 0, none⟩ = some (.int .i64 r.to) ∧ X.cell? ⟨w.heap.size, 1, none⟩ = some (.int .i64 r.fr) ∧ X.cell? ⟨w.heap.size, 2, none⟩ = some (.int .i64 r.pl) ∧ X.cell? ⟨w.heap.size, 3, none⟩ = some (.int .i64 r.mo)) := fun X hX =>
    ⟨hX.cell (cellB' (by simp) _), hX.cell (cellB' (by simp) _), hX.cell (cellB' (by simp) _), hX.cell (cellB' (by simp) _)⟩
  unfold ruV
  generalize hWW : ((w.alloc (.cells #[.int .i64 r.to, .int .i64 r.fr, .int .i64 r.pl, .int .i64 r.mo] 40)).alloc (.cells #[.int .i64 r.to, .int .i64 r.fr, .int .i64 r.pl, .int .i64 r.mo] 40)) = WW at *
  cases ht : told xs [r] with
  | false =>
    rw [ht] at hT
    have HZ : Hid (firedL xs r = []) := by rw [Hid, firedL, ht]; rfl
    clear ht
    go_enter Try.func38, Try.ntmps38
    go_wp2_with fail
    refine hT.mono ?_
    rintro e w1 ⟨rfl, hg⟩
    have HG : Hid (Grew w w1) := HX0.out.trans hg
    clear hg
    go_wp2
    go_ret
    rw [HZ.out]
    exact ⟨w1.heap.size, 0, 0, rfl, HG.out.1.size, num_empty w1 2, HG.out.1.alloc HG.out.1.size _⟩
  | true =>
    rw [ht] at hT
    obtain ⟨hx, hrs⟩ := told_iff.1 ht
    have hok : okRu r = true := by rwa [okRs_one] at hrs
    have HZ : Hid (firedL xs r = fire xs r) := by rw [Hid, firedL, ht]; rfl
    have h8 : len = 8 := by rw [← hv.1]; exact hx.1
    subst h8
    obtain ⟨b, off, rfl, h8c⟩ := v8_of hv
    have HC : Hid (V8 w b off xs) := h8c
    have HX : Hid (Ok8 xs) := hx
    have hxl := hx.1
    clear ht hv h8c hrs
    go_enter Try.func38, Try.ntmps38
    go_wp2_with fail
    refine hT.mono ?_
    rintro e w1 ⟨rfl, hg⟩
    have HG : Hid (Grew w w1) := HX0.out.trans hg
    have HGW : Hid (Grew WW w1) := hg
    have HX1 : Hid (∀ i, i < xs.length → (w1.alloc (.cells #[] 2)).cell? ⟨b, off + i, none⟩ = some (.int .i64 (el xs i))) := fun i hi => cellB' (HG.out.cell (HC.out i (by omega))) _
    clear hg hT hx
    go_wp2_with (at_builtin; refine wpList_append_os _ rfl _ _ _ rfl 2 i0 _ 1 8 Try.underlying24 hi0 hz0 hz1 hz2 rfl (by omega) w1.heap.size 0 0 0 (([] : List Int).map (Value.int .i64)) rfl (num_empty w1 2) ⟨b, off, none⟩ 8 cap (xs.map (Value.int .i64)) rfl (by simp [hxl]) (num_news HX1.out) (by simp [Value.oneCell']) (by unfold maxLen; omega) (by omega) ?_; intro gA fA cA wA hoA hgA hatA)
    have HoA : Hid (OI wA gA fA 8 cA xs) := by
      have h := hoA
      simp only [List.map_nil, List.nil_append, Nat.zero_add] at h
      exact h
    have BA : Hid (Below w1.heap.size w1 wA) := below_grown6 ((Below.refl _ _).alloc (Nat.le_refl _) _) hgA (Nat.le_refl _) (by simp)
    have hgA1 : w1.heap.size ≤ gA := by
      rcases hatA with h | h
      · rw [h]; exact Nat.le_refl _
      · rw [h]; simp
    obtain ⟨t, f, p, m, hq, ht8, hf8, hp0, hp1, hm0, hm1⟩ := ru_split hok
    have sz := HG.out.1.size
    have hb8 : V8 wA b off xs := fun i hi => (BA.out.cell (World.block_lt_of_cell? _ _ (HG.out.cell (HC.out i hi)))).trans (HG.out.cell (HC.out i hi))
    have hAk : ∀ X, Grew wA X → Calls Try.prog 73 #[.slice (some ⟨b, off, none⟩) 8 cap, ruV r] X fun e w' => e = .returned (.int .i64 (asks xs r)) ∧ Grew X w' := fun X hX => asks_any b off cap xs r X (hb8.grew hX) HX.out hok
    have hMx : ∀ X, Calls Try.prog 58 #[.int .i64 (el xs t), .int .i64 (asks xs r)] X fun e w' => e = .returned (.int .i64 (max (el xs t) (asks xs r))) ∧ Grew X w' := fun X => (l1Max_any _ _ X).mono fun e w' ⟨he, hw⟩ => ⟨he, by rw [hw]; exact Grew.refl _⟩
    obtain ⟨q0, q1, q2, q3⟩ := HBOX.out w1 HGW.out
    have lt1 : w.heap.size < w1.heap.size := World.block_lt_of_cell? _ _ q0
    have c0 := (BA.out.cell (p := ⟨w.heap.size, 0, none⟩) lt1).trans q0
    have c1 := (BA.out.cell (p := ⟨w.heap.size, 1, none⟩) lt1).trans q1
    have c2 := (BA.out.cell (p := ⟨w.heap.size, 2, none⟩) lt1).trans q2
    have c3 := (BA.out.cell (p := ⟨w.heap.size, 3, none⟩) lt1).trans q3
    have ct := HoA.out.cellAt ht8
    have HFI : Hid (fire xs r = xs.set t (max (el xs t) (asks xs r))) := by rw [Hid, fire, hq]; simp
    have HST : Hid (∀ X, Grew wA X → OI (X.setCell ⟨gA, fA + t, none⟩ (.int .i64 (max (el xs t) (asks xs r)))) gA fA 8 cA (fire xs r)) := fun X hX => by
      rw [HFI.out]
      exact num_set (HoA.out.below hX.1 HoA.out.blk) ht8 _
    have fr : ∀ q os, (grow (wA.drewN q) os).frozen? ⟨gA, fA + t, none⟩ = false := fun q os => by
      have := (HoA.out.below (Grew.of_grow wA q os).1 HoA.out.blk).free t (by have := HoA.out.le; omega)
      exact this
    rw [hq] at c0 c1 c2 c3 hAk
    simp only [] at c0 c1 c2 c3
    unfold ruV at hAk
    simp only [] at hAk
    rw [← hq] at hAk
    have p0 := cell_grown (World.block_lt_of_cell? _ _ c0) c0
    have p1 := cell_grown (World.block_lt_of_cell? _ _ c1) c1
    have p2 := cell_grown (World.block_lt_of_cell? _ _ c2) c2
    have p3 := cell_grown (World.block_lt_of_cell? _ _ c3) c3
    have pt := cell_grown (World.block_lt_of_cell? _ _ ct) ct
    have t1 : (t : Int) < 8 := by omega
    have t0 : (0 : Int) ≤ (t : Int) := by omega
    have hmix := mixedR
    clear hoA hgA hatA HX1 hb8 q0 q1 q2 q3 c0 c1 c2 c3 ct hok hq
    generalize asks xs r = A at *
    generalize el xs t = x at *
    generalize hMX : max x A = M at *
    clear hMX
    go_wp2_with fail
    refine wp_region_quiet_tail (C := fun w' => ∃ p : GrownBy, w' = grow (wA.drewN p.n) p.os) 13 hmix (by kernel_rfl) ⟨⟨1, #[]⟩, by rw [grow_empty]⟩ ?_
    simp only [List.take_succ_cons, List.take_zero]
    repeat (quiet_step (first | (go_at_call 73; exact grown_at (hAk _ (Grew.of_grow _ _ _))) | (go_at_call 58; exact grown_at (hMx _))))
    refine wpQuiet_nil ?_
    intro _ hw'
    obtain ⟨⟨nq, osq⟩, hw''⟩ := hw'
    subst hw''
    simp only [List.drop_succ_cons, List.drop_zero]
    go_wp2
    go_ret
    have hfl : (fire xs r).length = 8 := by rw [fire_len, hxl]
    rw [HZ.out]
    refine ⟨gA, fA, cA, by rw [hfl]; rfl, by omega, by rw [hfl]; exact HST.out _ (Grew.of_grow _ _ _), ?_⟩
    exact ((HG.out.1.trans (BA.out.mono sz)).trans ((Grew.of_grow wA nq osq).1.mono (Nat.le_trans sz BA.out.size))).setCell (p := ⟨gA, fA + t, none⟩) (by show w.heap.size ≤ gA; omega) _
end Go.Proofs.Ytbgkfiijfocgiaa

/-
  The contract of the specification's Settled: the least steady vector above.
-/
namespace Go.Proofs.Ytbgkfiijfocgiaa
set_option linter.unusedSimpArgs false
set_option linter.unusedVariables false
open Go.RowKit Go.Sort

theorem Ok8.fits {c : List Int} (h : Ok8 c) : Fits c := fun x hx => by
  obtain ⟨i, hi, rfl⟩ := List.getElem_of_mem hx
  have := h.2 i (by have := h.1; omega)
  rw [el_eq hi] at this
  omega
/-- What Settled answers. -/
def IsSettled (xs : List Int) (rs : List Ru) (Z : List Int) : Prop := (told xs rs = true ∧ IsSet xs rs Z) ∨ (told xs rs = false ∧ Z = [])
theorem IsSettled.unique {xs : List Int} {rs : List Ru} {Z Y : List Int} (h : IsSettled xs rs Z) (k : IsSettled xs rs Y) : Z = Y := by
  rcases h with ⟨h1, h2⟩ | ⟨h1, h2⟩ <;> rcases k with ⟨k1, k2⟩ | ⟨k1, k2⟩
  · exact h2.unique k2
  · rw [h1] at k1; cases k1
  · rw [h1] at k1; cases k1
  · rw [h2, k2]

set_option maxRecDepth 100000 in
set_option maxHeartbeats 6400000 in
theorem settled_any (a : Option Addr) (len cap : Nat) (xs : List Int) (ra : Option Addr) (rl rc : Nat) (rs : List Ru) (w : World) (hv : Vec w a len xs) (hr : RuS w ra rl rs) (hm : len ≤ maxLen) (hm' : rl ≤ maxLen) :
    Calls Try.prog 31 #[.slice a len cap, .slice ra rl rc] w fun e w' => ∃ Z, IsSettled xs rs Z ∧ AnsN w w' e Z := by
  obtain ⟨i0, hi0, hz0, hz1, hz2⟩ := info_parts2n Try.info2n
  have hT := told_any a len cap xs ra rl rc rs w hv hr hm hm'
  cases ht : told xs rs with
  | false =>
    rw [ht] at hT
    have HZ : Hid (IsSettled xs rs []) := .inr ⟨ht, rfl⟩
    clear ht
    go_enter Try.func31, Try.ntmps31
    go_wp2_with fail
    refine hT.mono ?_
    rintro e w1 ⟨rfl, hg⟩
    have HG : Hid (Grew w w1) := hg
    clear hg
    go_wp2
    go_ret
    exact ⟨[], HZ.out, w1.heap.size, 0, 0, rfl, HG.out.1.size, num_empty w1 2, HG.out.1.alloc HG.out.1.size _⟩
  | true =>
    rw [ht] at hT
    obtain ⟨hx, hrs⟩ := told_iff.1 ht
    have HZ : Hid (∀ Z, IsSet xs rs Z → IsSettled xs rs Z) := fun Z h => .inl ⟨ht, h⟩
    have h8 : len = 8 := by rw [← hv.1]; exact hx.1
    subst h8
    obtain ⟨b, off, rfl, h8c⟩ := v8_of hv
    have HC : Hid (V8 w b off xs) := h8c
    have HX : Hid (Ok8 xs) := hx
    have HR : Hid (RuS w ra rl rs) := hr
    have HRS : Hid (okRs rs = true) := hrs
    have hxl := hx.1
    have hrl := hr.1
    have HRL : Hid (rs.length = rl) := hrl
    have hr20 := okRs_len hrs
    rw [hrl] at hr20
    clear ht hv h8c hrs hrl
    go_enter Try.func31, Try.ntmps31
    go_wp2_with fail
    refine hT.mono ?_
    rintro e w1 ⟨rfl, hg⟩
    have HG : Hid (Grew w w1) := hg
    have HX1 : Hid (∀ i, i < xs.length → (w1.alloc (.cells #[] 2)).cell? ⟨b, off + i, none⟩ = some (.int .i64 (el xs i))) := fun i hi => cellB' (HG.out.cell (HC.out i (by omega))) _
    clear hg hT hx hr
    go_wp2_with (at_builtin; refine wpList_append_os _ rfl _ _ _ rfl 2 i0 _ 1 8 Try.underlying24 hi0 hz0 hz1 hz2 rfl (by omega) w1.heap.size 0 0 0 (([] : List Int).map (Value.int .i64)) rfl (num_empty w1 2) ⟨b, off, none⟩ 8 cap (xs.map (Value.int .i64)) rfl (by simp [hxl]) (num_news HX1.out) (by simp [Value.oneCell']) (by unfold maxLen; omega) (by omega) ?_; intro gA fA cA wA hoA hgA hatA)
    have HoA : Hid (OI wA gA fA 8 cA xs) := by
      have h := hoA
      simp only [List.map_nil, List.nil_append, Nat.zero_add] at h
      exact h
    have BA : Hid (Below w1.heap.size w1 wA) := below_grown6 ((Below.refl _ _).alloc (Nat.le_refl _) _) hgA (Nat.le_refl _) (by simp)
    have hgA1 : w1.heap.size ≤ gA := by
      rcases hatA with h | h
      · rw [h]; exact Nat.le_refl _
      · rw [h]; simp
    have KR : Hid (∀ X, Below w1.heap.size w1 X → RuS X ra rl rs) := fun X hX => ((HR.out.grew HG.out).below hX (Nat.le_refl _))
    have sz := HG.out.1.size
    clear hoA hgA hatA HX1
    go_loopg [6] (rest8 xs) (fun gk _ wr => ∃ c, rest8 c ≤ gk ∧ Low xs rs c ∧ OI wr gA fA 8 cA c ∧ Below w1.heap.size w1 wr)
    case atStart => exact ⟨xs, Nat.le_refl _, Low.start rs HX.out, HoA.out, BA.out⟩
    case round =>
      obtain ⟨c, hc1, hc2, hc3, hc4⟩ := hrel
      have KC1 : Hid (rest8 c ≤ gk) := hc1
      have KC2 : Hid (Low xs rs c) := hc2
      have KC3 : Hid (OI wr gA fA 8 cA c) := hc3
      have KC4 : Hid (Below w1.heap.size w1 wr) := hc4
      have hS := steady_any (some ⟨gA, fA, none⟩) 8 cA c ra rl rc rs wr (hc3.vec hc2.1.fits) (KR.out wr hc4) (by unfold maxLen; omega) hm'
      have htc : told c rs = true := told_iff.2 ⟨hc2.1, HRS.out⟩
      clear hc1 hc2 hc3 hc4
      cases hs : stdB c rs with
      | true =>
        rw [hs] at hS
        have KS : Hid (IsSet xs rs c) := KC2.out.done ((std_of htc).1 hs)
        clear hs htc
        go_wp2_with fail
        refine hS.mono ?_
        rintro e w3 ⟨rfl, hg3⟩
        have KO : Hid (OI w3 gA fA 8 cA c) := KC3.out.below hg3.1 KC3.out.blk
        have KB : Hid (Below w1.heap.size w1 w3) := KC4.out.trans (hg3.1.mono KC4.out.size)
        have hcl : c.length = 8 := KC2.out.1.1
        have KCL : Hid (c.length = 8) := hcl
        clear hg3 hS hcl
        go_wp2
        go_ret
        refine ⟨c, HZ.out c KS.out, gA, fA, cA, by rw [KCL.out]; rfl, by omega, by rw [KCL.out]; exact KO.out, HG.out.1.trans (KB.out.mono sz)⟩
      | false =>
        rw [hs] at hS
        have KN : Hid (¬ Std c rs) := fun h => by rw [(std_of htc).2 h] at hs; cases hs
        clear hs htc
        go_wp2_with fail
        refine hS.mono ?_
        rintro e w3 ⟨rfl, hg3⟩
        have KO : Hid (OI w3 gA fA 8 cA c) := KC3.out.below hg3.1 KC3.out.blk
        have KB : Hid (Below w1.heap.size w1 w3) := KC4.out.trans (hg3.1.mono KC4.out.size)
        clear hg3 hS
        go_wp2
        go_loopw [6] (fun i wx => ∃ k : Nat, k ≤ rl ∧ i = .int .i64 k ∧ OI wx gA fA 8 cA (fires c (rs.take k)) ∧ Below w1.heap.size w1 wx) (fun i _ => rl - (intOf i).toNat)
        case atStart => exact ⟨0, Nat.zero_le _, rfl, KO.out, KB.out⟩
        case round =>
          obtain ⟨k, hk, rfl, hO, hB⟩ := hrel
          have LO : Hid (OI wr gA fA 8 cA (fires c (rs.take k))) := hO
          have LB : Hid (Below w1.heap.size w1 wr) := hB
          by_cases hlt : k < rl
          · have hfu := fires_up HRS.out KC2.out.1 k (by rw [HRL.out]; omega)
            have hok := okRs_mem HRS.out (ruAt_mem (rs := rs) (i := k) (by rw [HRL.out]; exact hlt))
            obtain ⟨t, f, p, m, hq, ht8, hf8, hp0, hp1, hm0, hm1⟩ := ru_split hok
            rcases (KR.out wr hB).2 with h0 | ⟨rb, ro, rfl, hrc⟩
            · omega
            · obtain ⟨c0, c1, c2, c3⟩ := hrc k hlt
              have LNX : Hid (fires c (rs.take (k + 1)) = fire (fires c (rs.take k)) (ruAt rs k)) := fires_take (by rw [HRL.out]; exact hlt)
              generalize fires c (rs.take k) = y at *
              have ct := hO.cellAt ht8
              have hv8 : V8 wr gA fA y := fun i hi => hO.cellAt hi
              have hAk : ∀ X, Grew wr X → Calls Try.prog 73 #[.slice (some ⟨gA, fA, none⟩) 8 cA, ruV (ruAt rs k)] X fun e w' => e = .returned (.int .i64 (asks y (ruAt rs k))) ∧ Grew X w' := fun X hX => asks_any gA fA cA y (ruAt rs k) X (hv8.grew hX) hfu.1 hok
              have hMx : ∀ X, Calls Try.prog 58 #[.int .i64 (el y t), .int .i64 (asks y (ruAt rs k))] X fun e w' => e = .returned (.int .i64 (max (el y t) (asks y (ruAt rs k)))) ∧ Grew X w' := fun X => (l1Max_any _ _ X).mono fun e w' ⟨he, hw⟩ => ⟨he, by rw [hw]; exact Grew.refl _⟩
              have HFI : Hid (fire y (ruAt rs k) = y.set t (max (el y t) (asks y (ruAt rs k)))) := by rw [Hid, fire, hq]; simp
              have HST : Hid (∀ X, Grew wr X → OI (X.setCell ⟨gA, fA + t, none⟩ (.int .i64 (max (el y t) (asks y (ruAt rs k))))) gA fA 8 cA (fires c (rs.take (k + 1)))) := fun X hX => by
                rw [LNX.out, HFI.out]
                exact num_set (LO.out.below hX.1 LO.out.blk) ht8 _
              have fr : ∀ q os, (grow (wr.drewN q) os).frozen? ⟨gA, fA + t, none⟩ = false := fun q os => (LO.out.below (Grew.of_grow wr q os).1 LO.out.blk).free t (by have := LO.out.le; omega)
              rw [hq] at c0 c1 c2 c3 hAk
              simp only [] at c0 c1 c2 c3
              unfold ruV at hAk
              simp only [] at hAk
              rw [← hq] at hAk
              have p0 := cell_grown (World.block_lt_of_cell? _ _ c0) c0
              have p1 := cell_grown (World.block_lt_of_cell? _ _ c1) c1
              have p2 := cell_grown (World.block_lt_of_cell? _ _ c2) c2
              have p3 := cell_grown (World.block_lt_of_cell? _ _ c3) c3
              have pt := cell_grown (World.block_lt_of_cell? _ _ ct) ct
              have t1 : (t : Int) < 8 := by omega
              have t0 : (0 : Int) ≤ (t : Int) := by omega
              have k1 : (k : Int) < (rl : Int) := by omega
              have k0 : (0 : Int) ≤ (k : Int) := by omega
              have hmix := mixedR
              clear hO hB hrc c0 c1 c2 c3 ct hv8 hok hq hfu LNX HFI
              generalize asks y (ruAt rs k) = A at *
              generalize el y t = x at *
              generalize hMX : max x A = M at *
              clear hMX
              go_wp2_with fail
              refine wp_region_quiet_tail (C := fun w' => ∃ p : GrownBy, w' = grow (wr.drewN p.n) p.os) 22 hmix (by kernel_rfl) ⟨⟨1, #[]⟩, by rw [grow_empty]⟩ ?_
              simp only [List.take_succ_cons, List.take_zero]
              repeat (quiet_step (first | (go_at_call 73; exact grown_at (hAk _ (Grew.of_grow _ _ _))) | (go_at_call 58; exact grown_at (hMx _))))
              refine wpQuiet_nil ?_
              intro _ hw'
              obtain ⟨⟨nq, osq⟩, hw''⟩ := hw'
              subst hw''
              simp only [List.drop_succ_cons, List.drop_zero]
              go_wp2
              go_roundw
              case rel => exact ⟨k + 1, by omega, by go_num, HST.out _ (Grew.of_grow _ _ _), (LB.out.trans ((Grew.of_grow wr nq osq).1.mono LB.out.size)).setCell (p := ⟨gA, fA + t, none⟩) hgA1 _⟩
              case measure => simp [intOf]; omega
          · have hkl : k = rl := by omega
            subst hkl
            have KRR := fires_rest HRS.out KC2.out.1 KN.out
            have KLW := KC2.out.fires HRS.out k (by rw [HRL.out]; exact Nat.le_refl _)
            have htk : rs.take k = rs := by rw [← HRL.out]; exact List.take_length
            rw [htk] at KLW
            rw [htk] at LO
            have LLW : Hid (Low xs rs (fires c rs)) := KLW
            have LRR : Hid (rest8 (fires c rs) < rest8 c) := KRR
            clear hO hB KLW KRR htk
            go_wp2
            go_roundg (rest8 (fires c rs))
            case measure => have := KC1.out; have := LRR.out; omega
            case rel => exact ⟨fires c rs, Nat.le_refl _, LLW.out, LO.out, LB.out⟩
end Go.Proofs.Ytbgkfiijfocgiaa
