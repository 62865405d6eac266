/-
  The program's Lacking.
-/
import Derived.Test.YthlaaldicmfcnaaIbk
namespace Go.Proofs.Ythlaaldicmfcnaa
set_option linter.unusedVariables false
set_option linter.unusedSimpArgs false
open Go.RowKit Go.Sort

/-- Block b begins with n bools, told by m. -/
structure Bl (w : World) (b n : Nat) (m : Nat → Bool) : Prop where
  cell : ∀ i, i < n → w.cell? ⟨b, i, none⟩ = some (.bool (m i))
  free : ∀ i, i < n → w.frozen? ⟨b, i, none⟩ = false
  blk : b < w.heap.size
theorem Bl.of_block {w w' : World} {b n : Nat} {m : Nat → Bool} (h : Bl w b n m) (e : w'.heap[b]? = w.heap[b]?) (hs : b < w'.heap.size) : Bl w' b n m :=
  ⟨fun j hj => by rw [World.cell?_of_block (w := w) e]; exact h.cell j hj,
   fun j hj => by rw [show w'.frozen? ⟨b, j, none⟩ = w.frozen? ⟨b, j, none⟩ from by simp only [World.frozen?, e]]; exact h.free j hj, hs⟩
theorem Bl.below {w w' : World} {b n B : Nat} {m : Nat → Bool} (h : Bl w b n m) (hb : Below B w w') (hg : b < B) : Bl w' b n m := h.of_block (hb.block b hg) (Nat.lt_of_lt_of_le h.blk hb.size)
theorem Bl.congr {w : World} {b n : Nat} {m m' : Nat → Bool} (h : Bl w b n m) (e : ∀ i, i < n → m' i = m i) : Bl w b n m' := ⟨fun i hi => by rw [e i hi]; exact h.cell i hi, h.free, h.blk⟩
theorem Bl.set {w : World} {b n : Nat} {m : Nat → Bool} (h : Bl w b n m) {i : Nat} (hi : i < n) (v : Bool) : Bl (w.setCell ⟨b, i, none⟩ (.bool v)) b n (fun j => if j = i then v else m j) := by
  refine ⟨fun j hj => ?_, fun j hj => by rw [World.frozen?_setCell]; exact h.free j hj, by simp [World.setCell]; exact h.blk⟩
  by_cases e : j = i
  · subst e
    rw [World.cell?_setCell_same _ _ _ (h.cell j hj), if_pos rfl]
  · rw [World.cell?_setCell_other _ _ _ _ (by intro h; have := congrArg Addr.off h; simp only at this; omega), if_neg e]; exact h.cell j hj
theorem bl12 (w : World) (T : TypeId) : Bl (w.alloc (.cells #[.bool false, .bool false, .bool false, .bool false, .bool false, .bool false, .bool false, .bool false, .bool false, .bool false, .bool false, .bool false] T)) w.heap.size 12 (fun _ => false) := by
  have hb := heap_alloc_new w (.cells #[.bool false, .bool false, .bool false, .bool false, .bool false, .bool false, .bool false, .bool false, .bool false, .bool false, .bool false, .bool false] T)
  refine ⟨fun j hj => ?_, fun j hj => ?_, by simp⟩
  · simp only [World.cell?, hb]
    match j, hj with
    | 0, _ => rfl
    | 1, _ => rfl
    | 2, _ => rfl
    | 3, _ => rfl
    | 4, _ => rfl
    | 5, _ => rfl
    | 6, _ => rfl
    | 7, _ => rfl
    | 8, _ => rfl
    | 9, _ => rfl
    | 10, _ => rfl
    | 11, _ => rfl
    | j + 12, h => omega
  · unfold World.frozen?
    rw [hb]
    simp
theorem ofB_iff {b : Blk} {t : Int} : ofB b t = true ↔ okBk b = true ∧ b.2.1 = t := by simp [ofB]
theorem hasB_ofB {L : List Blk} {total : Int} {i k : Nat} (h : k < L.length) : hasB (L.take (k + 1)) total i = (hasB (L.take k) total i || (ofB (bat L k) total && (bat L k).1 == (i : Int))) := by
  rw [hasB_take h, ofB, Bool.and_assoc]
theorem oi_none {w : World} {g : Nat} (h : g < w.heap.size) : OI w g 0 0 0 [] := ⟨rfl, Nat.le_refl _, Nat.zero_le _, h, fun i hi => by omega, fun i hi => by omega, fun i hi => by omega⟩
attribute [local irreducible] sv
set_option maxRecDepth 100000 in
set_option maxHeartbeats 1600000 in
theorem lacI_any (a : Option Addr) (n cap : Nat) (L : List Blk) (total : Int) (w : World) (hv : BkS w a n L) (hsh : ShortB L) (hm : n ≤ 1048576) :
    Calls Try.prog 34 #[.slice a n cap, .int .i64 total] w fun e w' => AnsN w w' e (lackL L total) := by
  obtain ⟨i0, hi0, hz0, hz1, hz2⟩ := info_parts2n Try.info2n
  cases e0 : inB total 1 12 with
  | false =>
    have HZ : Hid (lackL L total = []) := by rw [Hid, lackL, e0]; rfl
    have C := fun X => isTt_any total X
    rw [e0] at C
    clear e0
    go_enter Try.func34, Try.ntmps34
    go_wp2_with (go_at_call 69; refine (C _).mono ?_; rintro e w' ⟨rfl, hw'⟩; rw [hw']; clear hw')
    go_ret
    rw [HZ.out]
    exact ⟨_, 0, 0, rfl, Nat.le_refl _, num_empty _ 2, (Below.refl _ _).alloc (Nat.le_refl _) _⟩
  | true =>
    have hk := inB7.1 e0
    obtain ⟨T, rfl⟩ : ∃ T : Nat, total = (T : Int) := ⟨total.toNat, by omega⟩
    have HZ : Hid (lackL L (T : Int) = lck L (T : Int) T) := by rw [Hid, lackL, e0]; simp
    have HV : Hid (BkS w a n L) := hv
    have HN : Hid (L.length = n) := hv.1
    have C := fun X => isTt_any (T : Int) X
    rw [e0] at C
    clear hv e0
    have S1 : ∀ t, Hid (Bl ((w.alloc (.cells #[] 2)).alloc (.cells #[.bool false, .bool false, .bool false, .bool false, .bool false, .bool false, .bool false, .bool false, .bool false, .bool false, .bool false, .bool false] t)) (w.heap.size + 1) 12 (fun i => hasB (L.take 0) (T : Int) i)) := fun t => by
      have := bl12 (w.alloc (.cells #[] 2)) t
      rw [Hid]
      simpa [hasB] using this
    have S2 : ∀ t, Hid (Below w.heap.size w ((w.alloc (.cells #[] 2)).alloc (.cells #[.bool false, .bool false, .bool false, .bool false, .bool false, .bool false, .bool false, .bool false, .bool false, .bool false, .bool false, .bool false] t))) := fun t => ((Below.refl _ _).alloc (Nat.le_refl _) _).alloc (by simp) _
    go_enter Try.func34, Try.ntmps34
    go_wp2_with (go_at_call 69; refine (C _).mono ?_; rintro e w' ⟨rfl, hw'⟩; rw [hw']; clear hw')
    go_loopw [17] (fun i wr => ∃ k : Nat, k ≤ n ∧ i = .int .i64 (k : Int) ∧ Bl wr (w.heap.size + 1) 12 (fun i => hasB (L.take k) (T : Int) i) ∧ Below w.heap.size w wr) (fun i _ => n - (intOf i).toNat)
    case atStart => exact ⟨0, Nat.zero_le _, rfl, (S1 _).out, (S2 _).out⟩
    case round =>
      obtain ⟨k, hk9, rfl, hBl, hB⟩ := hrel
      have LB : Hid (Below w.heap.size w wr) := hB
      have LL : Hid (Bl wr (w.heap.size + 1) 12 (fun i => hasB (L.take k) (T : Int) i)) := hBl
      have LS : w.heap.size + 1 < wr.heap.size := hBl.blk
      clear hBl S1 S2 C
      by_cases hlt : k < n
      · have k1 : (k : Int) < (n : Int) := by omega
        have k0 : (0 : Int) ≤ (k : Int) := by omega
        obtain ⟨_, h0 | ⟨bb, bo, rfl, hcs⟩⟩ := HV.out.below hB
        · omega
        obtain ⟨c0, c1, c2⟩ := hcs k hlt
        have hkL : k < L.length := by rw [HN.out]; exact hlt
        have hzl := hsh k hkL
        have C := fun X => isOf_any (bat L k).1 (bat L k).2.1 (T : Int) (bat L k).2.2 X (by omega)
        rw [ofB_bat] at C
        have HO : Hid (∀ o, Below w.heap.size w (wr.alloc o)) := fun o => LB.out.alloc LB.out.size _
        have HL : Hid (∀ o, Bl (wr.alloc o) (w.heap.size + 1) 12 (fun i => hasB (L.take k) (T : Int) i)) := fun o => LL.out.below ((Below.refl _ _).alloc (Nat.le_refl _) _) LL.out.blk
        have HS : Hid (∀ i, hasB (L.take (k + 1)) (T : Int) i = (hasB (L.take k) (T : Int) i || (ofB (bat L k) (T : Int) && (bat L k).1 == (i : Int)))) := fun i => hasB_ofB hkL
        have HX : Hid (ofB (bat L k) (T : Int) = true → 0 ≤ (bat L k).1 ∧ (bat L k).1 < 12) := fun h => by
          have h1 := ofB_iff.1 h
          have h2 := okBk_iff.1 h1.1
          omega
        generalize hOb : ofB (bat L k) (T : Int) = ob at *
        generalize (bat L k).1 = x at *
        generalize (bat L k).2.1 = y at *
        generalize (bat L k).2.2 = z at *
        have c0n : ∀ o, (wr.alloc (.cells #[.int .i64 x, .int .i64 y, .string (sv z)] o)).cell? ⟨wr.heap.size, 0, none⟩ = some (.int .i64 x) := fun o => by
          rw [Lib.cell_of_heap (heap_alloc_new _ _)]; rfl
        clear hcs hB hOb
        cases ob
        · have HS' : Hid (∀ i, hasB (L.take (k + 1)) (T : Int) i = hasB (L.take k) (T : Int) i) := fun i => by rw [HS.out i]; simp
          go_wp2_with (go_at_call 70; refine (C _).mono ?_; rintro e w' ⟨rfl, hg'⟩; have hb' := hg'.1; clear hg')
          have HB' : Hid (Below w.heap.size w w') := (HO.out _).trans (hb'.mono (HO.out _).size)
          have HL' : Hid (Bl w' (w.heap.size + 1) 12 (fun i => hasB (L.take (k + 1)) (T : Int) i)) := ((HL.out _).below hb' (HL.out _).blk).congr (fun i _ => HS'.out i)
          clear hb'
          go_roundw
          case rel => exact ⟨k + 1, by omega, by go_num, HL'.out, HB'.out⟩
          case measure => simp [intOf]; omega
        · obtain ⟨hx0, hx1⟩ := HX.out rfl
          obtain ⟨X, rfl⟩ : ∃ X : Nat, x = (X : Int) := ⟨x.toNat, by omega⟩
          have HS' : Hid (∀ i, hasB (L.take (k + 1)) (T : Int) i = if i = X then true else hasB (L.take k) (T : Int) i) := fun i => by
            rw [HS.out i]
            by_cases e : i = X
            · subst e; simp
            · rw [if_neg e, show ((X : Int) == (i : Int)) = false by simp; omega]; simp
          go_wp2_with (go_at_call 70; refine (C _).mono ?_; rintro e w' ⟨rfl, hg'⟩; have hb' := hg'.1; have c0' := (hb'.cell (World.block_lt_of_cell? _ _ (c0n _))).trans (c0n _); have HLx := (HL.out _).below hb' (HL.out _).blk; have f0 := HLx.free X (by omega); have f1 := HLx.cell X (by omega); clear hg')
          have HB' : Hid (Below w.heap.size w w') := (HO.out _).trans (hb'.mono (HO.out _).size)
          have HL' : Hid (Bl (w'.setCell ⟨w.heap.size + 1, X, none⟩ (.bool true)) (w.heap.size + 1) 12 (fun i => hasB (L.take (k + 1)) (T : Int) i)) := (HLx.set (i := X) (by omega) true).congr (fun i _ => HS'.out i)
          have HB2 : Hid (Below w.heap.size w (w'.setCell ⟨w.heap.size + 1, X, none⟩ (.bool true))) := HB'.out.setCell (p := ⟨w.heap.size + 1, X, none⟩) (Nat.le_succ _) _
          clear hb' HLx c0n
          go_roundw
          case rel => exact ⟨k + 1, by omega, by go_num, HL'.out, HB2.out⟩
          case measure => simp [intOf]; omega
      · have k1 : ¬ ((k : Int) < (n : Int)) := by omega
        have hjL : L.take k = L := by rw [List.take_of_length_le]; rw [HN.out]; omega
        rw [hjL] at LL
        clear hB hjL hm
        generalize hWR : wr = W0 at *
        clear hWR
        go_wp2_with fail
        go_loopw [5, 29] (fun v i wr => ∃ (k g og cg : Nat), k ≤ T ∧ i = .int .i64 (k : Int) ∧ v = .slice (some ⟨g, og, none⟩) (lck L (T : Int) k).length cg ∧ w.heap.size ≤ g ∧ g ≠ w.heap.size + 1 ∧ OI wr g og (lck L (T : Int) k).length cg (lck L (T : Int) k) ∧ Bl wr (w.heap.size + 1) 12 (fun i => hasB L (T : Int) i) ∧ Below w.heap.size w wr) (fun _ i _ => T - (intOf i).toNat)
        case atStart => exact ⟨0, w.heap.size, 0, 0, Nat.zero_le _, rfl, rfl, Nat.le_refl _, by omega, oi_none (by omega), LL.out, LB.out⟩
        case round =>
          obtain ⟨q, g, og, cg, hq, rfl, rfl, hg, hne, hO, hL2, hB2⟩ := hrel
          have MO : Hid (OI wr g og (lck L (T : Int) q).length cg (lck L (T : Int) q)) := hO
          have MB : Hid (Below w.heap.size w wr) := hB2
          have MG : Hid (w.heap.size ≤ g) := hg
          have ME : Hid (g ≠ w.heap.size + 1) := hne
          have ML : Hid (Bl wr (w.heap.size + 1) 12 (fun i => hasB L (T : Int) i)) := hL2
          have MS : Hid (w.heap.size + 1 < wr.heap.size) := hL2.blk
          have MLE : (lck L (T : Int) q).length ≤ 12 := Nat.le_trans (lck_len _ _ _) (by omega)
          have HR : Hid (lck L (T : Int) (q + 1) = lck L (T : Int) q ++ (if hasB L (T : Int) q = true then [] else [(q : Int)])) := lck_succ L (T : Int) q
          clear hO hB2 hg hne LB LL LS
          by_cases hqT : q < T
          · have q1 : (q : Int) < (T : Int) := by omega
            have q0 : (0 : Int) ≤ (q : Int) := by omega
            have q12 : (q : Int) < 12 := by omega
            have d1 := hL2.cell q (by omega)
            clear hL2
            generalize hasB L (T : Int) q = fo at *
            cases fo
            · have HR' : Hid (lck L (T : Int) (q + 1) = lck L (T : Int) q ++ [(q : Int)]) := by rw [Hid, HR.out]; simp
              generalize hX1 : lck L (T : Int) (q + 1) = X1 at *
              generalize lck L (T : Int) q = X0 at *
              have hO2 : OSl (wr.alloc (.cells #[.int .i64 (q : Int)] 2)) 1 g og X0.length cg (X0.map (Value.int .i64)) := OSl.below MO.out ((Below.refl _ _).alloc (Nat.le_refl _) _) MO.out.blk
              go_wp2_with (at_builtin; refine wpList_append_os _ rfl _ _ _ rfl 2 i0 _ 1 8 Try.underlying24 hi0 hz0 hz1 hz2 rfl (by omega) g og X0.length cg _ rfl hO2 ⟨wr.heap.size, 0, none⟩ 1 1 [.int .i64 (q : Int)] rfl rfl (World.news_of_block (cs := #[.int .i64 (q : Int)]) (t := 2) (fr := (0, 0)) (heap_alloc_new _ _)) (by simp [Value.oneCell']) (by unfold maxLen; omega) (by omega) ?_; intro g6 o6 c6 w6 hO6 hg6 hat6)
              have NE : Hid (g6 ≠ w.heap.size + 1) := by
                rcases hat6 with h | h
                · rw [h]; exact ME.out
                · intro hh; have h2 : (wr.alloc (.cells #[.int .i64 (q : Int)] 2)).heap.size = wr.heap.size + 1 := by simp
                  have h3 := MS.out; rw [h, h2] at hh; omega
              have NG : Hid (w.heap.size ≤ g6) := by
                rcases hat6 with h | h
                · rw [h]; exact MG.out
                · rw [h]; exact Nat.le_trans MB.out.size (by simp)
              have NL : Hid (X1.length = X0.length + 1) := by rw [Hid, HR'.out]; simp
              have NO : Hid (OI w6 g6 o6 X1.length c6 X1) := by
                rw [Hid, NL.out, HR'.out, OI, List.map_append]; exact hO6
              have NB : Hid (Below w.heap.size w w6) := below_grown6 (MB.out.alloc MB.out.size _) hg6 MG.out (Nat.le_trans MB.out.size (by simp))
              have NM : Hid (Bl w6 (w.heap.size + 1) 12 (fun i => hasB L (T : Int) i)) := by
                have h1 : Bl (wr.alloc (.cells #[.int .i64 (q : Int)] 2)) (w.heap.size + 1) 12 (fun i => hasB L (T : Int) i) := ML.out.below ((Below.refl _ _).alloc (Nat.le_refl _) _) ML.out.blk
                exact h1.of_block (hg6.block _ h1.blk (by simpa using fun h => ME.out h.symm)) (Nat.lt_of_lt_of_le h1.blk hg6.size)
              clear hO6 hg6 hat6 hO2
              go_roundw
              case rel => exact ⟨q + 1, g6, o6, c6, by omega, by go_num, by rw [hX1, NL.out], NG.out, NE.out, by rw [hX1]; exact NO.out, NM.out, NB.out⟩
              case measure => simp [intOf]; omega
            · have HR' : Hid (lck L (T : Int) (q + 1) = lck L (T : Int) q) := by rw [Hid, HR.out]; simp
              go_wp2
              go_roundw
              case rel => exact ⟨q + 1, g, og, cg, by omega, by go_num, by rw [HR'.out], MG.out, ME.out, by rw [HR'.out]; exact MO.out, ML.out, MB.out⟩
              case measure => simp [intOf]; omega
          · have q1 : ¬ ((q : Int) < (T : Int)) := by omega
            obtain rfl : q = T := by omega
            clear hL2
            go_wp2
            go_ret
            rw [HZ.out]
            exact ⟨g, og, cg, rfl, MG.out, MO.out, MB.out⟩
theorem implLacking : ImplLacking := fun a cap L total w hv _ hsh _ _ hl _ => (lacI_any a L.length cap L total w hv hsh hl).mono (fun e w' h => h.ns)
end Go.Proofs.Ythlaaldicmfcnaa
