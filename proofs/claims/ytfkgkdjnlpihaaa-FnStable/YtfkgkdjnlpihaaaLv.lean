/-
  Several texts in one: Fnd.
-/
import Derived.Test.YtfkgkdjnlpihaaaLt
import Derived.Test.YtfkgkdjnlpihaaaIw
import Derived.Test.YtfkgkdjnlpihaaaJq
/-
  The draws of stage 13: rows and flags.
-/
namespace Go.Proofs.Ytfkgkdjnlpihaaa
set_option linter.unusedVariables false
set_option linter.unusedSimpArgs false
open Go.RowKit Go.Sort

/-- Drawn rows, to be read: all that they are lies from block lo on. -/
structure RdR (Y : World) (lo : Nat) (a : Option Addr) (c : Nat) (R : List (List Int)) : Prop where
  le : R.length ≤ c
  mx : c ≤ maxLen
  at_ : ∀ i, i < R.length → ∃ b off x cx, a = some ⟨b, off, none⟩ ∧ lo ≤ b ∧ Y.cell? ⟨b, off + i, none⟩ = some (.slice x (row R i).length cx) ∧ Vec Y x (row R i).length (row R i) ∧ (row R i ≠ [] → ∀ k o, x = some ⟨k, o, none⟩ → lo ≤ k ∧ k ≠ b) ∧ (row R i).length ≤ cx ∧ cx ≤ maxLen
theorem RdR.vv {Y : World} {lo : Nat} {a : Option Addr} {c : Nat} {R : List (List Int)} (h : RdR Y lo a c R) : VV Y a R.length c R := ⟨rfl, h.le, h.mx, fun i hi => by
  obtain ⟨b, off, x, cx, h1, _, h2, h3, _, h4, h5⟩ := h.at_ i hi
  exact ⟨b, off, x, cx, h1, h2, h3, h4, h5⟩⟩
theorem RdR.grown {Y Y' : World} {lo p : Nat} {a : Option Addr} {c : Nat} {R : List (List Int)} (h : RdR Y lo a c R) (hg : Y.grownBy Y' (some p)) (hp : p < lo) : RdR Y' lo a c R := ⟨h.le, h.mx, fun i hi => by
  obtain ⟨b, off, x, cx, h1, hlo, h2, h3, hx, h4, h5⟩ := h.at_ i hi
  refine ⟨b, off, x, cx, h1, hlo, ?_, h3.other hg (fun k o hne e => by have := (hx hne k o e).1; omega), hx, h4, h5⟩
  have hb := hg.block b (World.block_lt_of_cell? _ _ h2) (by simp; omega)
  rw [World.cell?_of_block (w := Y) hb]
  exact h2⟩
theorem rdr_ow {Y : World} {lo : Nat} {a : Option Addr} {c : Nat} {R : List (List Int)} {fp : Fp} (h : Cel.ow Y (iicl R) (.slice a R.length c) fp) (hf : FitsH R) (hlo : ∀ b, fp b → lo ≤ b) : RdR Y lo a c R := by
  obtain ⟨a0, c0, us, G, f, e0, hs, hL, hd, hfp⟩ := h
  cases e0
  have hle := hs.le
  refine ⟨hle.1, hle.2, fun i hi => ?_⟩
  obtain ⟨g, off, rfl, rfl, hc, _⟩ := hs.cell (by omega)
  obtain ⟨u, fi, hu, hw, hsub, _⟩ := owL_at hL (map_row hi)
  obtain ⟨x, cx, G', rfl, ho, hG'⟩ := ow_icl.1 hw
  obtain ⟨x2, cx2, e2, hvec, hl1, hl2⟩ := vw_icl (Cel.ow_vw hw) (hf i hi)
  cases e2
  refine ⟨g, off, x, cx, rfl, hlo g ((hfp g).2 (.inl rfl)), (hc i (by omega)).trans hu, hvec, fun hne k o e => ?_, hl1, hl2⟩
  subst e
  rcases ho with ⟨h0, _⟩ | ⟨g2, o2, e3, _, rfl⟩
  · exact absurd (List.eq_nil_of_length_eq_zero h0) hne
  · cases e3
    have h1 : f k := hsub k ((hG' k).2 rfl)
    exact ⟨hlo k ((hfp k).2 (.inr h1)), fun e => hd g rfl (e ▸ h1)⟩
/-- A row is put in the place of the first one. -/
theorem RdR.set0 {Y : World} {lo b off : Nat} {c : Nat} {R : List (List Int)} (h : RdR Y lo (some ⟨b, off, none⟩) c R) (hn : 0 < R.length) {zs : List Int} {x : Option Addr} {cx : Nat} (hv : Vec Y x zs.length zs) (hx : zs ≠ [] → ∀ k o, x = some ⟨k, o, none⟩ → lo ≤ k ∧ k ≠ b) (h1 : zs.length ≤ cx) (h2 : cx ≤ maxLen) :
    RdR (Y.setCell ⟨b, off, none⟩ (.slice x zs.length cx)) lo (some ⟨b, off, none⟩) c (R.set 0 zs) := by
  have hg : Y.grownBy (Y.setCell ⟨b, off, none⟩ (.slice x zs.length cx)) (some b) := grown_set (grown_refl Y (some b)) off _
  refine ⟨by rw [List.length_set]; exact h.le, h.mx, fun i hi => ?_⟩
  rw [List.length_set] at hi
  obtain ⟨b', off', y, cy, e, hlo, hc, hvy, hy, hl1, hl2⟩ := h.at_ i hi
  cases e
  by_cases e0 : i = 0
  · subst e0
    have er : row (R.set 0 zs) 0 = zs := by simp [row, List.getD, hn]
    rw [er]
    refine ⟨b, off, x, cx, rfl, hlo, ?_, hv.other hg (fun k o hne e => (hx hne k o e).2), hx, h1, h2⟩
    rw [Nat.add_zero] at hc ⊢
    exact World.cell?_setCell_same _ _ _ hc
  · have er : row (R.set 0 zs) i = row R i := by simp [row, List.getD, List.getElem?_set, Ne.symm e0]
    rw [er]
    refine ⟨b, off, y, cy, rfl, hlo, ?_, hvy.other hg (fun k o hne e => (hy hne k o e).2), hy, hl1, hl2⟩
    rw [World.cell?_setCell_other _ _ _ _ (by intro h; have := congrArg Addr.off h; simp only at this; omega)]
    exact hc
/-- What l13Draw holds. -/
structure D13 (w X Y : World) (p : Nat) (a : Option Addr) (len cap : Nat) (bs : Nat → Int) (oa : Option Addr) (oc : Nat) (R : List (List Int)) (fp : Fp) : Prop where
  cc : Cc w Y p a len cap bs
  own : Cel.ow Y (iicl R) (.slice oa R.length oc) fp
  fpl : ∀ b, fp b → X.heap.size ≤ b
  hp : p < X.heap.size
  gr : X.grownBy Y (some p)
theorem D13.drawn {w X Y Y' : World} {p : Nat} {a : Option Addr} {len cap : Nat} {bs : Nat → Int} {oa : Option Addr} {oc : Nat} {R : List (List Int)} {fp : Fp} (h : D13 w X Y p a len cap bs oa oc R fp) (hg : Y.grownBy Y' (some p)) (hc : Cc w Y' p a len cap bs) : D13 w X Y' p a len cap bs oa oc R fp :=
  ⟨hc, Cel.ow_wrt h.own (Wrt.of_grown hg) (fun b hb e => by cases e; have := h.fpl _ hb; have := h.hp; omega), h.fpl, h.hp, grown_trans h.gr hg⟩
theorem D13.step {w X Y Y' : World} {p : Nat} {a : Option Addr} {len cap : Nat} {bs : Nat → Int} {oa : Option Addr} {oc : Nat} {R : List (List Int)} {fp : Fp} (h : D13 w X Y p a len cap bs oa oc R fp) (hb : Below Y.heap.size Y Y') : D13 w X Y' p a len cap bs oa oc R fp :=
  ⟨h.cc.step hb, Cel.ow_below h.own hb, h.fpl, h.hp, grown_trans h.gr ⟨hb.os, hb.tape, hb.output, hb.size, fun x hx _ => hb.block x hx⟩⟩
/-- Another new block is written. -/
theorem D13.other {w X Y Y' : World} {p g : Nat} {a : Option Addr} {len cap : Nat} {bs : Nat → Int} {oa : Option Addr} {oc : Nat} {R : List (List Int)} {fp : Fp} (h : D13 w X Y p a len cap bs oa oc R fp) (hg : Y.grownBy Y' (some g)) (hX : X.heap.size ≤ g) (hn : ¬ fp g) : D13 w X Y' p a len cap bs oa oc R fp := by
  have h1 := h.hp
  have h2 := h.cc.hp
  refine ⟨h.cc.grown hg (by omega) (by omega), Cel.ow_wrt h.own (Wrt.of_grown hg) (fun b hb e => by cases e; exact hn hb), h.fpl, h1, ⟨hg.os.trans h.gr.os, hg.tape.trans h.gr.tape, hg.output.trans h.gr.output, Nat.le_trans h.gr.size hg.size, fun b hb hne => (hg.block b (Nat.lt_of_lt_of_le hb h.gr.size) (by simp; omega)).trans (h.gr.block b hb hne)⟩⟩
/-- One more row. -/
theorem D13.push {w X Y : World} {p : Nat} {a : Option Addr} {len cap : Nat} {bs : Nat → Int} {oa : Option Addr} {oc : Nat} {R : List (List Int)} {fp : Fp} (h : D13 w X Y p a len cap bs oa oc R fp) {g og c : Nat} {v : List Int} (ho : OI Y g og v.length c v) (hX : X.heap.size ≤ g) (hn : ¬ fp g) (hl : R.length ≤ 1000) :
    ∀ Z, Same Z (Y.alloc (.cells #[.slice (some ⟨g, og, none⟩) v.length c] 24)) → ∃ v' w4, (Builtin.append_ #[33, 33] 33 #[.slice oa R.length oc, .slice (some ⟨Y.heap.size, 0, none⟩) 1 1]).run Try.prog Z = .ok v' w4 ∧ ∃ a' c' fp', v' = .slice a' (R.length + 1) c' ∧ D13 w X w4 p a len cap bs a' c' (R ++ [v]) fp' := by
  intro Z hZ
  obtain ⟨i1, hi1, hy0, hy1, hy2⟩ := info_parts2n infoSl10
  have hbZ : Below Y.heap.size Y Z := (one_alloc10 Y _).trans (hZ.below.mono (one_alloc10 Y _).size)
  have hD := h.step hbZ
  have hoZ : OI Z g og v.length c v := ho.below hbZ ho.blk
  have hd : owL Z [icl v] [.slice (some ⟨g, og, none⟩) v.length c] (fun b => b = g) := ⟨_, [], fun b => b = g, fun _ => False, rfl, ow_icl.2 ⟨_, _, some g, rfl, OSo.of hoZ, fun b => by simp [eq_comm]⟩, ⟨rfl, fun _ h => h⟩, fun _ _ h => h, fun b => by simp⟩
  obtain ⟨a2, c2, w4, fp', hr4, hO4, hw4, hf4⟩ := ow_push (P := Try.prog) (w := Z) 33 33 24 i1 _ 1 24 Try.underlying33 hi1 hy0 hy1 hy2 rfl (by omega) hD.own hd (fun b h1 h2 => hn (h2 ▸ h1)) rfl (by simp [Value.oneCell']) Y.heap.size 24 (by rw [hZ.heap]; exact heap_alloc_new Y _) (by unfold maxLen; omega) (by omega)
  have h1 := h.hp
  have h2 := h.cc.hp
  have hXZ : X.heap.size ≤ Z.heap.size := hD.gr.size
  refine ⟨_, w4, hr4, a2, c2, fp', rfl, ?_, ?_, ?_, h1, ?_⟩
  · exact ⟨(by obtain ⟨i, h9, h10, h11⟩ := hD.cc.cur; exact ⟨i, h9, h10, (hw4.block p hD.cc.cur.lt (fun hb => by have := h.fpl _ hb; omega)).trans h11⟩), hD.cc.code, hw4.below hD.cc.below hD.cc.below.size (fun b hb => by have := h.fpl b hb; omega), hD.cc.off, hD.cc.hl, hD.cc.hp⟩
  · have e : (R ++ [v]).map icl = R.map icl ++ [icl v] := by simp
    unfold iicl
    rw [e, List.length_append, List.length_singleton]
    exact hO4
  · intro b hb
    rcases hf4 b hb with h3 | h3 | h3
    · exact h.fpl b h3
    · rw [h3]; exact hX
    · rw [h3]; exact hXZ
  · exact ⟨hw4.os.trans hD.gr.os, hw4.tape.trans hD.gr.tape, hw4.output.trans hD.gr.output, Nat.le_trans hD.gr.size hw4.size, fun b hb hne => (hw4.block b (Nat.lt_of_lt_of_le hb hD.gr.size) (fun h3 => by have := h.fpl b h3; omega)).trans (hD.gr.block b hb hne)⟩
/-- What drawn rows are like. -/
def SmR (R : List (List Int)) : Prop := 1 ≤ R.length ∧ R.length ≤ 4 ∧ ∀ i, i < R.length → (row R i).length ≤ 16
/-- Rows of small numbers. -/
def SmI (R : List (List Int)) (n : Nat) : Prop := ∀ i, i < R.length → (row R i).length = n ∧ ∀ x ∈ row R i, 0 ≤ x ∧ x ≤ 5
theorem SmI.fits {R : List (List Int)} {n : Nat} (h : SmI R n) : FitsH R := fun i hi x hx => by have := (h i hi).2 x hx; omega
theorem SmI.snoc {R : List (List Int)} {n : Nat} {v : List Int} (h : SmI R n) (hv : v.length = n) (hx : ∀ x ∈ v, 0 ≤ x ∧ x ≤ 5) : SmI (R ++ [v]) n := fun i hi => by
  rw [List.length_append, List.length_singleton] at hi
  by_cases e : i < R.length
  · have er : row (R ++ [v]) i = row R i := by simp [row, List.getD, List.getElem?_append_left e]
    rw [er]; exact h i e
  · obtain rfl : i = R.length := by omega
    have er : row (R ++ [v]) R.length = v := by simp [row, List.getD]
    rw [er]; exact ⟨hv, hx⟩
set_option maxRecDepth 100000 in
set_option maxHeartbeats 3200000 in
theorem draw13_any {w X : World} {p : Nat} {a : Option Addr} {len cap : Nat} {bs : Nat → Int} (h : Cc w X p a len cap bs) :
    Calls Try.prog 66 #[.pointer (some ⟨p, 0, none⟩)] X fun e X' => ∃ (R : List (List Int)) (a' : Option Addr) (c : Nat), e = .returned (.slice a' R.length c) ∧ RdR X' X.heap.size a' c R ∧ SmR R ∧ Cc w X' p a len cap bs ∧ X.grownBy X' (some p) := by
  obtain ⟨i0, hi0, hz0, hz1, hz2⟩ := info_parts2n Try.info2n
  have hpl := h.lt
  have D0 : D13 w X (X.alloc (.cells #[] 24)) p a len cap bs (some ⟨X.heap.size, 0, none⟩) 0 [] (fun b => b = X.heap.size) := by
    refine ⟨h.step (one_alloc10 _ _), ?_, fun b hb => by rw [hb]; exact Nat.le_refl _, hpl, World.grownBy_alloc X _ _⟩
    exact ⟨_, 0, [], some X.heap.size, fun _ => False, rfl, .inr ⟨X.heap.size, 0, rfl, ⟨rfl, Nat.le_refl _, Nat.zero_le _, by simp, fun i hi => by simp at hi, fun i hi => by simp at hi, fun i hi => by simp at hi⟩, rfl⟩, ⟨rfl, fun _ h => h⟩, fun _ _ h => h, fun b => by simp [eq_comm]⟩
  go_enter Try.func66, Try.ntmps66
  go_wp2_with fail
  refine (belowC 4 4 rfl D0.cc (by omega) (by omega)).mono ?_
  rintro e Y1 ⟨v1, rfl, hv1, C1, g1⟩
  have D1 := D0.drawn g1 C1
  have hw1 : wrap64 (1 + (v1 : Int)) = 1 + (v1 : Int) := by unfold wrap64; omega
  clear D0 C1 g1
  go_wp2_with fail
  refine (belowC 4 4 rfl D1.cc (by omega) (by omega)).mono ?_
  rintro e Y2 ⟨v2, rfl, hv2, C2, g2⟩
  have D2 := D1.drawn g2 C2
  have hw2 : wrap64 (1 + (v2 : Int)) = 1 + (v2 : Int) := by unfold wrap64; omega
  clear D1 C2 g2
  obtain ⟨n, hn⟩ : ∃ n : Nat, 1 + v1 = n := ⟨_, rfl⟩
  have hnI : 1 + (v1 : Int) = (n : Int) := by omega
  have hn4 : 1 ≤ n ∧ n ≤ 4 := by omega
  obtain ⟨K, hK⟩ : ∃ K : Nat, 1 + v2 = K := ⟨_, rfl⟩
  have hKI : 1 + (v2 : Int) = (K : Int) := by omega
  have hK4 : 1 ≤ K ∧ K ≤ 4 := by omega
  have HD2 : Hid (D13 w X Y2 p a len cap bs (some ⟨X.heap.size, 0, none⟩) 0 [] (fun b => b = X.heap.size)) := D2
  clear D2
  go_wp2_with fail
  clear hw1 hw2 hnI hKI hn hK
  go_loopw [3, 5] (fun o k wr => ∃ (j : Nat) (R : List (List Int)) (oa : Option Addr) (oc : Nat) (fp : Fp), k = .int .i64 (j : Int) ∧ o = .slice oa R.length oc ∧ R.length + j = K ∧ SmI R n ∧ D13 w X wr p a len cap bs oa oc R fp) (fun _ k _ => (intOf k).toNat)
  case atStart => exact ⟨K, [], _, 0, _, rfl, rfl, by simp, fun i hi => by simp at hi, HD2.out⟩
  case round =>
    clear HD2
    obtain ⟨j, R, oa, oc, fp, rfl, rfl, hRj, hSm, hD⟩ := hrel
    have HS : Hid (SmI R n) := hSm
    clear hSm
    by_cases hj : 0 < j
    · have j0 : (0 : Int) < (j : Int) := by omega
      have HE : Hid (D13 w X (wr.alloc (.cells #[] 2)) p a len cap bs oa oc R fp) := hD.step (one_alloc10 _ _)
      have HW : Hid (X.heap.size ≤ wr.heap.size ∧ ¬ fp wr.heap.size) := ⟨hD.gr.size, fun hb => by have := Cel.ow_lt hD.own _ hb; omega⟩
      generalize hWR : wr = W0 at *
      clear hWR hD
      go_wp2_with fail
      go_loopw [6, 7] (fun v i wr => ∃ (k g og cg : Nat) (V : List Int), k ≤ n ∧ i = .int .i64 (k : Int) ∧ v = .slice (some ⟨g, og, none⟩) V.length cg ∧ V.length = k ∧ (∀ x ∈ V, 0 ≤ x ∧ x ≤ 5) ∧ X.heap.size ≤ g ∧ ¬ fp g ∧ OI wr g og V.length cg V ∧ D13 w X wr p a len cap bs oa oc R fp) (fun _ i _ => n - (intOf i).toNat)
      case atStart => exact ⟨0, W0.heap.size, 0, 0, [], Nat.zero_le _, rfl, rfl, rfl, fun x hx => absurd hx List.not_mem_nil, HW.out.1, HW.out.2, num_empty _ 2, HE.out⟩
      case round =>
        clear HE HW
        obtain ⟨k, g, og, cg, V, hk, rfl, rfl, hVk, hVx, hgX, hgf, hO, hD⟩ := hrel
        by_cases hlt : k < n
        · have k1 : (k : Int) < (n : Int) := by omega
          have HVx : Hid (∀ x ∈ V, 0 ≤ x ∧ x ≤ 5) := hVx
          have HVk : Hid (V.length = k) := hVk
          have hVl : V.length ≤ 4 := by omega
          have hpg := hD.hp
          clear hVx hVk
          go_wp2_with fail
          refine (belowC 6 6 rfl hD.cc (by omega) (by omega)).mono ?_
          rintro e Y5 ⟨y, rfl, hy, C5, g5⟩
          have D5 := hD.drawn g5 C5
          have O5 : OI Y5 g og V.length cg V := OSl.grown hO g5 (by simp; omega)
          have hO2 : OSl (Y5.alloc (.cells #[.int .i64 (y : Int)] 2)) 1 g og V.length cg (V.map (Value.int .i64)) := OSl.below O5 ((Below.refl _ _).alloc (Nat.le_refl _) _) O5.blk
          have D6 := D5.step (one_alloc10 Y5 (.cells #[.int .i64 (y : Int)] 2))
          have HD6 : Hid (D13 w X (Y5.alloc (.cells #[.int .i64 (y : Int)] 2)) p a len cap bs oa oc R fp) := D6
          clear C5 g5 D5 O5 hO hD D6
          go_wp2_with (at_builtin; refine wpList_append_os _ rfl _ _ _ rfl 2 i0 _ 1 8 Try.underlying24 hi0 hz0 hz1 hz2 rfl (by omega) g og V.length cg _ rfl hO2 ⟨Y5.heap.size, 0, none⟩ 1 1 [.int .i64 (y : Int)] rfl rfl (World.news_of_block (cs := #[.int .i64 (y : Int)]) (t := 2) (fr := (0, 0)) (heap_alloc_new _ _)) (by simp [Value.oneCell']) (by unfold maxLen; omega) (by omega) ?_; intro g6 o6 c6 w6 hO6 hg6 hat6)
          have ND : Hid (D13 w X w6 p a len cap bs oa oc R fp) := HD6.out.other hg6 hgX hgf
          have NG : Hid (X.heap.size ≤ g6 ∧ ¬ fp g6) := by
            rcases hat6 with h | h
            · rw [h]; exact ⟨hgX, hgf⟩
            · rw [h]; exact ⟨HD6.out.gr.size, fun hb => by have := Cel.ow_lt HD6.out.own _ hb; omega⟩
          have NO : Hid (OI w6 g6 o6 (V ++ [(y : Int)]).length c6 (V ++ [(y : Int)])) := by
            rw [Hid, List.length_append, OI, List.map_append]; exact hO6
          have NX : Hid (∀ x ∈ V ++ [(y : Int)], 0 ≤ x ∧ x ≤ 5) := fun x hx => by
            rcases List.mem_append.1 hx with h | h
            · exact HVx.out x h
            · rw [List.mem_singleton.1 h]; omega
          clear hO6 hg6 hat6 hO2 HD6
          go_roundw
          case rel => exact ⟨k + 1, g6, o6, c6, V ++ [(y : Int)], by omega, by go_num, by rw [List.length_append]; rfl, by rw [List.length_append, HVk.out]; rfl, NX.out, NG.out.1, NG.out.2, NO.out, ND.out⟩
          case measure => simp [intOf]; omega
        · have k1 : ¬ ((k : Int) < (n : Int)) := by omega
          have hP := hD.push hO hgX hgf (by omega)
          have HS2 : Hid (SmI (R ++ [V]) n) := HS.out.snoc (by omega) hVx
          have hj1 : (j : Int) - 1 = ((j - 1 : Nat) : Int) := by omega
          have HJ : Hid ((j : Int) - 1 = ((j - 1 : Nat) : Int)) := hj1
          clear hO hD hVx hj1 hVk
          go_wp2_with (at_builtin; refine wpList_append_of rfl _ _ _ _ rfl _ _ rfl rfl hP ⟨rfl, rfl, rfl, rfl⟩ ?_; rintro v' w4 ⟨a4, c4, fp4, rfl, hD4⟩)
          have HD4 : Hid (D13 w X w4 p a len cap bs a4 c4 (R ++ [V]) fp4) := hD4
          clear hD4 hP
          go_roundw
          case rel => exact ⟨j - 1, R ++ [V], a4, c4, fp4, by rw [HJ.out], by rw [List.length_append]; rfl, by rw [List.length_append, List.length_singleton]; omega, HS2.out, HD4.out⟩
          case measure => simp [intOf]; omega
    · have j0 : ¬ ((0 : Int) < (j : Int)) := by omega
      have hR1 : 1 ≤ R.length ∧ R.length ≤ 4 := by omega
      have HSM : Hid (SmR R) := ⟨hR1.1, hR1.2, fun i hi => by have := (HS.out i hi).1; omega⟩
      clear hRj
      go_wp2_with fail
      refine (onceC 14 hD.cc (by omega)).mono ?_
      rintro e Y5 ⟨t, rfl, C5, g5⟩
      have D5 := hD.drawn g5 C5
      clear hD C5 g5
      cases t
      · have HE : Hid (RdR Y5 X.heap.size oa oc R ∧ Cc w Y5 p a len cap bs ∧ X.grownBy Y5 (some p)) := ⟨rdr_ow D5.own HS.out.fits D5.fpl, D5.cc, D5.gr⟩
        clear D5
        go_wp2
        go_ret
        exact ⟨R, oa, oc, rfl, HE.out.1, HSM.out, HE.out.2.1, HE.out.2.2⟩
      · go_wp2_with fail
        refine (vecC n (n : Int) rfl (by omega) D5.cc).mono ?_
        rintro e Y6 ⟨za, zc, zs, rfl, hVz, hzc, hzm, hz16, hFr, C6, g6⟩
        have D6 := D5.drawn g6 C6
        have hR6 := rdr_ow D6.own HS.out.fits D6.fpl
        obtain ⟨b, off, x0, cx0, rfl, hlo, hc0, _⟩ := hR6.at_ 0 (by omega)
        rw [Nat.add_zero] at hc0
        have hfz : Y6.frozen? ⟨b, off, none⟩ = false := by
          obtain ⟨a0, c0, us, G, f, e0, hs, _⟩ := D6.own
          cases e0
          obtain ⟨g, o2, e1, _, _, hfr⟩ := hs.cell (by omega)
          cases e1
          have := hfr 0 (by omega)
          rwa [Nat.add_zero] at this
        have hbY : b < Y5.heap.size := by
          obtain ⟨b', off', _, _, e1, _, hc1, _⟩ := (rdr_ow D5.own HS.out.fits D5.fpl).at_ 0 (by omega)
          cases e1
          exact World.block_lt_of_cell? _ _ hc1
        have hX5 := D5.gr.size
        have hbp : b ≠ p := by have := D6.hp; omega
        have N1 : Hid (RdR (Y6.setCell ⟨b, off, none⟩ (.slice za zs.length zc)) X.heap.size (some ⟨b, off, none⟩) oc (R.set 0 zs)) := hR6.set0 (by omega) hVz (fun _ k o e => by have := hFr k o e; omega) hzc hzm
        have N2 : Hid (Cc w (Y6.setCell ⟨b, off, none⟩ (.slice za zs.length zc)) p a len cap bs) := D6.cc.set hbp (by have := D6.cc.hp; have := D6.hp; omega) off _
        have N3 : Hid (X.grownBy (Y6.setCell ⟨b, off, none⟩ (.slice za zs.length zc)) (some p)) := by
          have hw := Wrt.set Y6 b off (.slice za zs.length zc)
          exact ⟨hw.os.trans D6.gr.os, hw.tape.trans D6.gr.tape, hw.output.trans D6.gr.output, Nat.le_trans D6.gr.size hw.size, fun q hq hne => (hw.block q (Nat.lt_of_lt_of_le hq D6.gr.size) (by omega)).trans (D6.gr.block q hq hne)⟩
        have N4 : Hid (SmR (R.set 0 zs)) := by
          obtain ⟨h1, h2, h3⟩ := HSM.out
          refine ⟨by rw [List.length_set]; exact h1, by rw [List.length_set]; exact h2, fun i hi => ?_⟩
          rw [List.length_set] at hi
          by_cases e0 : i = 0
          · subst e0
            have er : row (R.set 0 zs) 0 = zs := by simp [row, List.getD, hi]
            rw [er]; exact hz16
          · have er : row (R.set 0 zs) i = row R i := by simp [row, List.getD, List.getElem?_set, Ne.symm e0]
            rw [er]; exact h3 i hi
        have hRp : (0 : Int) < (R.length : Int) := by omega
        have HL : Hid ((R.set 0 zs).length = R.length) := by rw [Hid, List.length_set]
        clear D5 D6 hR6 C6 g6 hVz hFr
        go_wp2
        go_ret
        exact ⟨R.set 0 zs, some ⟨b, off, none⟩, oc, by rw [HL.out]; rfl, N1.out, N4.out, N2.out, N3.out⟩
/-- Drawn flags. -/
structure RdF (Y : World) (lo : Nat) (a : Option Addr) (c : Nat) (al : List Bool) : Prop where
  fls : FlS Y a al
  cp : al.length ≤ c ∧ c ≤ maxLen
  sm : al.length ≤ 5
set_option maxRecDepth 100000 in
set_option maxHeartbeats 3200000 in
theorem drawFl_any {w X : World} {p : Nat} {a : Option Addr} {len cap : Nat} {bs : Nat → Int} (n : Nat) (hn : n ≤ 4) (h : Cc w X p a len cap bs) :
    Calls Try.prog 67 #[.pointer (some ⟨p, 0, none⟩), .int .i64 (n : Int)] X fun e X' => ∃ (al : List Bool) (a' : Option Addr) (c : Nat), e = .returned (.slice a' al.length c) ∧ RdF X' X.heap.size a' c al ∧ Cc w X' p a len cap bs ∧ X.grownBy X' (some p) := by
  obtain ⟨i0, hi0, hz0, hz1, hz2⟩ := info_parts2n Try.info4b
  have hpl := h.lt
  have hpw := h.hp
  have HC0 : Hid (Cc w (X.alloc (.cells #[] 4)) p a len cap bs) := h.step (one_alloc10 _ _)
  clear h
  go_enter Try.func67, Try.ntmps67
  go_wp2
  go_loopw [5, 6] (fun v i wr => ∃ (k g og cg : Nat) (V : List Bool), k ≤ n ∧ i = .int .i64 (k : Int) ∧ v = .slice (some ⟨g, og, none⟩) V.length cg ∧ V.length = k ∧ X.heap.size ≤ g ∧ OF wr g og V.length cg V ∧ Cc w wr p a len cap bs ∧ X.grownBy wr (some p)) (fun _ i _ => n - (intOf i).toNat)
  case atStart => exact ⟨0, X.heap.size, 0, 0, [], Nat.zero_le _, rfl, rfl, rfl, Nat.le_refl _, ⟨rfl, Nat.le_refl _, Nat.zero_le _, by simp, fun i hi => by simp at hi, fun i hi => by simp at hi, fun i hi => by simp at hi⟩, HC0.out, World.grownBy_alloc X _ _⟩
  case round =>
    clear HC0
    obtain ⟨k, g, og, cg, V, hk, rfl, rfl, hVk, hgX, hO, hC, hG⟩ := hrel
    have HVk : Hid (V.length = k) := hVk
    have hVl : V.length ≤ 4 := by omega
    clear hVk
    have hgp : g ≠ p := by omega
    by_cases hlt : k < n
    · have k1 : (k : Int) < (n : Int) := by omega
      go_wp2_with fail
      refine (onceC 3 hC (by omega)).mono ?_
      rintro e Y5 ⟨t, rfl, C5, g5⟩
      have G5 := grown_trans hG g5
      have O5 : OF Y5 g og V.length cg V := OSl.grown hO g5 (by simpa using fun h => hgp h.symm)
      have hO2 : OSl (Y5.alloc (.cells #[.bool (!t)] 4)) 1 g og V.length cg (bov V) := OSl.below O5 ((Below.refl _ _).alloc (Nat.le_refl _) _) O5.blk
      have C6 := C5.step (one_alloc10 Y5 (.cells #[.bool (!t)] 4))
      have G6 := grown_trans G5 (World.grownBy_alloc Y5 (.cells #[.bool (!t)] 4) (some p))
      clear C5 g5 G5 O5 hO hC hG
      go_wp2_with (at_builtin; refine wpList_append_os _ rfl _ _ _ rfl 4 i0 _ 1 1 Try.underlying34 hi0 hz0 hz1 hz2 rfl (by omega) g og V.length cg _ rfl hO2 ⟨Y5.heap.size, 0, none⟩ 1 1 [.bool (!t)] rfl rfl (World.news_of_block (cs := #[.bool (!t)]) (t := 4) (fr := (0, 0)) (heap_alloc_new _ _)) (by simp [Value.oneCell']) (by unfold maxLen; omega) (by omega) ?_; intro g6 o6 c6 w6 hO6 hg6 hat6)
      have NC : Hid (Cc w w6 p a len cap bs) := C6.grown hg6 hgp (by omega)
      have NG : Hid (X.heap.size ≤ g6) := by
        rcases hat6 with h | h
        · rw [h]; exact hgX
        · rw [h]; exact G6.size
      have NW : Hid (X.grownBy w6 (some p)) := ⟨hg6.os.trans G6.os, hg6.tape.trans G6.tape, hg6.output.trans G6.output, Nat.le_trans G6.size hg6.size, fun b hb hne => (hg6.block b (Nat.lt_of_lt_of_le hb G6.size) (by simp; omega)).trans (G6.block b hb hne)⟩
      have NO : Hid (OF w6 g6 o6 (V ++ [!t]).length c6 (V ++ [!t])) := by
        rw [Hid, List.length_append, OF, show bov (V ++ [!t]) = bov V ++ [.bool (!t)] by simp [bov]]; exact hO6
      clear hO6 hg6 hat6 hO2 C6 G6
      go_roundw
      case rel => exact ⟨k + 1, g6, o6, c6, V ++ [!t], by omega, by go_num, by rw [List.length_append]; rfl, by rw [List.length_append, HVk.out]; rfl, NG.out, NO.out, NC.out, NW.out⟩
      case measure => simp [intOf]; omega
    · have k1 : ¬ ((k : Int) < (n : Int)) := by omega
      go_wp2_with fail
      refine (onceC 20 hC (by omega)).mono ?_
      rintro e Y5 ⟨t, rfl, C5, g5⟩
      have G5 := grown_trans hG g5
      have O5 : OF Y5 g og V.length cg V := OSl.grown hO g5 (by simpa using fun h => hgp h.symm)
      cases t
      · have HE : Hid (RdF Y5 X.heap.size (some ⟨g, og, none⟩) cg V ∧ Cc w Y5 p a len cap bs ∧ X.grownBy Y5 (some p)) := ⟨⟨O5.fls, ⟨O5.le, O5.max⟩, by omega⟩, C5, G5⟩
        clear C5 g5 G5 O5 hO hC hG
        go_wp2
        go_ret
        exact ⟨V, _, cg, rfl, HE.out.1, HE.out.2.1, HE.out.2.2⟩
      · have hO2 : OSl (Y5.alloc (.cells #[.bool true] 4)) 1 g og V.length cg (bov V) := OSl.below O5 ((Below.refl _ _).alloc (Nat.le_refl _) _) O5.blk
        have C6 := C5.step (one_alloc10 Y5 (.cells #[.bool true] 4))
        have G6 := grown_trans G5 (World.grownBy_alloc Y5 (.cells #[.bool true] 4) (some p))
        clear C5 g5 G5 O5 hO hC hG
        go_wp2_with (at_builtin; refine wpList_append_os _ rfl _ _ _ rfl 4 i0 _ 1 1 Try.underlying34 hi0 hz0 hz1 hz2 rfl (by omega) g og V.length cg _ rfl hO2 ⟨Y5.heap.size, 0, none⟩ 1 1 [.bool true] rfl rfl (World.news_of_block (cs := #[.bool true]) (t := 4) (fr := (0, 0)) (heap_alloc_new _ _)) (by simp [Value.oneCell']) (by unfold maxLen; omega) (by omega) ?_; intro g6 o6 c6 w6 hO6 hg6 hat6)
        have NC : Hid (Cc w w6 p a len cap bs) := C6.grown hg6 hgp (by omega)
        have NW : Hid (X.grownBy w6 (some p)) := ⟨hg6.os.trans G6.os, hg6.tape.trans G6.tape, hg6.output.trans G6.output, Nat.le_trans G6.size hg6.size, fun b hb hne => (hg6.block b (Nat.lt_of_lt_of_le hb G6.size) (by simp; omega)).trans (G6.block b hb hne)⟩
        have NO : Hid (OF w6 g6 o6 (V ++ [true]).length c6 (V ++ [true])) := by
          rw [Hid, List.length_append, OF, show bov (V ++ [true]) = bov V ++ [.bool true] by simp [bov]]; exact hO6
        clear hO6 hg6 hat6 hO2 C6 G6
        go_ret
        exact ⟨V ++ [true], some ⟨g6, o6, none⟩, c6, by rw [List.length_append]; rfl, ⟨NO.out.fls, ⟨NO.out.le, NO.out.max⟩, by simp; omega⟩, NC.out, NW.out⟩
set_option maxRecDepth 100000 in
set_option maxHeartbeats 800000 in
theorem drawSt_any (a : Option Addr) (len cap : Nat) (bs : Nat → Int) (w : World) (hv : BVec w a len bs) (hl : len ≤ 4096) :
    Calls Try.prog 27 #[.slice a len cap] w fun e w' => ∃ (R : List (List Int)) (a1 : Option Addr) (c1 : Nat) (al : List Bool) (a2 : Option Addr) (c2 : Nat), e = .returned (.tuple #[.slice a1 R.length c1, .slice a2 al.length c2]) ∧ (VV w' a1 R.length c1 R ∧ SmR R) ∧ (FlS w' a2 al ∧ al.length ≤ c2 ∧ c2 ≤ maxLen ∧ al.length ≤ 5) ∧ Below w.heap.size w w' := by
  go_enter Try.func27, Try.ntmps27
  go_wp2_with fail
  refine (newC a len cap bs w w (Below.refl _ _) hv hl).mono ?_
  rintro e X1 ⟨p, rfl, hp, C1, hb1⟩
  have hpl := C1.lt
  go_wp2_with fail
  refine (draw13_any C1).mono ?_
  rintro e X2 ⟨R, a1, c1, rfl, hR, hS, C2, g2⟩
  have hR4 := hS.2.1
  have HS : Hid (SmR R) := hS
  clear hS hb1
  go_wp2_with fail
  refine (drawFl_any R.length hR4 C2).mono ?_
  rintro e X3 ⟨al, a2, c2, rfl, hF, C3, g3⟩
  have HE : Hid (VV X3 a1 R.length c1 R ∧ (FlS X3 a2 al ∧ al.length ≤ c2 ∧ c2 ≤ maxLen ∧ al.length ≤ 5) ∧ Below w.heap.size w X3) := ⟨(hR.grown g3 hpl).vv, ⟨hF.fls, hF.cp.1, hF.cp.2, hF.sm⟩, C3.below⟩
  clear hR hF C1 C2 C3 g2 g3
  go_wp2
  refine bodyPost_ret (v := .tuple #[.slice a1 R.length c1, .slice a2 al.length c2]) (by simp [results, Try.results27, go_sem]) rfl ?_
  exact ⟨R, a1, c1, al, a2, c2, rfl, ⟨HE.out.1, HS.out⟩, HE.out.2.1, HE.out.2.2⟩
set_option maxRecDepth 100000 in
set_option maxHeartbeats 800000 in
theorem drawCo_any (a : Option Addr) (len cap : Nat) (bs : Nat → Int) (w : World) (hv : BVec w a len bs) (hl : len ≤ 4096) :
    Calls Try.prog 29 #[.slice a len cap] w fun e w' => ∃ (R : List (List Int)) (a1 : Option Addr) (c1 : Nat) (k : Int), e = .returned (.tuple #[.slice a1 R.length c1, .int .i64 k]) ∧ (VV w' a1 R.length c1 R ∧ SmR R) ∧ (-1 ≤ k ∧ k ≤ 6) ∧ Below w.heap.size w w' := by
  go_enter Try.func29, Try.ntmps29
  go_wp2_with fail
  refine (newC a len cap bs w w (Below.refl _ _) hv hl).mono ?_
  rintro e X1 ⟨p, rfl, hp, C1, hb1⟩
  have hpl := C1.lt
  go_wp2_with fail
  refine (draw13_any C1).mono ?_
  rintro e X2 ⟨R, a1, c1, rfl, hR, hS, C2, g2⟩
  have HS : Hid (SmR R) := hS
  clear hS hb1
  go_wp2_with fail
  refine (fromC (-1) 6 (by omega) (by omega) (by omega) C2).mono ?_
  rintro e X3 ⟨k, rfl, hk0, hk1, C3, g3⟩
  have HE : Hid (VV X3 a1 R.length c1 R ∧ Below w.heap.size w X3) := ⟨(hR.grown g3 hpl).vv, C3.below⟩
  clear hR C1 C2 C3 g2 g3
  go_wp2
  refine bodyPost_ret (v := .tuple #[.slice a1 R.length c1, .int .i64 k]) (by simp [results, Try.results29, go_sem]) rfl ?_
  exact ⟨R, a1, c1, k, rfl, ⟨HE.out.1, HS.out⟩, ⟨hk0, hk1⟩, HE.out.2⟩
end Go.Proofs.Ytfkgkdjnlpihaaa
