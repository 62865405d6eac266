/-
  Texts in one: Mbj Mbz Mba Ear Mbr Mbb.
-/
import Derived.Test.YtidnfdobljihoaaGreatJaf
import Derived.Test.YtidnfdobljihoaaGreatJaa
import Derived.Deep.LoopGhost
namespace Go.Proofs.YtidnfdobljihoaaGreat
set_option linter.unusedVariables false
set_option linter.unusedSimpArgs false
open Go.RowKit Go.Sort
theorem RV.below {X Y : World} {g q : Nat} {A : Ra} {r : Rw} (h : RV X g q A r) (hb : Below X.heap.size X Y) : RV Y g q A r := by
 obtain ⟨⟨⟨c0,c1,c2,c3⟩,c4,c5,c6,c7⟩,hr⟩ := h
 have t : ∀ {x v},X.cell? x = some v → Y.cell? x = some v := fun h => (hb.cell (World.block_lt_of_cell? _ _ h)).trans h
 exact ⟨⟨⟨t c0,t c1,t c2,t c3⟩,t c4,t c5,t c6,t c7⟩,hr.below hb⟩
theorem vec_of_ow {w : World} {a : Option Addr} {c : Nat} {Z : List Int} {f : Fp} (h : Cel.ow w (icl Z) (.slice a Z.length c) f) (hf : Fits Z) : Vec w a Z.length Z := by
 obtain ⟨a',c',e,hv,_⟩ := vw_icl (Cel.ow_vw h) hf
 cases e
 exact hv
theorem lN_fits {L : List Nat} {n : Nat} (h : ∀ k ∈ L,k < n) (hn : n ≤ 1000000) : Fits (lN L) := fun x hx => by
 obtain ⟨k,hk,rfl⟩ := List.mem_map.1 hx
 have := h k hk
 omega
theorem getD_memN {L : List Nat} {k : Nat} (h : k < L.length) : L.getD k 0 ∈ L := by
 simp [List.getD,h]
set_option maxRecDepth 100000 in
set_option maxHeartbeats 6400000 in
theorem lrnSp_any (B o : Nat) (m : Mb) (i n : Nat) (fp : Fp) (w : World) (h : Plc w B o (mb5 m) fp) (ok : OkM m i n) :
  Calls Tryz.prog 92 #[.pointer (some ⟨B,o,none⟩)] w fun e w' => e = .returned (.tuple #[]) ∧ Mk w w' B o { m with rows := m.rows.set i (learn m.rows i (rowN m.rows i) (leftN n (rowN m.rows i).sus)) } fp := by
 have hmix := mixed17
 have hil : i < m.rows.length := by rw [ok.len];exact ok.lt
 obtain ⟨g,off,c,M0⟩ := Mw.start h (by omega)
 have HC2 : Hid (w.cell? ⟨B,o + 2,none⟩ = some (.slice (some ⟨g,off,none⟩) m.rows.length c)) := M0.rws
 have hflt := h.flt
 have hBlt := h.lt
 obtain ⟨c0,c1,c4⟩ := M0.id'
 have c2 := M0.rws
 rw [ok.hid] at c0
 have i0 : (0 : Int) ≤ (i : Int) := by omega
 have i1 : (i : Int) < (m.rows.length : Int) := by omega
 have p0 : ∀ q : Bk w,q.w.cell? ⟨B,o,none⟩ = _ := fun q => (q.h.cell (World.block_lt_of_cell? _ _ c0)).trans c0
 have p2 : ∀ q : Bk w,q.w.cell? ⟨B,o + 2,none⟩ = _ := fun q => (q.h.cell (World.block_lt_of_cell? _ _ c2)).trans c2
 have HM0 : Hid (Mw w w B o m fp g off c) := M0
 have HPl : Hid (Plc w B o (mb5 m) fp) := h
 have hr := ok.ok i ok.lt
 have hn5 := hr.n5
 clear c0 c1 c4 c2 M0 h
 go_enter Tryz.func92,Tryz.ntmps92
 go_wp2_with fail
 refine wp_region_bk (by kernel_rfl) (by kernel_rfl) ?_
 repeat (go_big_quiet_step ((first | rfl)))
 refine wpQuiet_nil ?_
 intro wE hw'
 obtain ⟨⟨w11,hb11⟩,hw''⟩ := hw'
 have hwe : wE = w11 := hw''
 clear hw''
 subst hwe
 clear p0 p2
 have HM1 : Hid (Mw w wE B o m fp g off c) := HM0.out.step hb11
 have hbs := hb11.size
 have HBw : Hid (Below w.heap.size w wE) := hb11
 clear hb11
 go_wp2_with fail
 refine (lftSp_any w B o m i n fp g off c wE HM1.out ok).mono ?_
 rintro e wl ⟨la,lc,rfl,fl,hl1,hl2,hl3⟩
 have hlt3 := Cel.ow_lt hl1
 have hbl : Below w.heap.size w wl := HBw.out.trans (hl3.mono HBw.out.size)
 have HML : Hid (Mw wl wl B o m fp g off c) := ⟨Bcm.refl (HPl.out.below hbl),(HM1.out.step hl3).rws⟩
 have HBk : Hid (∀ (Y : World) (m' : Mb),Mw wl Y B o m' fp g off c → m'.rows.length = m.rows.length → Mk w Y B o m' fp) := fun Y m' hY hl => ⟨hY.bcm.first hbl hBlt hflt,by rw [hY.rws,HC2.out,hl]⟩
 have HL1 : Hid (Cel.ow wl (icl (lN (leftN n (rowN m.rows i).sus))) (.slice la (lN (leftN n (rowN m.rows i).sus)).length lc) fl) := hl1
 have HFL : Hid (∀ b,fl b → ¬ fp b ∧ b ≠ B) := fun b hb => ⟨fun k => by have := hflt b k;have := hl2 b hb;omega,fun k => by have := hl2 b hb;omega⟩
 have HLn : Hid (∀ k ∈ leftN n (rowN m.rows i).sus,k < n) := fun k hk => (mem_leftN.1 hk).1
 have HLL : Hid ((leftN n (rowN m.rows i).sus).length ≤ n) := leftN_len _ _
 generalize hLe : leftN n (rowN m.rows i).sus = L at *
 have HLe : Hid (leftN n (rowN m.rows i).sus = L) := hLe
 clear hLe
 rw [lN_len] at HL1 ⊢
 clear hl1 hl2 hl3 hlt3 hbl HBw HM0 HM1 hbs
 go_wp2_with fail
 go_loopw [4] (fun v wr => ∃ (k : Nat) (ow : Rw),k ≤ L.length ∧ v = .int .i64 (k : Int) ∧ Hid (ow = learn m.rows i (rowN m.rows i) (L.take k)) ∧ Mw wl wr B o { m with rows := m.rows.set i ow } fp g off c) (fun v _ => L.length - (intOf v).toNat)
 case atStart =>
  refine ⟨0,rowN m.rows i,Nat.zero_le _,rfl,rfl, ?_⟩
  have e : ({ m with rows := m.rows.set i (rowN m.rows i) } : Mb) = m := by
   have := set_sameA (rowN_at hil)
   rw [this]
  rw [e]
  exact HML.out
 case round =>
  obtain ⟨k,ow,hk,rfl,hOw,M⟩ := hrel
  have hLL := HLL.out
  by_cases hlt : k < L.length
  ·have hokw : OkR ow n := by rw [hOw.out];exact okR_learn ok.ok hr (fun x hx => HLn.out x (List.mem_of_mem_take hx))
   have hfm : FitM { m with rows := m.rows.set i ow } := fitM_set ok hokw
   have hJn : L.getD k 0 < n := HLn.out _ (getD_memN hlt)
   have hJl : L.getD k 0 < ({ m with rows := m.rows.set i ow } : Mb).rows.length := by rw [set_own,ok.len];exact hJn
   have hLc := M.cel HL1.out HFL.out
   have hLv := vec_of_ow (by rw [lN_len];exact hLc) (lN_fits HLn.out (by omega))
   rcases hLv.2.2 with hz | ⟨lb,lo,rfl,hlc⟩
   ·rw [lN_len] at hz;omega
   have hlk := hlc k (by rw [lN_len];exact hlt)
   rw [el_lN hlt] at hlk
   have HTk : Hid (learn m.rows i (rowN m.rows i) (L.take (k + 1)) = learn1 i ow (L.getD k 0) (rowN m.rows (L.getD k 0))) := by rw [Hid,learn_take hlt,← hOw.out]
   have HRk : Hid (L.getD k 0 ≠ i → rowN (m.rows.set i ow) (L.getD k 0) = rowN m.rows (L.getD k 0)) := fun hne => by rw [rowN_set hil,if_neg hne]
   generalize L.getD k 0 = J at *
   have k1 : (k : Int) < (L.length : Int) := by omega
   have k0 : (0 : Int) ≤ (k : Int) := by omega
   have J0 : (0 : Int) ≤ (J : Int) := by omega
   have J1 : (J : Int) < (m.rows.length : Int) := by rw [ok.len];omega
   obtain ⟨AJ,hC8,hRS⟩ := M.row hfm hJl
   simp only at hC8 hRS
   have HRV : Hid (RV wr g (off + J * 8) AJ (rowN (m.rows.set i ow) J)) := ⟨hC8,hRS⟩
   have HM : Hid (Mw wl wr B o { m with rows := m.rows.set i ow } fp g off c) := M
   have crw := M.rws
   rw [set_own] at crw
   have KS : ∀ X,Below wr.heap.size wr X → (X.cell? ⟨B,o + 2,none⟩ = some (.slice (some ⟨g,off,none⟩) m.rows.length c) ∧ X.cell? ⟨lb,lo + k,none⟩ = some (.int .i64 (J : Int)) ∧ X.cell? ⟨g,off + J * 8,none⟩ = some (.int .i64 (rowN (m.rows.set i ow) J).ver) ∧ X.cell? ⟨g,off + J * 8 + 1,none⟩ = some (.slice AJ.ta (rowN (m.rows.set i ow) J).txt.length AJ.tc) ∧ X.cell? ⟨g,off + J * 8 + 2,none⟩ = some (.slice AJ.ga (rowN (m.rows.set i ow) J).got.length AJ.gc) ∧ X.cell? ⟨g,off + J * 8 + 3,none⟩ = some (.slice AJ.sa (rowN (m.rows.set i ow) J).sus.length AJ.sc) ∧ X.cell? ⟨g,off + J * 8 + 4,none⟩ = some (.bool (rowN (m.rows.set i ow) J).wed) ∧ X.cell? ⟨g,off + J * 8 + 5,none⟩ = some (.bool (rowN (m.rows.set i ow) J).rdy) ∧ X.cell? ⟨g,off + J * 8 + 6,none⟩ = some (.int .i64 (rowN (m.rows.set i ow) J).by_) ∧ X.cell? ⟨g,off + J * 8 + 7,none⟩ = some (.slice AJ.ma (rowN (m.rows.set i ow) J).trm.length AJ.mc)) := fun X hX => by
    obtain ⟨⟨d0,d1,d2,d3⟩,d4,d5,d6,d7⟩ := hC8
    have t : ∀ {x v},wr.cell? x = some v → X.cell? x = some v := fun h => (hX.cell (World.block_lt_of_cell? _ _ h)).trans h
    exact ⟨t crw,t hlk,t d0,t d1,t d2,t d3,t d4,t d5,t d6,t d7⟩
   have hbd : Below wr.heap.size wr wr.drew := (Same.drewN wr 1).below
   have HLk : Hid (wr.cell? ⟨lb,lo + k,none⟩ = some (.int .i64 (J : Int))) := hlk
   generalize hrr : rowN (m.rows.set i ow) J = r at *
   have hRR : Hid (rowN (m.rows.set i ow) J = r) := hrr
   have hokr : OkR r n := by
    rw [← hrr,rowN_set hil]
    split
    ·exact hokw
    ·exact ok.ok J hJn
   clear hrr M hC8 hRS hlc hLc hLv crw hlk
   go_wp2_with fail
   refine gt_begin (S := fun X : World => X.cell? ⟨B,o + 2,none⟩ = some (.slice (some ⟨g,off,none⟩) m.rows.length c) ∧ X.cell? ⟨lb,lo + k,none⟩ = some (.int .i64 (J : Int)) ∧ X.cell? ⟨g,off + J * 8,none⟩ = some (.int .i64 r.ver) ∧ X.cell? ⟨g,off + J * 8 + 1,none⟩ = some (.slice AJ.ta r.txt.length AJ.tc) ∧ X.cell? ⟨g,off + J * 8 + 2,none⟩ = some (.slice AJ.ga r.got.length AJ.gc) ∧ X.cell? ⟨g,off + J * 8 + 3,none⟩ = some (.slice AJ.sa r.sus.length AJ.sc) ∧ X.cell? ⟨g,off + J * 8 + 4,none⟩ = some (.bool r.wed) ∧ X.cell? ⟨g,off + J * 8 + 5,none⟩ = some (.bool r.rdy) ∧ X.cell? ⟨g,off + J * 8 + 6,none⟩ = some (.int .i64 r.by_) ∧ X.cell? ⟨g,off + J * 8 + 7,none⟩ = some (.slice AJ.ma r.trm.length AJ.mc)) 11 hmix (by kernel_rfl) ?_
   have hHeld : (fun X : World => X.cell? ⟨B,o + 2,none⟩ = some (.slice (some ⟨g,off,none⟩) m.rows.length c) ∧ X.cell? ⟨lb,lo + k,none⟩ = some (.int .i64 (J : Int)) ∧ X.cell? ⟨g,off + J * 8,none⟩ = some (.int .i64 r.ver) ∧ X.cell? ⟨g,off + J * 8 + 1,none⟩ = some (.slice AJ.ta r.txt.length AJ.tc) ∧ X.cell? ⟨g,off + J * 8 + 2,none⟩ = some (.slice AJ.ga r.got.length AJ.gc) ∧ X.cell? ⟨g,off + J * 8 + 3,none⟩ = some (.slice AJ.sa r.sus.length AJ.sc) ∧ X.cell? ⟨g,off + J * 8 + 4,none⟩ = some (.bool r.wed) ∧ X.cell? ⟨g,off + J * 8 + 5,none⟩ = some (.bool r.rdy) ∧ X.cell? ⟨g,off + J * 8 + 6,none⟩ = some (.int .i64 r.by_) ∧ X.cell? ⟨g,off + J * 8 + 7,none⟩ = some (.slice AJ.ma r.trm.length AJ.mc)) wr.drew := (KS _ hbd)
   refine gt_take (i := 0) (v := ?_) rfl (by kernel_rfl) (by kernel_rfl) (by kernel_rfl) (by kernel_rfl) (fun _ _ _ h => h) (Or.inl ⟨by rfl, ?_⟩) hHeld ?_
   rotate_left
   ·(intro X hSX;(try dsimp only at hSX);obtain ⟨g0,g1,g2,g3,g4,g5,g6,g7,g8,g9⟩ := hSX;go_simp;try with_reducible rfl)
   try simp only [Act.put,List.setIfInBounds_toArray,List.set_cons_zero,List.set_cons_succ]
   refine gt_take (i := 1) (v := ?_) rfl (by kernel_rfl) (by kernel_rfl) (by kernel_rfl) (by kernel_rfl) (fun _ _ _ h => h) (Or.inl ⟨by rfl, ?_⟩) hHeld ?_
   rotate_left
   ·(intro X hSX;(try dsimp only at hSX);obtain ⟨g0,g1,g2,g3,g4,g5,g6,g7,g8,g9⟩ := hSX;go_simp;try with_reducible rfl)
   try simp only [Act.put,List.setIfInBounds_toArray,List.set_cons_zero,List.set_cons_succ]
   refine gt_take (i := 2) (v := ?_) rfl (by kernel_rfl) (by kernel_rfl) (by kernel_rfl) (by kernel_rfl) (fun _ _ _ h => h) (Or.inl ⟨by rfl, ?_⟩) hHeld ?_
   rotate_left
   ·(intro X hSX;(try dsimp only at hSX);obtain ⟨g0,g1,g2,g3,g4,g5,g6,g7,g8,g9⟩ := hSX;go_simp;try with_reducible rfl)
   try simp only [Act.put,List.setIfInBounds_toArray,List.set_cons_zero,List.set_cons_succ]
   refine gt_take (i := 3) (v := ?_) rfl (by kernel_rfl) (by kernel_rfl) (by kernel_rfl) (by kernel_rfl) (fun _ _ _ h => h) (Or.inl ⟨by rfl, ?_⟩) hHeld ?_
   rotate_left
   ·(intro X hSX;(try dsimp only at hSX);obtain ⟨g0,g1,g2,g3,g4,g5,g6,g7,g8,g9⟩ := hSX;go_simp;try with_reducible rfl)
   try simp only [Act.put,List.setIfInBounds_toArray,List.set_cons_zero,List.set_cons_succ]
   refine gt_take (i := 4) (v := ?_) rfl (by kernel_rfl) (by kernel_rfl) (by kernel_rfl) (by kernel_rfl) (fun _ _ _ h => h) (Or.inl ⟨by rfl, ?_⟩) hHeld ?_
   rotate_left
   ·(intro X hSX;(try dsimp only at hSX);obtain ⟨g0,g1,g2,g3,g4,g5,g6,g7,g8,g9⟩ := hSX;go_simp;try with_reducible rfl)
   try simp only [Act.put,List.setIfInBounds_toArray,List.set_cons_zero,List.set_cons_succ]
   refine gt_take (i := 5) (v := ?_) rfl (by kernel_rfl) (by kernel_rfl) (by kernel_rfl) (by kernel_rfl) (fun _ _ _ h => h) (Or.inl ⟨by rfl, ?_⟩) hHeld ?_
   rotate_left
   ·(intro X hSX;(try dsimp only at hSX);obtain ⟨g0,g1,g2,g3,g4,g5,g6,g7,g8,g9⟩ := hSX;go_simp;try with_reducible rfl)
   try simp only [Act.put,List.setIfInBounds_toArray,List.set_cons_zero,List.set_cons_succ]
   refine gt_take (i := 6) (v := ?_) rfl (by kernel_rfl) (by kernel_rfl) (by kernel_rfl) (by kernel_rfl) (fun _ _ _ h => h) (Or.inl ⟨by rfl, ?_⟩) hHeld ?_
   rotate_left
   ·(intro X hSX;(try dsimp only at hSX);obtain ⟨g0,g1,g2,g3,g4,g5,g6,g7,g8,g9⟩ := hSX;go_simp;try with_reducible rfl)
   try simp only [Act.put,List.setIfInBounds_toArray,List.set_cons_zero,List.set_cons_succ]
   refine gt_take (i := 7) (v := ?_) rfl (by kernel_rfl) (by kernel_rfl) (by kernel_rfl) (by kernel_rfl) (fun _ _ _ h => h) (Or.inl ⟨by rfl, ?_⟩) hHeld ?_
   rotate_left
   ·(intro X hSX;(try dsimp only at hSX);obtain ⟨g0,g1,g2,g3,g4,g5,g6,g7,g8,g9⟩ := hSX;go_simp;try with_reducible rfl)
   try simp only [Act.put,List.setIfInBounds_toArray,List.set_cons_zero,List.set_cons_succ]
   refine gt_take (i := 8) (v := ?_) rfl (by kernel_rfl) (by kernel_rfl) (by kernel_rfl) (by kernel_rfl) (fun _ _ _ h => h) (Or.inl ⟨by rfl, ?_⟩) hHeld ?_
   rotate_left
   ·(intro X hSX;(try dsimp only at hSX);obtain ⟨g0,g1,g2,g3,g4,g5,g6,g7,g8,g9⟩ := hSX;go_simp;try with_reducible rfl)
   try simp only [Act.put,List.setIfInBounds_toArray,List.set_cons_zero,List.set_cons_succ]
   refine gt_take (i := 9) (v := ?_) rfl (by kernel_rfl) (by kernel_rfl) (by kernel_rfl) (by kernel_rfl) (fun _ _ _ h => h) (Or.inl ⟨by rfl, ?_⟩) hHeld ?_
   rotate_left
   ·(intro X hSX;(try dsimp only at hSX);obtain ⟨g0,g1,g2,g3,g4,g5,g6,g7,g8,g9⟩ := hSX;go_simp;try with_reducible rfl)
   try simp only [Act.put,List.setIfInBounds_toArray,List.set_cons_zero,List.set_cons_succ]
   refine gt_one (i := 10) rfl (by kernel_rfl) (by kernel_rfl) (fun K hK => ?_)
   go_simp
   have hb2 : Below wr.heap.size wr (wr.drew.alloc (.cells #[.int .i64 0,.slice none 0 0,.slice none 0 0,.slice none 0 0,.bool false,.bool false,.int .i64 0,.slice none 0 0] 37)) := hbd.trans ((oneA16 wr.drew _).mono hbd.size)
   refine hK.out _ _ (KS _ hb2) (fun hHeldN => ?_)
   clear hK hHeld
   have hHeld := hHeldN
   try simp only [Act.put,List.setIfInBounds_toArray,List.set_cons_zero,List.set_cons_succ]
   refine gt_last rfl (by kernel_rfl) (by kernel_rfl) (fun K hK => ?_)
   go_simp
   refine hK.out _ _ ?_
   have hb5 : Below wr.heap.size wr (wr.alloc (.cells #[.int .i64 r.ver,.slice AJ.ta r.txt.length AJ.tc,.slice AJ.ga r.got.length AJ.gc,.slice AJ.sa r.sus.length AJ.sc,.bool r.wed,.bool r.rdy,.int .i64 r.by_,.slice AJ.ma r.trm.length AJ.mc] 37)).drew := (oneA16 wr _).trans ((Same.drewN _ 1).below.mono (oneA16 wr _).size)
   have hx5 : Bx (wr.alloc (.cells #[.int .i64 r.ver,.slice AJ.ta r.txt.length AJ.tc,.slice AJ.ga r.got.length AJ.gc,.slice AJ.sa r.sus.length AJ.sc,.bool r.wed,.bool r.rdy,.int .i64 r.by_,.slice AJ.ma r.trm.length AJ.mc] 37)).drew wr.heap.size 37 #[.int .i64 r.ver,.slice AJ.ta r.txt.length AJ.tc,.slice AJ.ga r.got.length AJ.gc,.slice AJ.sa r.sus.length AJ.sc,.bool r.wed,.bool r.rdy,.int .i64 r.by_,.slice AJ.ma r.trm.length AJ.mc] := Bx.new wr _ _
   generalize (wr.alloc (.cells #[.int .i64 r.ver,.slice AJ.ta r.txt.length AJ.tc,.slice AJ.ga r.got.length AJ.gc,.slice AJ.sa r.sus.length AJ.sc,.bool r.wed,.bool r.rdy,.int .i64 r.by_,.slice AJ.ma r.trm.length AJ.mc] 37)).drew = W5 at *
   clear hHeld KS hbd hb2 hK
   have HX5 : Hid (Bx W5 wr.heap.size 37 #[.int .i64 r.ver,.slice AJ.ta r.txt.length AJ.tc,.slice AJ.ga r.got.length AJ.gc,.slice AJ.sa r.sus.length AJ.sc,.bool r.wed,.bool r.rdy,.int .i64 r.by_,.slice AJ.ma r.trm.length AJ.mc]) := hx5
   have HB5 : Hid (Below wr.heap.size wr W5) := hb5
   obtain ⟨⟨x0,x1,x2,x3⟩,x4,x5,x6,x7⟩ := Bx.r8 hx5
   have M5 := HM.out.step hb5
   obtain ⟨c0,c1,c4⟩ := M5.id'
   simp only at c0
   rw [ok.hid] at c0
   have T : ∀ {x v},W5.cell? x = some v → ∀ q : Bk W5,q.w.cell? x = some v := fun h q => (q.h.cell (World.block_lt_of_cell? _ _ h)).trans h
   have p0 := T c0
   have pl := T ((hb5.cell (World.block_lt_of_cell? _ _ HLk.out)).trans HLk.out)
   have px3 := T x3
   have px4 := T x4
   clear x0 x1 x2 x3 x4 x5 x6 x7 c0 c1 c4 M5 hx5 hb5 T
   by_cases hJi : J = i
   ·have e1 : ((J : Int) == (i : Int)) = true := by simp [hJi]
    have HT : Hid (ow = learn m.rows i (rowN m.rows i) (L.take (k + 1))) := by rw [Hid,HTk.out,learn1,if_pos (.inl hJi)]
    clear hJi
    go_wp2_with fail
    refine wp_region_bk (by kernel_rfl) (by kernel_rfl) ?_
    repeat (go_big_quiet_step ((first | rfl)))
    refine wpQuiet_nil ?_
    intro wE hw'
    obtain ⟨⟨w11,hb11⟩,hw''⟩ := hw'
    have hwe : wE = w11 := hw''
    clear hw''
    subst hwe
    have HMe : Hid (Mw wl wE B o { m with rows := m.rows.set i ow } fp g off c) := (HM.out.step HB5.out).step hb11
    clear p0 pl px3 px4 hb11
    go_wp2
    go_roundw
    case rel => exact ⟨k + 1,ow,by omega,by go_num,HT,HMe.out⟩
    case measure => simp [intOf];omega
   have e1 : ((J : Int) == (i : Int)) = false := by simp;omega
   have hrJ := HRk.out hJi
   by_cases hws : r.wed = false ∧ r.sus = []
   ·have e2 : r.wed = false := hws.1
    have e3 : (((r.sus.length : Nat) : Int) == 0) = true := by rw [hws.2];rfl
    have HT : Hid (ow = learn m.rows i (rowN m.rows i) (L.take (k + 1))) := by rw [Hid,HTk.out,learn1,if_pos (.inr (by rw [← hrJ];exact hws))]
    rw [e2] at px4
    clear hJi hws e2 hrJ
    go_wp2_with fail
    refine wp_region_bk (by kernel_rfl) (by kernel_rfl) ?_
    repeat (go_big_quiet_step ((first | rfl)))
    refine wpQuiet_nil ?_
    intro wE hw'
    obtain ⟨⟨w11,hb11⟩,hw''⟩ := hw'
    have hwe : wE = w11 := hw''
    clear hw''
    subst hwe
    have HMe : Hid (Mw wl wE B o { m with rows := m.rows.set i ow } fp g off c) := (HM.out.step HB5.out).step hb11
    clear p0 pl px3 px4 hb11
    go_wp2
    go_roundw
    case rel => exact ⟨k + 1,ow,by omega,by go_num,HT,HMe.out⟩
    case measure => simp [intOf];omega
   have HT : Hid ({ ow with wed := true,sus := learnS i ow.sus r.sus } = learn m.rows i (rowN m.rows i) (L.take (k + 1))) := by rw [Hid,HTk.out,learn1,if_neg (by rw [← hrJ];rintro (h | h);exact hJi h;exact hws h),← hrJ]
   have e3 : r.wed = false → (((r.sus.length : Nat) : Int) == 0) = false := fun hw => by
    have : r.sus ≠ [] := fun h => hws ⟨hw,h⟩
    have : r.sus.length ≠ 0 := fun h => this (List.eq_nil_of_length_eq_zero h)
    simp
    omega
   have HJi : Hid (J ≠ i) := hJi
   have HrJ : Hid (rowN (m.rows.set i ow) J = r) := hRR.out
   clear hJi hrJ hws
   have key : ∀ wE,Below W5.heap.size W5 wE → ∃ fp5,(∀ b,fp5 b → b < wr.heap.size) ∧ B < wr.heap.size ∧ Mw wE wE B o { m with rows := m.rows.set i ow } fp5 g off c ∧ Bx wE wr.heap.size 37 #[.int .i64 r.ver,.slice AJ.ta r.txt.length AJ.tc,.slice AJ.ga r.got.length AJ.gc,.slice AJ.sa r.sus.length AJ.sc,.bool r.wed,.bool r.rdy,.int .i64 r.by_,.slice AJ.ma r.trm.length AJ.mc] ∧ RV wE g (off + J * 8) AJ r ∧ ∀ (Y : World) (m' : Mb),Mw wE Y B o m' fp5 g off c → Mw wl Y B o m' fp g off c := fun wE hbE => by
    have hbb := HB5.out.trans (hbE.mono HB5.out.size)
    obtain ⟨fp5,f1,f2,_,f3,f4⟩ := HM.out.sub hbb
    exact ⟨fp5,f1,f2,f3,HX5.out.below hbE,HRV.out.below hbb,f4⟩
   have HKey : Hid (∀ wE,Below W5.heap.size W5 wE → ∃ fp5,(∀ b,fp5 b → b < wr.heap.size) ∧ B < wr.heap.size ∧ Mw wE wE B o { m with rows := m.rows.set i ow } fp5 g off c ∧ Bx wE wr.heap.size 37 #[.int .i64 r.ver,.slice AJ.ta r.txt.length AJ.tc,.slice AJ.ga r.got.length AJ.gc,.slice AJ.sa r.sus.length AJ.sc,.bool r.wed,.bool r.rdy,.int .i64 r.by_,.slice AJ.ma r.trm.length AJ.mc] ∧ RV wE g (off + J * 8) AJ r ∧ ∀ (Y : World) (m' : Mb),Mw wE Y B o m' fp5 g off c → Mw wl Y B o m' fp g off c) := key
   clear key HX5 HB5
   generalize wr.heap.size = bb at *
   go_upto_region 6 with fail
   go_cut [53] from 34 to 53 (fun v X => v = .bool false ∧ Below W5.heap.size W5 X)
   case first =>
    rcases Bool.eq_false_or_eq_true r.wed with hwd | hwd
    ·rw [hwd] at px4
     clear hwd e3
     refine wp_region_bk (by kernel_rfl) (by kernel_rfl) ?_
     repeat (go_big_quiet_step ((first | rfl)))
     refine wpQuiet_nil ?_
     intro wE hw'
     obtain ⟨⟨w11,hb11⟩,hw''⟩ := hw'
     have hwe : wE = w11 := hw''
     clear hw''
     subst hwe
     try go_wp2_with fail
     go_meet
     case rel => exact ⟨rfl,hb11⟩
    ·have e4 := e3 hwd
     rw [hwd] at px4
     clear hwd e3
     refine wp_region_bk (by kernel_rfl) (by kernel_rfl) ?_
     repeat (go_big_quiet_step ((first | rfl)))
     refine wpQuiet_nil ?_
     intro wE hw'
     obtain ⟨⟨w11,hb11⟩,hw''⟩ := hw'
     have hwe : wE = w11 := hw''
     clear hw''
     subst hwe
     try go_wp2_with fail
     go_meet
     case rel => exact ⟨rfl,hb11⟩
   case rest =>
    obtain ⟨rfl,hBc⟩ := hcut
    obtain ⟨fp5,f1,f2,M5,hX5,hRV5,f4⟩ := HKey.out _ hBc
    clear p0 pl px3 px4 e3 HKey hBc
    generalize wc = V at *
    have hil0 : i < ({ m with rows := m.rows.set i ow } : Mb).rows.length := by rw [set_own];exact hil
    have hself : rowN (m.rows.set i ow) i = ow := rowN_self hil
    have hJl2 : J < (m.rows.set i ow).length := hJl
    obtain ⟨u,f,q1,q2,⟨rfl,qf⟩,_,q4⟩ := M5.atO hil0 hJl HJi.out (by simp only [HrJ.out];exact hokr.fit) (A' := AJ) (by simp only [HrJ.out];exact hRV5) (j := 4) (cl := .v (.bool ow.wed)) (by simp only [hself];rfl)
    obtain ⟨_,_,M6,hRV6⟩ := q4 V (.v (.bool true)) (.bool true) (fun _ => False) { ow with wed := true } (by simp only [hself];rfl) (Wrt.refl _ _) ⟨rfl,fun _ h => h⟩ (fun b hb => hb.elim)
    simp only [HrJ.out,List.set_set] at M6 hRV6
    have HM6 : Hid (Mw V (V.setCell ⟨g,off + i * 8 + 4,none⟩ (.bool true)) B o { m with rows := m.rows.set i { ow with wed := true } } fp5 g off c) := M6
    have HRV6 : Hid (RV (V.setCell ⟨g,off + i * 8 + 4,none⟩ (.bool true)) g (off + J * 8) AJ r) := hRV6
    have HX6 : Hid (Bx V bb 37 #[.int .i64 r.ver,.slice AJ.ta r.txt.length AJ.tc,.slice AJ.ga r.got.length AJ.gc,.slice AJ.sa r.sus.length AJ.sc,.bool r.wed,.bool r.rdy,.int .i64 r.by_,.slice AJ.ma r.trm.length AJ.mc]) := hX5
    have HF1 : Hid (∀ b,fp5 b → b < bb) := f1
    have HF2 : Hid (B < bb) := f2
    have HF4 : Hid (∀ (Y : World) (m' : Mb),Mw V Y B o m' fp5 g off c → Mw wl Y B o m' fp g off c) := f4
    clear M5 M6 hRV6 q4 qf f1 f2 f4 hX5 hRV5 hself
    go_wp2_with fail
    generalize V.setCell ⟨g,off + i * 8 + 4,none⟩ (.bool true) = V6 at *
    clear q1 q2
    have hsl := hokr.sl
    go_loopw [6] (fun v wi => ∃ (j : Nat) (s : List Int),j ≤ r.sus.length ∧ v = .int .i64 (j : Int) ∧ Hid (s = learnS i ow.sus (r.sus.take j)) ∧ Mw V wi B o { m with rows := m.rows.set i { ow with wed := true,sus := s } } fp5 g off c ∧ RV wi g (off + J * 8) AJ r) (fun v _ => r.sus.length - (intOf v).toNat)
    case atStart => exact ⟨0,ow.sus,Nat.zero_le _,rfl,rfl,HM6.out,HRV6.out⟩
    case round =>
     obtain ⟨j,s,hj,rfl,hs,M,hRV⟩ := hrel
     have hXi := M.bx HX6.out (fun k => by have := HF1.out _ k;omega) (by have := HF2.out;omega)
     obtain ⟨⟨x0,x1,x2,x3⟩,x4,x5,x6,x7⟩ := Bx.r8 hXi
     by_cases hlt2 : j < r.sus.length
     ·have j1 : (j : Int) < (r.sus.length : Int) := by omega
      have j0 : (0 : Int) ≤ (j : Int) := by omega
      rcases hRV.2.sus.2.2 with h0 | ⟨sb,so,hsa,hsc⟩
      ·omega
      have hsx := hsc j hlt2
      have HTj : Hid (learnS i ow.sus (r.sus.take (j + 1)) = if el r.sus j = (i : Int) then s else putL s (el r.sus j)) := by rw [Hid,learnS_take hlt2,← hs.out]
      have hxr := hokr.sus (el r.sus j) (el_mem hlt2)
      rw [hsa] at x3
      clear hsa
      have HM : Hid (Mw V wr B o { m with rows := m.rows.set i { ow with wed := true,sus := s } } fp5 g off c) := M
      have HRVj : Hid (RV wr g (off + J * 8) AJ r) := hRV
      obtain ⟨c0,c1,c4⟩ := M.id'
      simp only at c0
      rw [ok.hid] at c0
      have T : ∀ {x v},wr.cell? x = some v → ∀ q : Bk wr,q.w.cell? x = some v := fun h q => (q.h.cell (World.block_lt_of_cell? _ _ h)).trans h
      have p0 := T c0
      have p3 := T x3
      have px := T hsx
      generalize el r.sus j = x at *
      clear M hRV hXi x0 x1 x2 x4 x5 x6 x7 c0 c1 c4 hsc hsx T
      by_cases hxi : x = (i : Int)
      ·have e5 : (x != (i : Int)) = false := by simp [hxi]
       have HS2 : Hid (s = learnS i ow.sus (r.sus.take (j + 1))) := by rw [Hid,HTj.out,if_pos hxi]
       clear hxi
       go_wp2_with fail
       refine wp_region_bk (by kernel_rfl) (by kernel_rfl) ?_
       repeat (go_big_quiet_step ((first | rfl)))
       refine wpQuiet_nil ?_
       intro wE hw'
       obtain ⟨⟨w11,hb11⟩,hw''⟩ := hw'
       have hwe : wE = w11 := hw''
       clear hw''
       subst hwe
       have HMe : Hid (Mw V wE B o { m with rows := m.rows.set i { ow with wed := true,sus := s } } fp5 g off c) := HM.out.step hb11
       have HRe : Hid (RV wE g (off + J * 8) AJ r) := HRVj.out.below hb11
       clear p0 p3 px x3 hb11
       go_wp2
       go_roundw
       case rel => exact ⟨j + 1,s,by omega,by go_num,HS2,HMe.out,HRe.out⟩
       case measure => simp [intOf];omega
      ·have e5 : (x != (i : Int)) = true := by simpa using hxi
       have HS2 : Hid (putL s x = learnS i ow.sus (r.sus.take (j + 1))) := by rw [Hid,HTj.out,if_neg hxi]
       clear hxi
       go_wp2_with fail
       refine wp_region_bk (by kernel_rfl) (by kernel_rfl) ?_
       repeat (go_big_quiet_step ((first | rfl)))
       refine wpQuiet_nil ?_
       intro wE hw'
       obtain ⟨⟨w11,hb11⟩,hw''⟩ := hw'
       have hwe : wE = w11 := hw''
       clear hw''
       subst hwe
       have M7 := HM.out.step hb11
       have hRV7 := HRVj.out.below hb11
       have x37 := p3 ⟨wE,hb11⟩
       have hx7 := px ⟨wE,hb11⟩
       simp only at x37 hx7
       clear p0 p3 px x3 hb11
       have hil7 : i < ({ m with rows := m.rows.set i { ow with wed := true,sus := s } } : Mb).rows.length := by rw [set_own];exact hil
       have hJl7 : J < ({ m with rows := m.rows.set i { ow with wed := true,sus := s } } : Mb).rows.length := by rw [set_own,ok.len];exact hJn
       have hrow7 : rowN (m.rows.set i { ow with wed := true,sus := s }) J = r := by rw [← HrJ.out,rowN_set hil,rowN_set hil,if_neg HJi.out,if_neg HJi.out]
       have hself7 : rowN (m.rows.set i { ow with wed := true,sus := s }) i = { ow with wed := true,sus := s } := rowN_self hil
       have hok7 : OkR { ow with wed := true,sus := s } n := by rw [hs.out];exact okR_learnS hokw hokr j
       obtain ⟨u,f,hu,hfz,how,hlt7,hset⟩ := M7.atO hil7 hJl7 HJi.out (by simp only [hrow7];exact hokr.fit) (A' := AJ) (by simp only [hrow7];exact hRV7) (j := 3) (cl := icl s) (by simp only [hself7];rfl)
       have how' := how
       obtain ⟨ya,yc,G,rfl,_,_⟩ := ow_icl.1 how'
       have hslen : s.length ≤ 100000000 := by have : s.length ≤ n := hok7.sl;omega
       have hsfit : Fits s := hok7.fit.2.1
       have HS : Hid (∀ (X1 : World) (u' : Value) (f' : Fp) (s' : List Int),Wrt f wE X1 → Cel.ow X1 (icl s') u' f' → (∀ b,f' b → f b ∨ wE.heap.size ≤ b) → X1.cell? ⟨g,off + i * 8 + 3,none⟩ = some (.slice ya s.length yc) ∧ X1.frozen? ⟨g,off + i * 8 + 3,none⟩ = false ∧ Mw V (X1.setCell ⟨g,off + i * 8 + 3,none⟩ u') B o { m with rows := m.rows.set i { ow with wed := true,sus := s' } } fp5 g off c ∧ RV (X1.setCell ⟨g,off + i * 8 + 3,none⟩ u') g (off + J * 8) AJ r) := fun X1 u' f' s' h1 h2 h3 => by
        have := hset X1 (icl s') u' f' { ow with wed := true,sus := s' } (by simp only [hself7];rfl) h1 h2 h3
        simp only [hrow7,List.set_set] at this
        exact this
       have hbd : Below wE.heap.size wE wE.drew := (Same.drewN wE 1).below
       have hP := put_ow ya yc s x wE.drew f (Cel.ow_below how hbd) hsfit hslen
       have KS : ∀ X,Below wE.heap.size wE X → (X.cell? ⟨g,off + i * 8 + 3,none⟩ = some (.slice ya s.length yc) ∧ X.cell? ⟨bb,3,none⟩ = some (.slice (some ⟨sb,so,none⟩) r.sus.length AJ.sc) ∧ X.cell? ⟨sb,so + j,none⟩ = some (.int .i64 x)) := fun X hX => by
        have t : ∀ {x v},wE.cell? x = some v → X.cell? x = some v := fun h => (hX.cell (World.block_lt_of_cell? _ _ h)).trans h
        exact ⟨t hu,t x37,t hx7⟩
       clear M7 hRV7 hset how how' hlt7 hu x37 hx7 hok7 hself7 hrow7
       go_wp2_with fail
       refine gt_begin (S := fun X : World => X.cell? ⟨g,off + i * 8 + 3,none⟩ = some (.slice ya s.length yc) ∧ X.cell? ⟨bb,3,none⟩ = some (.slice (some ⟨sb,so,none⟩) r.sus.length AJ.sc) ∧ X.cell? ⟨sb,so + j,none⟩ = some (.int .i64 x)) 13 hmix (by kernel_rfl) ?_
       have hHeld : (fun X : World => X.cell? ⟨g,off + i * 8 + 3,none⟩ = some (.slice ya s.length yc) ∧ X.cell? ⟨bb,3,none⟩ = some (.slice (some ⟨sb,so,none⟩) r.sus.length AJ.sc) ∧ X.cell? ⟨sb,so + j,none⟩ = some (.int .i64 x)) wE.drew := (KS _ hbd)
       refine gt_take (i := 0) (v := ?_) rfl (by kernel_rfl) (by kernel_rfl) (by kernel_rfl) (by kernel_rfl) (fun _ _ _ h => h) (Or.inl ⟨by rfl, ?_⟩) hHeld ?_
       rotate_left
       ·(intro X hSX;(try dsimp only at hSX);obtain ⟨g0,g1,g2⟩ := hSX;go_simp;try with_reducible rfl)
       try simp only [Act.put,List.setIfInBounds_toArray,List.set_cons_zero,List.set_cons_succ]
       refine gt_take (i := 1) (v := ?_) rfl (by kernel_rfl) (by kernel_rfl) (by kernel_rfl) (by kernel_rfl) (fun _ _ _ h => h) (Or.inl ⟨by rfl, ?_⟩) hHeld ?_
       rotate_left
       ·(intro X hSX;(try dsimp only at hSX);obtain ⟨g0,g1,g2⟩ := hSX;go_simp;try with_reducible rfl)
       try simp only [Act.put,List.setIfInBounds_toArray,List.set_cons_zero,List.set_cons_succ]
       refine gt_take (i := 2) (v := ?_) rfl (by kernel_rfl) (by kernel_rfl) (by kernel_rfl) (by kernel_rfl) (fun _ _ _ h => h) (Or.inl ⟨by rfl, ?_⟩) hHeld ?_
       rotate_left
       ·(intro X hSX;(try dsimp only at hSX);obtain ⟨g0,g1,g2⟩ := hSX;go_simp;try with_reducible rfl)
       try simp only [Act.put,List.setIfInBounds_toArray,List.set_cons_zero,List.set_cons_succ]
       refine gt_take (i := 3) (v := ?_) rfl (by kernel_rfl) (by kernel_rfl) (by kernel_rfl) (by kernel_rfl) (fun _ _ _ h => h) (Or.inl ⟨by rfl, ?_⟩) hHeld ?_
       rotate_left
       ·(intro X hSX;(try dsimp only at hSX);obtain ⟨g0,g1,g2⟩ := hSX;go_simp;try with_reducible rfl)
       try simp only [Act.put,List.setIfInBounds_toArray,List.set_cons_zero,List.set_cons_succ]
       refine gt_take (i := 4) (v := ?_) rfl (by kernel_rfl) (by kernel_rfl) (by kernel_rfl) (by kernel_rfl) (fun _ _ _ h => h) (Or.inl ⟨by rfl, ?_⟩) hHeld ?_
       rotate_left
       ·(intro X hSX;(try dsimp only at hSX);obtain ⟨g0,g1,g2⟩ := hSX;go_simp;try with_reducible rfl)
       try simp only [Act.put,List.setIfInBounds_toArray,List.set_cons_zero,List.set_cons_succ]
       refine gt_take (i := 5) (v := ?_) rfl (by kernel_rfl) (by kernel_rfl) (by kernel_rfl) (by kernel_rfl) (fun _ _ _ h => h) (Or.inl ⟨by rfl, ?_⟩) hHeld ?_
       rotate_left
       ·(intro X hSX;(try dsimp only at hSX);obtain ⟨g0,g1,g2⟩ := hSX;go_simp;try with_reducible rfl)
       try simp only [Act.put,List.setIfInBounds_toArray,List.set_cons_zero,List.set_cons_succ]
       refine gt_take (i := 6) (v := ?_) rfl (by kernel_rfl) (by kernel_rfl) (by kernel_rfl) (by kernel_rfl) (fun _ _ _ h => h) (Or.inl ⟨by rfl, ?_⟩) hHeld ?_
       rotate_left
       ·(intro X hSX;(try dsimp only at hSX);obtain ⟨g0,g1,g2⟩ := hSX;go_simp;try with_reducible rfl)
       try simp only [Act.put,List.setIfInBounds_toArray,List.set_cons_zero,List.set_cons_succ]
       refine gt_take (i := 7) (v := ?_) rfl (by kernel_rfl) (by kernel_rfl) (by kernel_rfl) (by kernel_rfl) (fun _ _ _ h => h) (Or.inl ⟨by rfl, ?_⟩) hHeld ?_
       rotate_left
       ·(intro X hSX;(try dsimp only at hSX);obtain ⟨g0,g1,g2⟩ := hSX;go_simp;try with_reducible rfl)
       try simp only [Act.put,List.setIfInBounds_toArray,List.set_cons_zero,List.set_cons_succ]
       refine gt_take (i := 8) (v := ?_) rfl (by kernel_rfl) (by kernel_rfl) (by kernel_rfl) (by kernel_rfl) (fun _ _ _ h => h) (Or.inl ⟨by rfl, ?_⟩) hHeld ?_
       rotate_left
       ·(intro X hSX;(try dsimp only at hSX);obtain ⟨g0,g1,g2⟩ := hSX;go_simp;try with_reducible rfl)
       try simp only [Act.put,List.setIfInBounds_toArray,List.set_cons_zero,List.set_cons_succ]
       refine gt_take (i := 9) (v := ?_) rfl (by kernel_rfl) (by kernel_rfl) (by kernel_rfl) (by kernel_rfl) (fun _ _ _ h => h) (Or.inl ⟨by rfl, ?_⟩) hHeld ?_
       rotate_left
       ·(intro X hSX;(try dsimp only at hSX);obtain ⟨g0,g1,g2⟩ := hSX;go_simp;try with_reducible rfl)
       try simp only [Act.put,List.setIfInBounds_toArray,List.set_cons_zero,List.set_cons_succ]
       refine gt_one (i := 10) rfl (by kernel_rfl) (by kernel_rfl) (fun K hK => ?_)
       go_simp
       go_at_call 151
       refine hP.mono ?_
       rintro e w1 ⟨a1,e1',f1,rfl,k1',k2,k3⟩
       have hb1 : Below wE.heap.size wE w1 := hbd.trans (k3.mono hbd.size)
       obtain ⟨q1,q2,M8,hRV8⟩ := HS.out w1 _ f1 (putL s x) (Wrt.of_below hb1) k1' (fun b hb => k2 b hb)
       have HM8 : Hid (Mw V (w1.setCell ⟨g,off + i * 8 + 3,none⟩ (.slice a1 (putL s x).length e1')) B o { m with rows := m.rows.set i { ow with wed := true,sus := putL s x } } fp5 g off c) := M8
       have HRV8 : Hid (RV (w1.setCell ⟨g,off + i * 8 + 3,none⟩ (.slice a1 (putL s x).length e1')) g (off + J * 8) AJ r) := hRV8
       refine hK.out _ _ (KS _ hb1) (fun hHeldN => ?_)
       clear hK hHeld
       have hHeld := hHeldN
       try simp only [Act.put,List.setIfInBounds_toArray,List.set_cons_zero,List.set_cons_succ]
       refine gt_pure (i := 11) (v := ?_) rfl (by kernel_rfl) (by kernel_rfl) (by kernel_rfl) (fun _ _ _ h => h) (Or.inl ⟨by rfl, ?_⟩) ?_
       rotate_left
       ·(intro X;go_simp;try with_reducible rfl)
       try simp only [Act.put,List.setIfInBounds_toArray,List.set_cons_zero,List.set_cons_succ]
       refine gt_take (i := 12) (v := ?_) rfl (by kernel_rfl) (by kernel_rfl) (by kernel_rfl) (by kernel_rfl) (fun _ _ _ h => h) (Or.inl ⟨by rfl, ?_⟩) hHeld ?_
       rotate_left
       ·(intro X hSX;(try dsimp only at hSX);obtain ⟨g0,g1,g2⟩ := hSX;go_simp;try with_reducible rfl)
       try simp only [Act.put,List.setIfInBounds_toArray,List.set_cons_zero,List.set_cons_succ]
       refine gt_last rfl (by kernel_rfl) (by kernel_rfl) (fun K hK => ?_)
       go_simp
       refine hK.out _ _ ?_
       clear M8 hRV8 k1' k2 k3 hP HS hHeld KS hbd hb1 hK hfz
       generalize w1.setCell ⟨g,off + i * 8 + 3,none⟩ (.slice a1 (putL s x).length e1') = V9 at *
       clear q1 q2
       go_wp2
       go_roundw
       case rel => exact ⟨j + 1,putL s x,by omega,by go_num,HS2,HM8.out,HRV8.out⟩
       case measure => simp [intOf];omega
     ·have j1 : ¬ ((j : Int) < (r.sus.length : Int)) := by omega
      have HT2 : Hid ({ ow with wed := true,sus := s } = learn m.rows i (rowN m.rows i) (L.take (k + 1))) := by rw [Hid,← HT.out,hs.out,List.take_of_length_le (by omega)]
      have HMe : Hid (Mw wl wr B o { m with rows := m.rows.set i { ow with wed := true,sus := s } } fp g off c) := HF4.out _ _ M
      clear M hRV hXi x0 x1 x2 x4 x5 x6 x7
      go_wp2
      go_roundw
      case rel => exact ⟨k + 1,_,by omega,by go_num,HT2,HMe.out⟩
      case measure => simp [intOf];omega
  ·have k1 : ¬ ((k : Int) < (L.length : Int)) := by omega
   have HE : Hid (Mk w wr B o { m with rows := m.rows.set i ow } fp) := HBk.out _ _ M (set_own _)
   have HOW : Hid (ow = learn m.rows i (rowN m.rows i) L) := by rw [Hid,hOw.out,List.take_of_length_le (by omega)]
   clear M hOw
   go_wp2
   go_end0
   rw [HLe.out,← HOW.out]
   exact ⟨rfl,HE.out⟩
end Go.Proofs.YtidnfdobljihoaaGreat
namespace Go.Proofs.YtidnfdobljihoaaGreat
set_option linter.unusedVariables false
set_option linter.unusedSimpArgs false
open Go.RowKit Go.Sort
theorem sings_no {R : List Rw} {n q k : Nat} (hk : k < R.length) (h : ¬ (((q / n : Nat) : Int) < el (rowN R k).got (q % n))) : sings R n q = false := by
 rw [sings,List.all_eq_false]
 exact ⟨rowN R k,List.mem_of_getElem? (rowN_at hk),by simpa using h⟩
theorem sings_yes {R : List Rw} {n q : Nat} (h : ∀ k,k < R.length → ((q / n : Nat) : Int) < el (rowN R k).got (q % n)) : sings R n q = true := by
 rw [sings,List.all_eq_true]
 intro r hr
 obtain ⟨j,hj,rfl⟩ := mem_rowN hr
 simpa using h j hj
set_option maxRecDepth 100000 in
set_option maxHeartbeats 6400000 in
theorem sngSp_any (B o : Nat) (m : Mb) (i n : Nat) (fp : Fp) (w : World) (h : Plc w B o (mb5 m) fp) (ok : OkM m i n) :
  Calls Tryz.prog 93 #[.pointer (some ⟨B,o,none⟩)] w fun e w' => e = .returned (.tuple #[]) ∧ Mk w w' B o { m with sung := sing m.rows n (60 - m.sung.length) m.sung } fp := by
 have hmix := mixed17
 have hil : i < m.rows.length := by rw [ok.len];exact ok.lt
 obtain ⟨g,off,c,M0⟩ := Mw.start h (by omega)
 have HC9 : Hid (w.cell? ⟨B,o + 2,none⟩ = some (.slice (some ⟨g,off,none⟩) m.rows.length c)) := M0.rws
 have HM0 : Hid (Mw w w B o m fp g off c) := M0
 have hn5 := ok.n5
 have hsl := ok.sl
 clear M0 h
 go_enter Tryz.func93,Tryz.ntmps93
 go_wp2_with fail
 go_loopg [3] 61 (fun gk v wr => ∃ s : List Int,s.length ≤ 60 ∧ 60 - s.length < gk ∧ Fits s ∧ Hid (sing m.rows n (60 - m.sung.length) m.sung = sing m.rows n (60 - s.length) s) ∧ Mw w wr B o { m with sung := s } fp g off c)
 case atStart => exact ⟨m.sung,hsl,by omega,ok.fit.2,rfl,HM0.out⟩
 case round =>
  obtain ⟨s,hs60,hgk,hfs,hS,M⟩ := hrel
  have hfm : FitM { m with sung := s } := ⟨ok.fit.1,hfs⟩
  obtain ⟨sa,sc,⟨c0,c1,c2,c3,c4⟩,hms⟩ := M.box hfm
  simp only at c0 c1 c2 c3 c4
  rw [ok.hn] at c1
  have HM : Hid (Mw w wr B o { m with sung := s } fp g off c) := M
  by_cases hlt : s.length < 60
  ·have k1 : (s.length : Int) < 60 := by omega
   obtain ⟨q,hq⟩ : ∃ q : Nat,s.length = q := ⟨_,rfl⟩
   have HQ : Hid (s.length = q) := hq
   have hqm : q % n < n := Nat.mod_lt _ (by omega)
   have tm : ((s.length : Int)).tmod (n : Int) = ((q % n : Nat) : Int) := by rw [hq,Int.tmod_eq_emod_of_nonneg (by omega)];rfl
   have td : ((s.length : Int)).tdiv (n : Int) = ((q / n : Nat) : Int) := by rw [hq,Int.tdiv_eq_ediv_of_nonneg (by omega)];rfl
   clear hq
   obtain ⟨y,hy⟩ : ∃ y : Int,Hid (((q / n : Nat) : Int) = y) := ⟨_,rfl⟩
   obtain ⟨z,hz⟩ : ∃ z : Nat,Hid (q % n = z) := ⟨_,rfl⟩
   rw [hz.out] at tm hqm
   rw [hy.out] at td
   have hyb : 0 ≤ y ∧ y ≤ 60 := by
    have h1 := Nat.div_le_self q n
    have h2 := hy.out
    have h3 := HQ.out
    generalize q / n = yy at *
    omega
   have hwy : wrap64 y = y := by unfold wrap64;omega
   have hrl : m.rows.length ≤ 5 := by rw [ok.len];omega
   have n0 : ((n : Int) == 0) = false := by simp;omega
   have HC1 : Hid (wr.cell? ⟨B,o + 1,none⟩ = some (.int .i64 (n : Int))) := c1
   have HC2 : Hid (wr.cell? ⟨B,o + 2,none⟩ = some (.slice (some ⟨g,off,none⟩) m.rows.length c)) := c2
   clear M hms c0 c1 c2 c4
   go_wp2_with fail
   go_loopw [3] (fun v wi => ∃ k : Nat,k ≤ m.rows.length ∧ v = .int .i64 (k : Int) ∧ (∀ j,j < k → y < el (rowN m.rows j).got z) ∧ Below wr.heap.size wr wi) (fun v _ => m.rows.length - (intOf v).toNat)
   case atStart => exact ⟨0,Nat.zero_le _,rfl,fun j hj => by omega,Below.refl _ _⟩
   case round =>
    obtain ⟨k,hk,rfl,hall,hgr⟩ := hrel
    have M1 := HM.out.step hgr
    have HA : Hid (∀ j,j < k → y < el (rowN m.rows j).got z) := hall
    have c2 : wr.cell? ⟨B,o + 2,none⟩ = some (.slice (some ⟨g,off,none⟩) m.rows.length c) := M1.rws
    have c1 := M1.id'.2.1
    simp only at c1
    rw [ok.hn] at c1
    clear hall
    by_cases hlt2 : k < m.rows.length
    ·have j1 : (k : Int) < (m.rows.length : Int) := by omega
     have j0 : (0 : Int) ≤ (k : Int) := by omega
     obtain ⟨Ak,⟨⟨d0,d1,d2,d3⟩,d4,d5,d6,d7⟩,hrs⟩ := M1.row hfm (k := k) hlt2
     simp only at d2 hrs
     have hgl := (ok.ok k (by rw [← ok.len];exact hlt2)).gl
     rcases hrs.got.2.2 with h0 | ⟨gb,go,hga,hgc⟩
     ·omega
     have hge := hgc z (by omega)
     rw [hga] at d2
     have q0 : (0 : Int) ≤ (z : Int) := by omega
     have q1 : (z : Int) < ((rowN m.rows k).got.length : Int) := by omega
     have T : ∀ {x v},wr.cell? x = some v → ∀ q : Bk wr,q.w.cell? x = some v := fun h q => (q.h.cell (World.block_lt_of_cell? _ _ h)).trans h
     have p1 := T c1
     have p2 := T c2
     have pg := T d2
     have pe := T hge
     have HY : Hid (y < el (rowN m.rows k).got z → ∀ j,j < k + 1 → y < el (rowN m.rows j).got z) := fun h1 j hj => by
      rcases Nat.lt_succ_iff_lt_or_eq.1 hj with h | h
      ·exact HA.out j h
      ·rw [h];exact h1
     have HNo : Hid (¬ (y < el (rowN m.rows k).got z) → sings m.rows n q = false) := fun h => sings_no hlt2 (by rw [hy.out,hz.out];exact h)
     generalize el (rowN m.rows k).got z = x at *
     have HG : Hid (Below _ _ wr) := hgr
     clear hgc hge hga d0 d1 d2 d3 d4 d5 d6 d7 hrs c1 T M1 hgr
     by_cases hxy : y < x
     ·have e1 : decide (x ≤ y) = false := by simpa using hxy
      have e2 : ¬ (x ≤ y) := by omega
      have HN := HY.out hxy
      clear HY HNo hxy
      go_wp2_with fail
      refine wp_region_bk (by kernel_rfl) (by kernel_rfl) ?_
      repeat (go_big_quiet_step ((first | rfl)))
      refine wpQuiet_nil ?_
      intro wE hw'
      obtain ⟨⟨w11,hb11⟩,hw''⟩ := hw'
      have hwe : wE = w11 := hw''
      clear hw''
      subst hwe
      have HGE : Hid (Below _ _ wE) := HG.out.trans (hb11.mono HG.out.size)
      clear p1 p2 pg pe hb11 c2
      go_wp2
      go_roundw
      case rel => exact ⟨k + 1,by omega,by go_num,HN,HGE.out⟩
      case measure => simp [intOf];omega
     ·have e1 : decide (x ≤ y) = true := by simpa using hxy
      have e2 : x ≤ y := by omega
      have HN := HNo.out hxy
      have HFin : Hid (sing m.rows n (60 - m.sung.length) m.sung = s) := by
       rw [Hid,hS.out,HQ.out]
       obtain ⟨f,hf⟩ : ∃ f,60 - q = f + 1 := ⟨60 - q - 1,by have := HQ.out;omega⟩
       rw [hf,sing,HQ.out,HN]
       rfl
      clear HY HNo hxy HN
      go_wp2_with fail
      refine wp_region_bk (by kernel_rfl) (by kernel_rfl) ?_
      repeat (go_big_quiet_step ((first | rfl)))
      refine wpQuiet_nil ?_
      intro wE hw'
      obtain ⟨⟨w11,hb11⟩,hw''⟩ := hw'
      have hwe : wE = w11 := hw''
      clear hw''
      subst hwe
      have HME : Hid (Mw w wE B o { m with sung := s } fp g off c) := (HM.out.step HG.out).step hb11
      clear p1 p2 pg pe hb11 c2
      go_wp2
      (try simp only [Exit.inBlock,Exit.then])
      refine bodyPost_ret (results_none rfl _ _ _) rfl ?_
      rw [HFin.out]
      exact ⟨rfl,HME.out.mk' HC9.out rfl⟩
    ·have j1 : ¬ ((k : Int) < (m.rows.length : Int)) := by omega
     have HY : Hid (sings m.rows n q = true) := sings_yes (fun j hj => by rw [hy.out,hz.out];exact HA.out j (by omega))
     have HS2 : Hid (sing m.rows n (60 - m.sung.length) m.sung = sing m.rows n (60 - (s ++ [(s.length : Int)]).length) (s ++ [(s.length : Int)])) := by
      rw [Hid,hS.out,HQ.out,List.length_append,HQ.out]
      obtain ⟨f,hf⟩ : ∃ f,60 - q = f + 1 := ⟨60 - q - 1,by have := HQ.out;omega⟩
      rw [hf,sing,HQ.out,HY.out,if_pos rfl,show 60 - (q + [((q : Nat) : Int)].length) = f by simp;omega]
     have HFs : Hid (Fits (s ++ [(s.length : Int)])) := fun x hx => by
      rcases List.mem_append.1 hx with h | h
      ·exact hfs x h
      ·simp at h;omega
     have HSl : Hid ((s ++ [(s.length : Int)]).length = s.length + 1) := by rw [Hid,List.length_append];rfl
     obtain ⟨u,f,hu,hfz,how,hlt7,hset⟩ := M1.mat (j := 3) (cl := icl s) rfl (by omega)
     obtain ⟨ya,yc,rfl,hA⟩ := ow_int_app (s.length : Int) how (by omega)
     have HS : Hid (∀ (X1 : World) (c' : Cel) (u' : Value) (f' : Fp) (m' : Mb),(mb5 { m with sung := s }).set 3 c' = mb5 m' → m'.rows.length = m.rows.length → Wrt f wr X1 → Cel.ow X1 c' u' f' → (∀ b,f' b → f b ∨ wr.heap.size ≤ b) → X1.cell? ⟨B,o + 3,none⟩ = some (.slice ya s.length yc) ∧ X1.frozen? ⟨B,o + 3,none⟩ = false ∧ Mw w (X1.setCell ⟨B,o + 3,none⟩ u') B o m' fp g off c) := hset
     clear hset how hlt7 M1 hgr c1 tm td
     go_wp2_with (at_builtin;refine wpList_append_of (by rfl) _ _ _ _ (by rfl) _ _ (by rfl) (by rfl) hA ⟨rfl,rfl,rfl,rfl⟩ ?_;rintro v1 w1 ⟨a1,e1,f1,rfl,q1,q2,q3⟩;obtain ⟨z1,z2,M2⟩ := HS.out w1 _ _ f1 { m with sung := s ++ [(s.length : Int)] } rfl rfl q3 q1 q2;have HM2 : Hid (Mw w (w1.setCell ⟨B,o + 3,none⟩ (.slice a1 (s.length + 1) e1)) B o { m with sung := s ++ [(s.length : Int)] } fp g off c) := M2;clear M2 q1 q2 q3 hA HS)
     generalize w1.setCell ⟨B,o + 3,none⟩ (.slice a1 (s.length + 1) e1) = V9 at *
     clear z1 z2 hu hfz
     go_roundg (gk - 1)
     case measure => omega
     case rel => exact ⟨s ++ [(s.length : Int)],by rw [HSl.out];omega,by rw [HSl.out];omega,HFs.out,HS2,HM2.out⟩
  ·have k1 : ¬ ((s.length : Int) < 60) := by omega
   have HFin : Hid (sing m.rows n (60 - m.sung.length) m.sung = s) := by
    rw [Hid,hS.out,show 60 - s.length = 0 by omega]
    rfl
   clear M hms c0 c1 c2 c4
   go_wp2
   go_end0
   rw [HFin.out]
   exact ⟨rfl,HM.out.mk' HC9.out rfl⟩
end Go.Proofs.YtidnfdobljihoaaGreat
namespace Go.Proofs.YtidnfdobljihoaaGreat
set_option linter.unusedVariables false
set_option linter.unusedSimpArgs false
open Go.RowKit Go.Sort
theorem vec_copied {X : World} {x : Option Addr} {c : Nat} {xs : List Int} (hv : Vec X x xs.length xs) (hl : xs.length ≤ 1000000) :
  ∀ Z,Same Z (X.alloc (.cells #[] 2)) → ∃ v' w4,(Builtin.append_ #[25,25] 25 #[.slice (some ⟨X.heap.size,0,none⟩) 0 0,.slice x xs.length c]).run Tryz.prog Z = .ok v' w4 ∧ ∃ a' c' f',v' = .slice a' xs.length c' ∧ Cel.ow w4 (icl xs) v' f' ∧ (∀ b,f' b → X.heap.size ≤ b) ∧ Below X.heap.size X w4 := by
 intro Z hZ
 obtain ⟨i0,hi0,hz0,hz1,hz2⟩ := info_parts2n Tryz.info2n
 have hbZ : Below X.heap.size X Z := (oneA16 X _).trans (hZ.below.mono (oneA16 X _).size)
 obtain ⟨a6,c6,w6,fp6,hr6,ho6,hw6,hf6⟩ := ints_copied (P := Tryz.prog) (w := Z) 25 25 2 i0 Tryz.underlying25 hi0 hz0 hz1 hz2 (plainS X.heap.size 0) (x := x) (c := c) (hv.below hbZ (Nat.le_refl _)) hl
 exact ⟨_,w6,hr6,a6,c6,fp6,rfl,ho6,fun b hb => by have := hf6 b hb;have := hbZ.size;omega,hw6.below hbZ hbZ.size (fun b h => h.elim)⟩
set_option maxRecDepth 100000 in
set_option maxHeartbeats 6400000 in
theorem adpSp_any (B o : Nat) (m : Mb) (i n F : Nat) (fp : Fp) (w : World) (h : Plc w B o (mb5 m) fp) (ok : OkM m i n) (hF : F < n) (hFi : F ≠ i) :
  Calls Tryz.prog 96 #[.pointer (some ⟨B,o,none⟩),.int .i64 (F : Int)] w fun e w' => e = .returned (.tuple #[]) ∧ Mk w w' B o { m with rows := m.rows.set i (adopt m.rows i (rowN m.rows i) F) } fp := by
 have hmix := mixed17
 have hil : i < m.rows.length := by rw [ok.len];exact ok.lt
 have hFl : F < m.rows.length := by rw [ok.len];exact hF
 obtain ⟨g,off,c,M0⟩ := Mw.start h (by omega)
 obtain ⟨c0,c1,c4⟩ := M0.id'
 have c2 := M0.rws
 rw [ok.hid] at c0
 have i0 : (0 : Int) ≤ (i : Int) := by omega
 have i1 : (i : Int) < (m.rows.length : Int) := by omega
 have F0 : (0 : Int) ≤ (F : Int) := by omega
 have F1 : (F : Int) < (m.rows.length : Int) := by omega
 have p0 : ∀ q : Bk w,q.w.cell? ⟨B,o,none⟩ = _ := fun q => (q.h.cell (World.block_lt_of_cell? _ _ c0)).trans c0
 have p2 : ∀ q : Bk w,q.w.cell? ⟨B,o + 2,none⟩ = _ := fun q => (q.h.cell (World.block_lt_of_cell? _ _ c2)).trans c2
 have HC2 : Hid (w.cell? ⟨B,o + 2,none⟩ = some (.slice (some ⟨g,off,none⟩) m.rows.length c)) := M0.rws
 have HM0 : Hid (Mw w w B o m fp g off c) := M0
 have hr := ok.ok i ok.lt
 have hrF := ok.ok F hF
 have hn5 := hr.n5
 clear c0 c1 c4 c2 M0 h
 go_enter Tryz.func96,Tryz.ntmps96
 go_wp2_with fail
 refine wp_region_bk (by kernel_rfl) (by kernel_rfl) ?_
 repeat (go_big_quiet_step ((first | rfl)))
 refine wpQuiet_nil ?_
 intro wE hw'
 obtain ⟨⟨w11,hb11⟩,hw''⟩ := hw'
 have hwe : wE = w11 := hw''
 clear hw''
 subst hwe
 clear p0 p2
 have HM1 : Hid (Mw w wE B o m fp g off c) := HM0.out.step hb11
 have c2 := HM1.out.rws
 obtain ⟨AF,hC8,hRS⟩ := HM1.out.row ok.fit hFl
 have HRV1 : Hid (RV wE g (off + F * 8) AF (rowN m.rows F)) := ⟨hC8,hRS⟩
 obtain ⟨⟨d0,d1,d2,d3⟩,d4,d5,d6,d7⟩ := hC8
 clear hb11 HM0
 go_upto_region 1 with fail
 go_upto_region 2 with fail
 have hb5 := oneA16 wE (.cells #[.int .i64 (rowN m.rows F).ver,.slice AF.ta (rowN m.rows F).txt.length AF.tc,.slice AF.ga (rowN m.rows F).got.length AF.gc,.slice AF.sa (rowN m.rows F).sus.length AF.sc,.bool (rowN m.rows F).wed,.bool (rowN m.rows F).rdy,.int .i64 (rowN m.rows F).by_,.slice AF.ma (rowN m.rows F).trm.length AF.mc] 37)
 have hx5 := Bx.new wE 37 #[.int .i64 (rowN m.rows F).ver,.slice AF.ta (rowN m.rows F).txt.length AF.tc,.slice AF.ga (rowN m.rows F).got.length AF.gc,.slice AF.sa (rowN m.rows F).sus.length AF.sc,.bool (rowN m.rows F).wed,.bool (rowN m.rows F).rdy,.int .i64 (rowN m.rows F).by_,.slice AF.ma (rowN m.rows F).trm.length AF.mc]
 generalize wE.alloc (.cells #[.int .i64 (rowN m.rows F).ver,.slice AF.ta (rowN m.rows F).txt.length AF.tc,.slice AF.ga (rowN m.rows F).got.length AF.gc,.slice AF.sa (rowN m.rows F).sus.length AF.sc,.bool (rowN m.rows F).wed,.bool (rowN m.rows F).rdy,.int .i64 (rowN m.rows F).by_,.slice AF.ma (rowN m.rows F).trm.length AF.mc] 37) = W5 at *
 have M5 := HM1.out.step hb5
 have HM5x := trivial
 have HB5 : Hid (Below wE.heap.size wE W5) := hb5
 have HM5 : Hid (Mw w W5 B o m fp g off c) := M5
 have HRV5 : Hid (RV W5 g (off + F * 8) AF (rowN m.rows F)) := HRV1.out.below hb5
 have hrs5 := HRV5.out.2
 have HX5 : Hid (Bx W5 wE.heap.size 37 #[.int .i64 (rowN m.rows F).ver,.slice AF.ta (rowN m.rows F).txt.length AF.tc,.slice AF.ga (rowN m.rows F).got.length AF.gc,.slice AF.sa (rowN m.rows F).sus.length AF.sc,.bool (rowN m.rows F).wed,.bool (rowN m.rows F).rdy,.int .i64 (rowN m.rows F).by_,.slice AF.ma (rowN m.rows F).trm.length AF.mc]) := hx5
 obtain ⟨⟨x0,x1,x2,x3⟩,x4,x5,x6,x7⟩ := Bx.r8 hx5
 obtain ⟨e0,e1,e4⟩ := M5.id'
 rw [ok.hid] at e0
 obtain ⟨Ao,⟨⟨o0,o1,o2,o3⟩,o4,o5,o6,o7⟩,_⟩ := M5.row ok.fit hil
 have T : ∀ {x v},W5.cell? x = some v → ∀ q : Bk W5,q.w.cell? x = some v := fun h q => (q.h.cell (World.block_lt_of_cell? _ _ h)).trans h
 have p0 := T e0
 have px3 := T x3
 have px5 := T x5
 have px6 := T x6
 have po5 := T o5
 have po6 := T o6
 have C2 : ∀ q : Bk W5,Calls Tryz.prog 51 #[.slice AF.sa (rowN m.rows F).sus.length AF.sc,.int .i64 (i : Int)] q.w fun e w' => e = .returned (.bool (decide ((i : Int) ∈ (rowN m.rows F).sus))) ∧ Below q.w.heap.size q.w w' := fun q => (l1Has_any AF.sa (rowN m.rows F).sus.length AF.sc (i : Int) (rowN m.rows F).sus q.w (hrs5.sus.below q.h (Nat.le_refl _)) hrs5.ms).mono (fun e w' h => ⟨h.1,by rw [h.2];exact Below.refl _ _⟩)
 have HD : Hid (∀ b : Bool,b = decide ((rowN m.rows F).rdy = true ∧ (rowN m.rows F).by_ = (F : Int) ∧ (i : Int) ∉ (rowN m.rows F).sus ∧ ¬ ((rowN m.rows i).rdy = true ∧ (F : Int) ≤ (rowN m.rows i).by_)) → adopt m.rows i (rowN m.rows i) F = if b = true then { rowN m.rows i with rdy := true,by_ := (F : Int),trm := (rowN m.rows F).trm } else rowN m.rows i) := fun b hb => by
  rw [adopt,hb]
  simp only [decide_eq_true_eq]
 have HDD : Hid (decide ((rowN m.rows F).rdy = true ∧ (rowN m.rows F).by_ = (F : Int) ∧ (i : Int) ∉ (rowN m.rows F).sus ∧ ¬ ((rowN m.rows i).rdy = true ∧ (F : Int) ≤ (rowN m.rows i).by_)) = decide ((rowN m.rows F).rdy = true ∧ (rowN m.rows F).by_ = (F : Int) ∧ (i : Int) ∉ (rowN m.rows F).sus ∧ ¬ ((rowN m.rows i).rdy = true ∧ (F : Int) ≤ (rowN m.rows i).by_))) := rfl
 obtain ⟨d,hd⟩ : ∃ d : Bool,Hid (d = decide ((rowN m.rows F).rdy = true ∧ (rowN m.rows F).by_ = (F : Int) ∧ (i : Int) ∉ (rowN m.rows F).sus ∧ ¬ ((rowN m.rows i).rdy = true ∧ (F : Int) ≤ (rowN m.rows i).by_))) := ⟨_,rfl⟩
 have HA := HD.out d hd.out
 have HAd : Hid (adopt m.rows i (rowN m.rows i) F = if d = true then { rowN m.rows i with rdy := true,by_ := (F : Int),trm := (rowN m.rows F).trm } else rowN m.rows i) := HA
 clear HDD HD HA M5 hrs5 hx5 e0 e1 e4 x0 x1 x2 x3 x4 x5 x6 x7 o0 o1 o2 o3 o4 o5 o6 o7 T d0 d1 d2 d3 d4 d5 d6 d7 c2 hRS HRV1 HM5x hb5
 go_cut [53] from 22 to 53 (fun v X => v = .bool (!d) ∧ Below W5.heap.size W5 X)
 case first =>
  by_cases a1 : (rowN m.rows F).rdy = true
  rotate_left
  ·have a1' : (rowN m.rows F).rdy = false := by simpa using a1
   have hd0 : Hid (d = false) := by rw [Hid,hd.out];simp [a1']
   rw [a1'] at px5
   clear a1 a1'
   refine wp_region_bk (by kernel_rfl) (by kernel_rfl) ?_
   repeat (go_big_quiet_step ((first | (go_at_call 51;exact bk_call _ (C2 _)) | rfl)))
   refine wpQuiet_nil ?_
   intro wE hw'
   obtain ⟨⟨w11,hb11⟩,hw''⟩ := hw'
   have hwe : wE = w11 := hw''
   clear hw''
   subst hwe
   try go_wp2_with fail
   go_meet
   case rel => exact ⟨by rw [hd0.out];rfl,hb11⟩
  rw [a1] at px5
  by_cases a2 : (rowN m.rows F).by_ = (F : Int)
  rotate_left
  ·have hd0 : Hid (d = false) := by rw [Hid,hd.out];simp [a2]
   have g2 : ((rowN m.rows F).by_ != (F : Int)) = true := by simpa using a2
   clear a1 a2
   refine wp_region_bk (by kernel_rfl) (by kernel_rfl) ?_
   repeat (go_big_quiet_step ((first | (go_at_call 51;exact bk_call _ (C2 _)) | rfl)))
   refine wpQuiet_nil ?_
   intro wE hw'
   obtain ⟨⟨w11,hb11⟩,hw''⟩ := hw'
   have hwe : wE = w11 := hw''
   clear hw''
   subst hwe
   try go_wp2_with fail
   go_meet
   case rel => exact ⟨by rw [hd0.out];rfl,hb11⟩
  have g2 : ((rowN m.rows F).by_ != (F : Int)) = false := by simpa using a2
  by_cases a3 : (i : Int) ∈ (rowN m.rows F).sus
  ·have hd0 : Hid (d = false) := by rw [Hid,hd.out];simp [a3]
   rw [decide_eq_true a3] at C2
   clear a1 a2 a3
   refine wp_region_bk (by kernel_rfl) (by kernel_rfl) ?_
   repeat (go_big_quiet_step ((first | (go_at_call 51;exact bk_call _ (C2 _)) | rfl)))
   refine wpQuiet_nil ?_
   intro wE hw'
   obtain ⟨⟨w11,hb11⟩,hw''⟩ := hw'
   have hwe : wE = w11 := hw''
   clear hw''
   subst hwe
   try go_wp2_with fail
   go_meet
   case rel => exact ⟨by rw [hd0.out];rfl,hb11⟩
  rw [decide_eq_false a3] at C2
  by_cases a4 : (rowN m.rows i).rdy = true
  rotate_left
  ·have a4' : (rowN m.rows i).rdy = false := by simpa using a4
   have hd0 : Hid (d = true) := by rw [Hid,hd.out];simp [a1,a2,a3,a4']
   rw [a4'] at po5
   clear a1 a2 a3 a4 a4'
   refine wp_region_bk (by kernel_rfl) (by kernel_rfl) ?_
   repeat (go_big_quiet_step ((first | (go_at_call 51;exact bk_call _ (C2 _)) | rfl)))
   refine wpQuiet_nil ?_
   intro wE hw'
   obtain ⟨⟨w11,hb11⟩,hw''⟩ := hw'
   have hwe : wE = w11 := hw''
   clear hw''
   subst hwe
   try go_wp2_with fail
   go_meet
   case rel => exact ⟨by rw [hd0.out];rfl,hb11⟩
  rw [a4] at po5
  by_cases a5 : (F : Int) ≤ (rowN m.rows i).by_
  ·have hd0 : Hid (d = false) := by rw [Hid,hd.out];simp [a4,a5]
   have g5 : decide ((F : Int) ≤ (rowN m.rows i).by_) = true := by simpa using a5
   clear a1 a2 a3 a4
   refine wp_region_bk (by kernel_rfl) (by kernel_rfl) ?_
   repeat (go_big_quiet_step ((first | (go_at_call 51;exact bk_call _ (C2 _)) | rfl)))
   refine wpQuiet_nil ?_
   intro wE hw'
   obtain ⟨⟨w11,hb11⟩,hw''⟩ := hw'
   have hwe : wE = w11 := hw''
   clear hw''
   subst hwe
   try go_wp2_with fail
   go_meet
   case rel => exact ⟨by rw [hd0.out];rfl,hb11⟩
  have hd0 : Hid (d = true) := by rw [Hid,hd.out];simp [a1,a2,a3];omega
  have g5 : decide ((F : Int) ≤ (rowN m.rows i).by_) = false := by simpa using a5
  clear a1 a2 a3 a4
  refine wp_region_bk (by kernel_rfl) (by kernel_rfl) ?_
  repeat (go_big_quiet_step ((first | (go_at_call 51;exact bk_call _ (C2 _)) | rfl)))
  refine wpQuiet_nil ?_
  intro wE hw'
  obtain ⟨⟨w11,hb11⟩,hw''⟩ := hw'
  have hwe : wE = w11 := hw''
  clear hw''
  subst hwe
  try go_wp2_with fail
  go_meet
  case rel => exact ⟨by rw [hd0.out];rfl,hb11⟩
 case rest =>
  obtain ⟨rfl,hBc⟩ := hcut
  generalize wc = V at *
  have M6 := HM5.out.step hBc
  have HM6 : Hid (Mw w V B o m fp g off c) := M6
  have hRV6 := HRV5.out.below hBc
  have hX6 := HX5.out.below hBc
  clear p0 px3 px5 px6 po5 po6 C2
  cases d with
  | false =>
   have HE : Hid (adopt m.rows i (rowN m.rows i) F = rowN m.rows i) := by rw [Hid,HAd.out];rfl
   have HE2 : Hid (({ m with rows := m.rows.set i (rowN m.rows i) } : Mb) = m) := by rw [Hid,set_sameA (rowN_at hil)]
   clear M6 hRV6 hX6 hBc
   go_wp2
   (try simp only [Exit.inBlock,Exit.then])
   refine bodyPost_ret (results_none rfl _ _ _) rfl ?_
   rw [HE.out,HE2.out]
   exact ⟨rfl,HM6.out.mk' HC2.out rfl⟩
  | true =>
   have HE : Hid (adopt m.rows i (rowN m.rows i) F = { rowN m.rows i with rdy := true,by_ := (F : Int),trm := (rowN m.rows F).trm }) := by rw [Hid,HAd.out];rfl
   obtain ⟨fp5,f1,f2,_,M7,f4⟩ := HM1.out.sub (HB5.out.trans (hBc.mono HB5.out.size))
   have hself : rowN m.rows i = rowN m.rows i := rfl
   obtain ⟨_,_,q1,q2,⟨rfl,_⟩,_,q4⟩ := M7.atO hil hFl hFi hrF.fit hRV6 (j := 5) (cl := .v (.bool (rowN m.rows i).rdy)) rfl
   obtain ⟨_,_,M8,hRV8⟩ := q4 V (.v (.bool true)) (.bool true) (fun _ => False) { rowN m.rows i with rdy := true } rfl (Wrt.refl _ _) ⟨rfl,fun _ h => h⟩ (fun b hb => hb.elim)
   have HX7 : Hid (Bx V wE.heap.size 37 #[.int .i64 (rowN m.rows F).ver,.slice AF.ta (rowN m.rows F).txt.length AF.tc,.slice AF.ga (rowN m.rows F).got.length AF.gc,.slice AF.sa (rowN m.rows F).sus.length AF.sc,.bool (rowN m.rows F).wed,.bool (rowN m.rows F).rdy,.int .i64 (rowN m.rows F).by_,.slice AF.ma (rowN m.rows F).trm.length AF.mc]) := hX6
   have HF1 : Hid (∀ b,fp5 b → b < wE.heap.size) := f1
   have HF2 : Hid (B < wE.heap.size) := f2
   have HF4 : Hid (∀ (Y : World) (m' : Mb),Mw V Y B o m' fp5 g off c → Mw w Y B o m' fp g off c) := f4
   have HM8 : Hid (Mw V (V.setCell ⟨g,off + i * 8 + 5,none⟩ (.bool true)) B o { m with rows := m.rows.set i { rowN m.rows i with rdy := true } } fp5 g off c) := M8
   have HRV8 : Hid (RV (V.setCell ⟨g,off + i * 8 + 5,none⟩ (.bool true)) g (off + F * 8) AF (rowN m.rows F)) := hRV8
   generalize wE.heap.size = bb at *
   clear M6 M7 M8 hRV8 hRV6 hX6 q4 f1 f2 f4 hBc
   go_upto_region 4 with fail
   generalize V.setCell ⟨g,off + i * 8 + 5,none⟩ (.bool true) = V1 at *
   clear q1 q2
   generalize hr1 : ({ rowN m.rows i with rdy := true } : Rw) = r1 at *
   have hs1 : rowN (m.rows.set i r1) i = r1 := rowN_self hil
   have hil1 : i < (m.rows.set i r1).length := by rw [List.length_set];exact hil
   have hFl1 : F < (m.rows.set i r1).length := by rw [List.length_set];exact hFl
   have hrF1 : rowN (m.rows.set i r1) F = rowN m.rows F := by rw [rowN_set hil,if_neg hFi]
   obtain ⟨_,_,q1,q2,⟨rfl,_⟩,_,q4⟩ := HM8.out.atO hil1 hFl1 hFi (by simp only [hrF1];exact hrF.fit) (A' := AF) (by simp only [hrF1];exact HRV8.out) (j := 6) (cl := .v (.int .i64 r1.by_)) (by simp only [hs1];rfl)
   obtain ⟨_,_,M9,hRV9⟩ := q4 V1 (.v (.int .i64 (F : Int))) (.int .i64 (F : Int)) (fun _ => False) { r1 with by_ := (F : Int) } (by simp only [hs1];rfl) (Wrt.refl _ _) ⟨rfl,fun _ h => h⟩ (fun b hb => hb.elim)
   simp only [hrF1,List.set_set] at M9 hRV9
   have HM9 : Hid (Mw V (V1.setCell ⟨g,off + i * 8 + 6,none⟩ (.int .i64 (F : Int))) B o { m with rows := m.rows.set i { r1 with by_ := (F : Int) } } fp5 g off c) := M9
   have HRV9 : Hid (RV (V1.setCell ⟨g,off + i * 8 + 6,none⟩ (.int .i64 (F : Int))) g (off + F * 8) AF (rowN m.rows F)) := hRV9
   have HR1 : Hid (({ rowN m.rows i with rdy := true } : Rw) = r1) := hr1
   clear M9 hRV9 q4 hs1 hrF1 hr1
   go_upto_region 5 with fail
   generalize V1.setCell ⟨g,off + i * 8 + 6,none⟩ (.int .i64 (F : Int)) = V2 at *
   clear q1 q2
   generalize hr2 : ({ r1 with by_ := (F : Int) } : Rw) = r2 at *
   have hs2 : rowN (m.rows.set i r2) i = r2 := rowN_self hil
   have hil2 : i < (m.rows.set i r2).length := by rw [List.length_set];exact hil
   have hX9 := HM9.out.bx HX7.out (fun k => by have := HF1.out _ k;omega) (by have := HF2.out;omega)
   have x7 := hX9.at 7 rfl
   have x7' := (hX9.alloc (.cells #[] 2)).at 7 rfl
   simp only [List.getElem_toArray,List.getElem_cons_succ,List.getElem_cons_zero] at x7 x7'
   have hml := hrF.ml
   have hA := vec_copied (c := AF.mc) HRV9.out.2.trm (by omega)
   obtain ⟨u,f,hu,hfz,how,hlt7,hset⟩ := HM9.out.at hil2 (j := 7) (cl := icl r2.trm) (by simp only [hs2];rfl)
   have HS : Hid (∀ (X1 : World) (u' : Value) (f' : Fp),Below V2.heap.size V2 X1 → Cel.ow X1 (icl (rowN m.rows F).trm) u' f' → (∀ b,f' b → V2.heap.size ≤ b) → X1.cell? ⟨g,off + i * 8 + 7,none⟩ = some u ∧ X1.frozen? ⟨g,off + i * 8 + 7,none⟩ = false ∧ Mw V (X1.setCell ⟨g,off + i * 8 + 7,none⟩ u') B o { m with rows := m.rows.set i { r2 with trm := (rowN m.rows F).trm } } fp5 g off c) := fun X1 u' f' h1 h2 h3 => by
    have := hset X1 (icl (rowN m.rows F).trm) u' f' { r2 with trm := (rowN m.rows F).trm } (by simp only [hs2];rfl) (Wrt.of_below h1) h2 (fun b hb => .inr (h3 b hb))
    simp only [List.set_set] at this
    exact ⟨this.1,this.2.1,this.2.2.1⟩
   have HFin : Hid (({ r2 with trm := (rowN m.rows F).trm } : Rw) = adopt m.rows i (rowN m.rows i) F) := by rw [Hid,HE.out,← hr2,← HR1.out]
   clear hset how hlt7 hu hfz hs2 hX9 hr2
   go_wp2_with (at_builtin;refine wpList_append_of (by rfl) _ _ _ _ (by rfl) _ _ (by rfl) (by rfl) hA ⟨rfl,rfl,rfl,rfl⟩ ?_;rintro v1 w1 ⟨a1,e1,f1,rfl,q1,q2,q3⟩;obtain ⟨z1,z2,M10⟩ := HS.out w1 _ f1 q3 q1 q2;have HM10 : Hid (Mw V (w1.setCell ⟨g,off + i * 8 + 7,none⟩ (.slice a1 (rowN m.rows F).trm.length e1)) B o { m with rows := m.rows.set i { r2 with trm := (rowN m.rows F).trm } } fp5 g off c) := M10;clear M10 q1 q2 q3 hA HS)
   go_end0
   rw [← HFin.out]
   exact ⟨rfl,(HF4.out _ _ HM10.out).mk' HC2.out (set_own _)⟩
end Go.Proofs.YtidnfdobljihoaaGreat
namespace Go.Proofs.YtidnfdobljihoaaGreat
set_option linter.unusedSimpArgs false
set_option linter.unusedVariables false
open Go.RowKit
set_option maxHeartbeats 400000 in
theorem l1Same_any (a a' : Option Addr) (len cap len' cap' : Nat) (xs ys : List Int) (w : World) (hv : Vec w a len xs) (hv' : Vec w a' len' ys) (hm : len ≤ maxLen) :
  Calls Tryz.prog 154 #[.slice a len cap,.slice a' len' cap'] w fun e w' => e = .returned (.bool (decide (xs = ys))) ∧ ∃ n,w' = w.drewN n := by
 unfold maxLen at hm
 obtain ⟨hlen,_,hcs⟩ := hv
 obtain ⟨hlen',_,hcs'⟩ := hv'
 by_cases hl : len = len'
 ·have hne : ((len : Int) != (len' : Int)) = false := by simp [hl]
  have HL : Hid (xs.length = len) := hlen
  have HL' : Hid (ys.length = len') := hlen'
  have HLL : Hid (len = len') := hl
  have hle : (len : Int) ≤ (len' : Int) := by omega
  clear hlen hlen' hl
  by_cases h0 : len = 0
  ·have hx : xs = [] := List.length_eq_zero_iff.1 (by rw [HL.out];exact h0)
   have hy : ys = [] := List.length_eq_zero_iff.1 (by rw [HL'.out,← HLL.out];exact h0)
   subst h0 hx hy
   clear hcs hcs'
   go_enter Tryz.func154,Tryz.ntmps154
   go_wp2
   go_loop [5] (fun i => i = .int .i64 0) (fun _ => 0)
   case atStart => rfl
   case round =>
    subst hrel
    go_wp2
    go_ret
    exact ⟨rfl,0,rfl⟩
  ·rcases hcs with h | ⟨b,off,rfl,hc⟩
   ·omega
   rcases hcs' with h | ⟨b',off',rfl,hc'⟩
   ·have := HLL.out;omega
   go_enter Tryz.func154,Tryz.ntmps154
   go_wp2
   go_loopw [5] (fun i wr => ∃ k : Nat,k ≤ len ∧ i = .int .i64 k ∧ (∀ j,j < k → el xs j = el ys j) ∧ ∃ n,wr = w.drewN n) (fun i _ => len - (intOf i).toNat)
   case atStart => exact ⟨0,Nat.zero_le _,rfl,fun j hj => by omega,0,rfl⟩
   case round =>
    obtain ⟨k,hk,rfl,hall,n,rfl⟩ := hrel
    have HA : Hid (∀ j,j < k → el xs j = el ys j) := hall
    clear hall
    by_cases hlt : k < len
    ·have hck := hc k hlt
     have hck' := hc' k (by have := HLL.out;omega)
     have hi1 : (k : Int) < (len : Int) := by omega
     have hi2 : (k : Int) < (len' : Int) := by omega
     by_cases he : el xs k = el ys k
     ·have hd : (el xs k != el ys k) = false := by simp [he]
      have HX : Hid (el xs k = el ys k) := he
      clear he
      go_wp2_with fail
      go_quiet (fail)
      go_wp2
      go_roundw
      case rel => exact ⟨k + 1,by omega,by go_num,fun j hj => by
       rcases Nat.lt_succ_iff_lt_or_eq.1 hj with h | h
       ·exact HA.out j h
       ·rw [h];exact HX.out,_,rfl⟩
      case measure => simp [intOf];omega
     ·have hd : (el xs k != el ys k) = true := by simp [he]
      go_wp2_with fail
      go_quiet (fail)
      go_wp2
      go_ret
      exact ⟨ret_bool (by symm;rw [decide_eq_false_iff_not];intro h;exact he (by rw [h])),_,World.drewN_drewN _ _ _⟩
    ·go_wp2
     go_ret
     exact ⟨ret_bool (by symm;rw [decide_eq_true_iff];exact eq_of_all (by rw [HL.out,HL'.out,HLL.out]) (fun j hj => HA.out j (by rw [HL.out] at hj;omega))),_,rfl⟩
 ·have hne : ((len : Int) != (len' : Int)) = true := by simp;omega
  go_enter Tryz.func154,Tryz.ntmps154
  go_wp2
  go_ret
  exact ⟨ret_bool (by symm;rw [decide_eq_false_iff_not];intro h;rw [h] at hlen;omega),0,rfl⟩
set_option maxHeartbeats 400000 in
theorem slEqual_any (a a' : Option Addr) (len cap len' cap' : Nat) (xs ys : List Int) (w : World) (hv : Vec w a len xs) (hv' : Vec w a' len' ys) (hm : len ≤ maxLen) :
  Calls Tryz.prog 150 #[.slice a len cap,.slice a' len' cap'] w fun e w' => e = .returned (.bool (decide (xs = ys))) ∧ ∃ n,w' = w.drewN n := by
 unfold maxLen at hm
 obtain ⟨hlen,_,hcs⟩ := hv
 obtain ⟨hlen',_,hcs'⟩ := hv'
 by_cases hl : len = len'
 ·have hne : ((len : Int) != (len' : Int)) = false := by simp [hl]
  have HL : Hid (xs.length = len) := hlen
  have HL' : Hid (ys.length = len') := hlen'
  have HLL : Hid (len = len') := hl
  have hle : (len : Int) ≤ (len' : Int) := by omega
  clear hlen hlen' hl
  by_cases h0 : len = 0
  ·have hx : xs = [] := List.length_eq_zero_iff.1 (by rw [HL.out];exact h0)
   have hy : ys = [] := List.length_eq_zero_iff.1 (by rw [HL'.out,← HLL.out];exact h0)
   subst h0 hx hy
   clear hcs hcs'
   go_enter Tryz.func150,Tryz.ntmps150
   go_wp2
   go_loop [13] (fun i => i = .int .i64 0) (fun _ => 0)
   case atStart => rfl
   case round =>
    subst hrel
    go_wp2
    go_ret
    exact ⟨rfl,0,rfl⟩
  ·rcases hcs with h | ⟨b,off,rfl,hc⟩
   ·omega
   rcases hcs' with h | ⟨b',off',rfl,hc'⟩
   ·have := HLL.out;omega
   go_enter Tryz.func150,Tryz.ntmps150
   go_wp2
   go_loopw [13] (fun i wr => ∃ k : Nat,k ≤ len ∧ i = .int .i64 k ∧ (∀ j,j < k → el xs j = el ys j) ∧ ∃ n,wr = w.drewN n) (fun i _ => len - (intOf i).toNat)
   case atStart => exact ⟨0,Nat.zero_le _,rfl,fun j hj => by omega,0,rfl⟩
   case round =>
    obtain ⟨k,hk,rfl,hall,n,rfl⟩ := hrel
    have HA : Hid (∀ j,j < k → el xs j = el ys j) := hall
    clear hall
    by_cases hlt : k < len
    ·have hck := hc k hlt
     have hck' := hc' k (by have := HLL.out;omega)
     have hi1 : (k : Int) < (len : Int) := by omega
     have hi2 : (k : Int) < (len' : Int) := by omega
     by_cases he : el xs k = el ys k
     ·have hd : (el xs k != el ys k) = false := by simp [he]
      have HX : Hid (el xs k = el ys k) := he
      clear he
      go_wp2_with fail
      go_quiet (fail)
      go_wp2
      go_roundw
      case rel => exact ⟨k + 1,by omega,by go_num,fun j hj => by
       rcases Nat.lt_succ_iff_lt_or_eq.1 hj with h | h
       ·exact HA.out j h
       ·rw [h];exact HX.out,_,rfl⟩
      case measure => simp [intOf];omega
     ·have hd : (el xs k != el ys k) = true := by simp [he]
      go_wp2_with fail
      go_quiet (fail)
      go_wp2
      go_ret
      exact ⟨ret_bool (by symm;rw [decide_eq_false_iff_not];intro h;exact he (by rw [h])),_,World.drewN_drewN _ _ _⟩
    ·go_wp2
     go_ret
     exact ⟨ret_bool (by symm;rw [decide_eq_true_iff];exact eq_of_all (by rw [HL.out,HL'.out,HLL.out]) (fun j hj => HA.out j (by rw [HL.out] at hj;omega))),_,rfl⟩
 ·have hne : ((len : Int) != (len' : Int)) = true := by simp;omega
  go_enter Tryz.func150,Tryz.ntmps150
  go_wp2
  go_ret
  exact ⟨ret_bool (by symm;rw [decide_eq_false_iff_not];intro h;rw [h] at hlen;omega),0,rfl⟩
end Go.Proofs.YtidnfdobljihoaaGreat
namespace Go.Proofs.YtidnfdobljihoaaGreat
set_option linter.unusedVariables false
set_option linter.unusedSimpArgs false
open Go.RowKit Go.Sort
set_option maxRecDepth 100000 in
set_option maxHeartbeats 3200000 in
theorem samS_any (A B : Ra) (r s : Rw) (w : World) (hv : RwS w A r) (hu : RwS w B s) :
  Calls Tryz.prog 98 #[rwV A r,rwV B s] w fun e w' => e = .returned (.bool (sameRw r s)) ∧ Below w.heap.size w w' := by
 have hB0 : Below w.heap.size w ((w.alloc (.cells (rwC A r) 37)).alloc (.cells (rwC B s) 37)) := (oneA16 w _).trans ((oneA16 _ _).mono (oneA16 w _).size)
 have hx : Bx ((w.alloc (.cells (rwC A r) 37)).alloc (.cells (rwC B s) 37)) w.heap.size 37 (rwC A r) := (Bx.new w _ _).alloc _
 have hy : Bx ((w.alloc (.cells (rwC A r) 37)).alloc (.cells (rwC B s) 37)) (w.heap.size + 1) 37 (rwC B s) := by
  have := Bx.new (w.alloc (.cells (rwC A r) 37)) 37 (rwC B s)
  simpa using this
 have KE : ∀ X,Below w.heap.size w X → ∀ (x y : Option Addr) (c d : Nat) (l k : List Int),Vec w x l.length l → Vec w y k.length k → l.length ≤ maxLen → Calls Tryz.prog 154 #[.slice x l.length c,.slice y k.length d] X fun e w' => e = .returned (.bool (decide (l = k))) ∧ Below X.heap.size X w' := fun X h x y c d l k h1 h2 h3 => (l1Same_any x y l.length c k.length d l k X (h1.below h (Nat.le_refl _)) (h2.below h (Nat.le_refl _)) h3).mono (fun e w' ⟨h4,n,h5⟩ => ⟨h4,by rw [h5];exact belowN (Below.refl _ _)⟩)
 obtain ⟨ver,txt,got,sus,wed,rdy,by_,trm⟩ := r
 obtain ⟨ver',txt',got',sus',wed',rdy',by',trm'⟩ := s
 obtain ⟨ta,tc,ga,gc,sa,sc,ma,mc⟩ := A
 obtain ⟨ub,uc,vb,vc,xb,xc,yb,yc⟩ := B
 unfold rwV
 unfold rwC at *
 simp only at *
 generalize hWW : (w.alloc (.cells #[.int .i64 ver,.slice ta txt.length tc,.slice ga got.length gc,.slice sa sus.length sc,.bool wed,.bool rdy,.int .i64 by_,.slice ma trm.length mc] 37)).alloc (.cells #[.int .i64 ver',.slice ub txt'.length uc,.slice vb got'.length vc,.slice xb sus'.length xc,.bool wed',.bool rdy',.int .i64 by',.slice yb trm'.length yc] 37) = W at *
 have HX : Hid (Bx W w.heap.size 37 #[.int .i64 ver,.slice ta txt.length tc,.slice ga got.length gc,.slice sa sus.length sc,.bool wed,.bool rdy,.int .i64 by_,.slice ma trm.length mc]) := hx
 have HY : Hid (Bx W (w.heap.size + 1) 37 #[.int .i64 ver',.slice ub txt'.length uc,.slice vb got'.length vc,.slice xb sus'.length xc,.bool wed',.bool rdy',.int .i64 by',.slice yb trm'.length yc]) := hy
 have HB : Hid (Below w.heap.size w W) := hB0
 have hG := fun X h => KE X h ga vb gc vc got got' hv.got hu.got hv.mg
 have hS := fun X h => KE X h sa xb sc xc sus sus' hv.sus hu.sus hv.ms
 have hM := fun X h => KE X h ma yb mc yc trm trm' hv.trm hu.trm hv.mm
 have HZ : Hid (sameRw ⟨ver,txt,got,sus,wed,rdy,by_,trm⟩ ⟨ver',txt',got',sus',wed',rdy',by',trm'⟩ = ((wed == wed') && ((rdy == rdy') && ((by_ == by') && (decide (got = got') && (decide (sus = sus') && decide (trm = trm'))))))) := by
  rw [Hid,sameRw]
  simp only
  by_cases h1 : wed = wed' <;> by_cases h2 : rdy = rdy' <;> by_cases h3 : by_ = by' <;> simp [h1,h2,h3]
 obtain ⟨⟨c0,c1,c2,c3⟩,c4,c5,c6,c7⟩ := Bx.r8 hx
 obtain ⟨⟨d0,d1,d2,d3⟩,d4,d5,d6,d7⟩ := Bx.r8 hy
 clear hx hy KE hB0 hv hu
 cases e1 : (wed == wed') with
 | false =>
  rw [e1] at HZ
  go_enter Tryz.func98,Tryz.ntmps98
  go_wp2
  go_ret
  exact ⟨ret_bool (by rw [HZ.out];rfl),HB.out⟩
 | true =>
 cases e2 : (rdy == rdy') with
 | false =>
  rw [e1,e2] at HZ
  go_enter Tryz.func98,Tryz.ntmps98
  go_wp2
  go_ret
  exact ⟨ret_bool (by rw [HZ.out];rfl),HB.out⟩
 | true =>
 cases e3 : (by_ == by') with
 | false =>
  rw [e1,e2,e3] at HZ
  go_enter Tryz.func98,Tryz.ntmps98
  go_wp2
  go_ret
  exact ⟨ret_bool (by rw [HZ.out];rfl),HB.out⟩
 | true =>
 rw [e1,e2,e3] at HZ
 go_enter Tryz.func98,Tryz.ntmps98
 go_wp2_with fail
 refine (hG _ HB.out).mono ?_
 rintro e w1 ⟨rfl,hb1⟩
 have HB1 : Hid (Below w.heap.size w w1) := HB.out.trans (hb1.mono HB.out.size)
 have hx1 := HX.out.below hb1
 have hy1 := HY.out.below hb1
 have HX1 : Hid (Bx w1 w.heap.size 37 #[.int .i64 ver,.slice ta txt.length tc,.slice ga got.length gc,.slice sa sus.length sc,.bool wed,.bool rdy,.int .i64 by_,.slice ma trm.length mc]) := hx1
 have HY1 : Hid (Bx w1 (w.heap.size + 1) 37 #[.int .i64 ver',.slice ub txt'.length uc,.slice vb got'.length vc,.slice xb sus'.length xc,.bool wed',.bool rdy',.int .i64 by',.slice yb trm'.length yc]) := hy1
 clear c0 c1 c2 c3 c4 c5 c6 c7 d0 d1 d2 d3 d4 d5 d6 d7 hG HX HY
 obtain ⟨⟨c0,c1,c2,c3⟩,c4,c5,c6,c7⟩ := Bx.r8 hx1
 obtain ⟨⟨d0,d1,d2,d3⟩,d4,d5,d6,d7⟩ := Bx.r8 hy1
 clear hx1 hy1 hb1
 generalize decide (got = got') = t1 at *
 cases t1 with
 | false =>
  go_wp2
  go_ret
  exact ⟨ret_bool (by rw [HZ.out];rfl),HB1.out⟩
 | true =>
 go_wp2_with fail
 refine (hS _ HB1.out).mono ?_
 rintro e w2 ⟨rfl,hb2⟩
 have HB2 : Hid (Below w.heap.size w w2) := HB1.out.trans (hb2.mono HB1.out.size)
 clear c0 c1 c2 c3 c4 c5 c6 c7 d0 d1 d2 d3 d4 d5 d6 d7 hS
 obtain ⟨⟨c0,c1,c2,c3⟩,c4,c5,c6,c7⟩ := Bx.r8 (HX1.out.below hb2)
 obtain ⟨⟨d0,d1,d2,d3⟩,d4,d5,d6,d7⟩ := Bx.r8 (HY1.out.below hb2)
 clear hb2
 generalize decide (sus = sus') = t2 at *
 cases t2 with
 | false =>
  go_wp2
  go_ret
  exact ⟨ret_bool (by rw [HZ.out];rfl),HB2.out⟩
 | true =>
 go_wp2_with fail
 refine (hM _ HB2.out).mono ?_
 rintro e w3 ⟨rfl,hb3⟩
 have HB3 : Hid (Below w.heap.size w w3) := HB2.out.trans (hb3.mono HB2.out.size)
 clear c0 c1 c2 c3 c4 c5 c6 c7 d0 d1 d2 d3 d4 d5 d6 d7 hM hb3
 generalize decide (trm = trm') = t3 at *
 cases t3 with
 | false =>
  go_wp2
  go_ret
  exact ⟨ret_bool (by rw [HZ.out];rfl),HB3.out⟩
 | true =>
  go_wp2
  go_ret
  exact ⟨ret_bool (by rw [HZ.out];rfl),HB3.out⟩
end Go.Proofs.YtidnfdobljihoaaGreat
namespace Go.Proofs.YtidnfdobljihoaaGreat
set_option linter.unusedVariables false
set_option linter.unusedSimpArgs false
open Go.RowKit Go.Sort
def NeB (a : Option Addr) (xs : List Int) (g : Nat) : Prop := xs = [] ∨ ∀ x,a = some x → x.block ≠ g
structure VecN (w : World) (a : Option Addr) (xs : List Int) (g : Nat) : Prop where
 vec : Vec w a xs.length xs
 ne : NeB a xs g
theorem VecN.below {w w' : World} {a : Option Addr} {xs : List Int} {g : Nat} (h : VecN w a xs g) (hb : Below w.heap.size w w') : VecN w' a xs g := ⟨h.vec.below hb (Nat.le_refl _),h.ne⟩
theorem VecN.set {w : World} {a : Option Addr} {xs : List Int} {g : Nat} (h : VecN w a xs g) (j : Nat) (v : Value) : VecN (w.setCell ⟨g,j,none⟩ v) a xs g := by
 refine ⟨⟨h.vec.1,h.vec.2.1, ?_⟩,h.ne⟩
 rcases h.vec.2.2 with h0 | ⟨b,off,ha,hc⟩
 ·exact .inl h0
 ·rcases h.ne with h1 | h1
  ·exact .inl (by rw [h1];rfl)
  ·refine .inr ⟨b,off,ha,fun i hi => ?_⟩
   have : b ≠ g := h1 _ ha
   rw [World.cell?_setCell_other _ _ _ _ (by simp only [ne_eq,Addr.mk.injEq,not_and];intro e;exact absurd e.symm this)]
   exact hc i hi
theorem ow_ne {w : World} {a : Option Addr} {c : Nat} {xs : List Int} {f : Fp} {g : Nat} (h : Cel.ow w (icl xs) (.slice a xs.length c) f) (hg : ¬ f g) : NeB a xs g := by
 obtain ⟨a',c',G,e,ho,hf⟩ := ow_icl.1 h
 cases e
 rcases ho.oi with ⟨h1,_⟩ | ⟨b,off,rfl,_,rfl⟩
 ·exact .inl h1
 ·refine .inr (fun x hx e => ?_)
  cases hx
  exact hg ((hf g).2 (by rw [← e]))
theorem Mw.rowE {w X : World} {B o : Nat} {m : Mb} {fp : Fp} {g off c : Nat} (h : Mw w X B o m fp g off c) (hf : FitM m) {k : Nat} (hk : k < m.rows.length) : ∃ Ak : Ra,RV X g (off + k * 8) Ak (rowN m.rows k) ∧ VecN X Ak.ga (rowN m.rows k).got g ∧ VecN X Ak.ma (rowN m.rows k).trm g := by
 obtain ⟨fp1,hp,hf1,hgo⟩ := h.bcm.next
 obtain ⟨g',off',c',f,h1,hgB,hfg,hfs,⟨vs,hpc,hov,hng⟩,hput⟩ := hp.el (F := rw8) rw8_len (by omega) (j := 2) (L := m.rows) rfl (rowN_at hk)
 have e := Option.some.inj (h1.symm.trans h.rws)
 cases e
 have hfr := hf.1 _ (List.mem_of_getElem? (rowN_at hk))
 obtain ⟨A,rfl,hl⟩ := rw8_ow hov
 have hrv := PlV.rv ⟨hpc,hov,hng⟩ rfl hfr
 obtain ⟨u1,us1,f1,g1,e1,o1,h2,d1,i1⟩ := hl
 cases e1
 obtain ⟨u2,us2,f2,g2,e2,o2,h3,d2,i2⟩ := h2
 cases e2
 obtain ⟨u3,us3,f3,g3,e3,o3,h4,d3,i3⟩ := h3
 cases e3
 obtain ⟨u4,us4,f4,g4,e4,o4,h5,d4,i4⟩ := h4
 cases e4
 refine ⟨A,hrv,⟨hrv.2.got,ow_ne o2 (fun k => hng ((i1 g).2 (.inr ((i2 g).2 (.inl k)))))⟩,hrv.2.trm,ow_ne o4 (fun k => hng ((i1 g).2 (.inr ((i2 g).2 (.inr ((i3 g).2 (.inr ((i4 g).2 (.inl k)))))))))⟩
theorem leadOk_take {R : List Rw} {o : Rw} {L : List Nat} {k : Nat} (hk : k < L.length) : leadOk R o (L.take (k + 1)) = (leadOk R o (L.take k) && ((rowN R (L.getD k 0)).wed && o.sus.all (fun x => decide (x ∈ (rowN R (L.getD k 0)).sus)))) := by
 have e : L.getD k 0 = L[k] := by simp [List.getD,hk]
 unfold leadOk
 rw [List.take_succ_eq_append_getElem hk,List.all_append,e]
 simp
theorem leadOk_no {R : List Rw} {o : Rw} {L : List Nat} {k : Nat} (hk : k < L.length) (h : ((rowN R (L.getD k 0)).wed && o.sus.all (fun x => decide (x ∈ (rowN R (L.getD k 0)).sus))) = false) : leadOk R o L = false := by
 rw [leadOk,List.all_eq_false]
 exact ⟨L.getD k 0,getD_memN hk,by simp only [h];decide⟩
theorem best_take {R : List Rw} {L : List Nat} {a : Int × List Int} {k : Nat} (hk : k < L.length) : best R (L.take (k + 1)) a = if (rowN R (L.getD k 0)).rdy = true ∧ (best R (L.take k) a).1 < (rowN R (L.getD k 0)).by_ then ((rowN R (L.getD k 0)).by_,(rowN R (L.getD k 0)).trm) else best R (L.take k) a := by
 have e : L.getD k 0 = L[k] := by simp [List.getD,hk]
 unfold best
 rw [List.take_succ_eq_append_getElem hk,List.foldl_append,e]
 rfl
def meetT (R : List Rw) (L : List Nat) (k : Nat) : List Int := meets R (L.take k)
theorem meetT_one {R : List Rw} {L : List Nat} (hk : 0 < L.length) : meetT R L 1 = (rowN R (L.getD 0 0)).got := by
 cases L with
 | nil => simp at hk
 | cons x t => rfl
theorem meetT_next {R : List Rw} {L : List Nat} {k : Nat} (h0 : 0 < k) (hk : k < L.length) : meetT R L (k + 1) = pairB min (meetT R L k) (rowN R (L.getD k 0)).got := by
 have e : L.getD k 0 = L[k] := by simp [List.getD,hk]
 cases L with
 | nil => simp at hk
 | cons x t =>
  obtain ⟨q,rfl⟩ : ∃ q,k = q + 1 := ⟨k - 1,by omega⟩
  unfold meetT
  rw [List.take_succ_cons,List.take_succ_cons,e]
  have hq : q < t.length := by simpa using hk
  rw [List.take_succ_eq_append_getElem hq]
  simp only [meets,List.foldl_append,List.foldl_cons,List.foldl_nil,List.getElem_cons_succ]
theorem fold_len {R : List Rw} {n : Nat} : ∀ {t : List Nat} {acc : List Int},(acc.length ≤ 8 ∨ acc.length ≤ n) → (t.foldl (fun acc j => pairB min acc (rowN R j).got) acc).length ≤ 8 ∨ (t.foldl (fun acc j => pairB min acc (rowN R j).got) acc).length ≤ n
 | [],acc,h => h
 | x :: t,acc,h => fold_len (t := t) (.inl (pairB_len _ _ _))
theorem meets_len {R : List Rw} {n x : Nat} {t : List Nat} (h : ∀ j ∈ x :: t,(rowN R j).got.length = n) : (meets R (x :: t)).length ≤ 8 ∨ (meets R (x :: t)).length ≤ n := fold_len (.inr (by rw [h x List.mem_cons_self];exact Nat.le_refl _))
theorem meetT_all {R : List Rw} {L : List Nat} : meetT R L L.length = meets R L := by rw [meetT,List.take_length]
end Go.Proofs.YtidnfdobljihoaaGreat