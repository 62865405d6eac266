/-
  Texts in one: Mbe Rns Rwo.
-/
import Derived.Test.YtidnfdobljihoaaGreatJag
import Derived.Test.YtidnfdobljihoaaGreatJac
import Derived.Test.YtidnfdobljihoaaGreatJaa
namespace Go.Proofs.YtidnfdobljihoaaGreat
set_option linter.unusedVariables false
set_option linter.unusedSimpArgs false
open Go.RowKit Go.Sort
set_option maxRecDepth 100000 in
set_option maxHeartbeats 12800000 in
theorem leaSp_any (B o : Nat) (m : Mb) (i n : Nat) (L : List Nat) (la : Option Addr) (lc : Nat) (fl fp : Fp) (w : World) (h : Plc w B o (mb5 m) fp) (ok : OkM m i n) (hw : (rowN m.rows i).wed = true) (hl : Cel.ow w (icl (lN L)) (.slice la L.length lc) fl) (hfl : ∀ b,fl b → ¬ fp b ∧ b ≠ B) (hL : ∀ k ∈ L,k < n) (hne : 0 < L.length) (hLn : L.length ≤ n) :
  Calls Tryz.prog 95 #[.pointer (some ⟨B,o,none⟩),.slice la L.length lc] w fun e w' => e = .returned (.tuple #[]) ∧ Mk w w' B o { m with rows := m.rows.set i (lead m.rows i (rowN m.rows i) L) } fp := by
 have hmix := mixed17
 have hil : i < m.rows.length := by rw [ok.len];exact ok.lt
 obtain ⟨g,off,c,M0⟩ := Mw.start h (by omega)
 obtain ⟨c0,c1,c4⟩ := M0.id'
 have c2 := M0.rws
 rw [ok.hid] at c0
 have i0 : (0 : Int) ≤ (i : Int) := by omega
 have i1 : (i : Int) < (m.rows.length : Int) := by omega
 have p0 : ∀ q : Bk w,q.w.cell? ⟨B,o,none⟩ = _ := fun q => (q.h.cell (World.block_lt_of_cell? _ _ c0)).trans c0
 have p2 : ∀ q : Bk w,q.w.cell? ⟨B,o + 2,none⟩ = _ := fun q => (q.h.cell (World.block_lt_of_cell? _ _ c2)).trans c2
 have HC2 : Hid (w.cell? ⟨B,o + 2,none⟩ = some (.slice (some ⟨g,off,none⟩) m.rows.length c)) := M0.rws
 have HM0 : Hid (Mw w w B o m fp g off c) := M0
 have hr := ok.ok i ok.lt
 have hn5 := hr.n5
 have HNO : Hid (({ m with rows := m.rows.set i (rowN m.rows i) } : Mb) = m) := by rw [Hid,set_sameA (rowN_at hil)]
 have HLv : Hid (∀ X,Below w.heap.size w X → Vec X la (lN L).length (lN L)) := fun X hX => vec_of_ow (by rw [lN_len];exact Cel.ow_below hl hX) (lN_fits hL (by omega))
 have HL : Hid (∀ k ∈ L,k < n) := hL
 clear c0 c1 c4 c2 M0 h hl hL
 go_enter Tryz.func95,Tryz.ntmps95
 go_wp2_with fail
 refine wp_region_bk (by kernel_rfl) (by kernel_rfl) ?_
 repeat (go_big_quiet_step ((first | rfl)))
 refine wpQuiet_nil ?_
 intro wE hw'
 obtain ⟨⟨w11,hb11⟩,hw''⟩ := hw'
 have hwe : wE = w11 := hw''
 clear hw''
 subst hwe
 clear p0 p2
 have HM1 : Hid (Mw w wE B o m fp g off c) := HM0.out.step hb11
 have HB1 : Hid (Below w.heap.size w wE) := hb11
 obtain ⟨c0,c1,c4⟩ := HM1.out.id'
 rw [ok.hid] at c0
 obtain ⟨Ao,⟨⟨o0,o1,o2,o3⟩,o4,o5,o6,o7⟩,_⟩ := HM1.out.row ok.fit hil
 have T : ∀ {x v},wE.cell? x = some v → ∀ q : Bk wE,q.w.cell? x = some v := fun h q => (q.h.cell (World.block_lt_of_cell? _ _ h)).trans h
 have p0 := T c0
 have po5 := T o5
 have po6 := T o6
 obtain ⟨d,hd⟩ : ∃ d : Bool,Hid (d = decide ((rowN m.rows i).rdy = true ∧ (i : Int) ≤ (rowN m.rows i).by_)) := ⟨_,rfl⟩
 have HLd : Hid (lead m.rows i (rowN m.rows i) L = if d = true then rowN m.rows i else if leadOk m.rows (rowN m.rows i) L = true then { rowN m.rows i with rdy := true,by_ := (i : Int),trm := endOf m.rows L } else rowN m.rows i) := by
  rw [Hid,lead,hd.out]
  simp only [decide_eq_true_eq]
 clear c0 c1 c4 o0 o1 o2 o3 o4 o5 o6 o7 T hb11 HM0
 go_upto_region 1 with fail
 go_cut [33] from 19 to 33 (fun v X => v = .bool d ∧ Below wE.heap.size wE X)
 case first =>
  by_cases a1 : (rowN m.rows i).rdy = true
  rotate_left
  ·have a1' : (rowN m.rows i).rdy = false := by simpa using a1
   have hd0 : Hid (d = false) := by rw [Hid,hd.out];simp [a1']
   rw [a1'] at po5
   clear a1 a1'
   refine wp_region_bk (by kernel_rfl) (by kernel_rfl) ?_
   repeat (go_big_quiet_step ((first | rfl)))
   refine wpQuiet_nil ?_
   intro wE hw'
   obtain ⟨⟨w11,hb11⟩,hw''⟩ := hw'
   have hwe : wE = w11 := hw''
   clear hw''
   subst hwe
   try go_wp2_with fail
   go_meet
   case rel => exact ⟨by rw [hd0.out],hb11⟩
  rw [a1] at po5
  by_cases a5 : (i : Int) ≤ (rowN m.rows i).by_
  ·have hd0 : Hid (d = true) := by rw [Hid,hd.out];simp [a1,a5]
   have g5 : decide ((i : Int) ≤ (rowN m.rows i).by_) = true := by simpa using a5
   clear a1
   refine wp_region_bk (by kernel_rfl) (by kernel_rfl) ?_
   repeat (go_big_quiet_step ((first | rfl)))
   refine wpQuiet_nil ?_
   intro wE hw'
   obtain ⟨⟨w11,hb11⟩,hw''⟩ := hw'
   have hwe : wE = w11 := hw''
   clear hw''
   subst hwe
   try go_wp2_with fail
   go_meet
   case rel => exact ⟨by rw [hd0.out],hb11⟩
  have hd0 : Hid (d = false) := by rw [Hid,hd.out];simp;intro _;omega
  have g5 : decide ((i : Int) ≤ (rowN m.rows i).by_) = false := by simpa using a5
  clear a1
  refine wp_region_bk (by kernel_rfl) (by kernel_rfl) ?_
  repeat (go_big_quiet_step ((first | rfl)))
  refine wpQuiet_nil ?_
  intro wE hw'
  obtain ⟨⟨w11,hb11⟩,hw''⟩ := hw'
  have hwe : wE = w11 := hw''
  clear hw''
  subst hwe
  try go_wp2_with fail
  go_meet
  case rel => exact ⟨by rw [hd0.out],hb11⟩
 case rest =>
  obtain ⟨rfl,hBc⟩ := hcut
  clear p0 po5 po6
  have HM2 : Hid (Mw w wc B o m fp g off c) := HM1.out.step hBc
  have HB2 : Hid (Below w.heap.size w wc) := HB1.out.trans (hBc.mono HB1.out.size)
  clear hBc
  generalize wc = V at *
  cases d with
  | true =>
   have HE : Hid (lead m.rows i (rowN m.rows i) L = rowN m.rows i) := by rw [Hid,HLd.out];rfl
   go_wp2
   (try simp only [Exit.inBlock,Exit.then])
   refine bodyPost_ret (results_none rfl _ _ _) rfl ?_
   rw [HE.out,HNO.out]
   exact ⟨rfl,HM2.out.mk' HC2.out rfl⟩
  | false =>
   have HE : Hid (lead m.rows i (rowN m.rows i) L = if leadOk m.rows (rowN m.rows i) L = true then { rowN m.rows i with rdy := true,by_ := (i : Int),trm := endOf m.rows L } else rowN m.rows i) := by rw [Hid,HLd.out];rfl
   have hba := oneA16 V (.cells #[] 2)
   have HM3 : Hid (Mw w (V.alloc (.cells #[] 2)) B o m fp g off c) := HM2.out.step hba
   have HB3 : Hid (Below w.heap.size w (V.alloc (.cells #[] 2))) := HB2.out.trans (hba.mono HB2.out.size)
   have hgV : g < V.heap.size := by
    obtain ⟨fp1,hp,_⟩ := HM2.out.bcm.next
    obtain ⟨g',off',c',f,h1,_,hfg,_⟩ := hp.el (F := rw8) rw8_len (by omega) (j := 2) (L := m.rows) rfl (rowN_at hil)
    have e := Option.some.inj (h1.symm.trans HM2.out.rws)
    cases e
    exact hp.flt _ hfg
   clear hba HLd
   go_wp2_with fail
   generalize hV3 : V.alloc (.cells #[] 2) = V3 at *
   clear hV3
   go_loopw [5,6,7] (fun b tr v wr => ∃ (k : Nat) (x : Int) (ta : Option Addr) (tc : Nat) (T : List Int),k ≤ L.length ∧ v = .int .i64 (k : Int) ∧ b = .int .i64 x ∧ tr = .slice ta T.length tc ∧ Hid (best m.rows (L.take k) (-1,[]) = (x,T)) ∧ Hid (leadOk m.rows (rowN m.rows i) (L.take k) = true) ∧ VecN wr ta T g ∧ Below w.heap.size w wr ∧ Mw w wr B o m fp g off c) (fun _ _ v _ => L.length - (intOf v).toNat)
   case atStart => exact ⟨0,-1,some ⟨V.heap.size,0,none⟩,0,[],Nat.zero_le _,rfl,rfl,rfl,rfl,rfl,⟨⟨rfl,fun x hx => absurd hx List.not_mem_nil,.inl rfl⟩,.inl rfl⟩,HB3.out,HM3.out⟩
   case round =>
    obtain ⟨k,x,ta,tc,T,hk,rfl,rfl,rfl,hBe,hLo,hV,hBw,M⟩ := hrel
    by_cases hlt : k < L.length
    ·have hJn : L.getD k 0 < n := HL.out _ (getD_memN hlt)
     have hJl : L.getD k 0 < m.rows.length := by rw [ok.len];exact hJn
     have hLv := HLv.out wr hBw
     rcases hLv.2.2 with hz | ⟨lb,lo,hla,hlc⟩
     ·rw [lN_len] at hz;omega
     have hlk := hlc k (by rw [lN_len];exact hlt)
     rw [el_lN hlt] at hlk
     obtain ⟨AJ,hRV,hVg,hVm⟩ := M.rowE ok.fit hJl
     have HBt : Hid (best m.rows (L.take (k + 1)) (-1,[]) = if (rowN m.rows (L.getD k 0)).rdy = true ∧ x < (rowN m.rows (L.getD k 0)).by_ then ((rowN m.rows (L.getD k 0)).by_,(rowN m.rows (L.getD k 0)).trm) else (x,T)) := by rw [Hid,best_take hlt,hBe.out]
     have HLt : Hid (leadOk m.rows (rowN m.rows i) (L.take (k + 1)) = ((rowN m.rows (L.getD k 0)).wed && (rowN m.rows i).sus.all (fun x => decide (x ∈ (rowN m.rows (L.getD k 0)).sus)))) := by rw [Hid,leadOk_take hlt,hLo.out];rfl
     have HLno : Hid (((rowN m.rows (L.getD k 0)).wed && (rowN m.rows i).sus.all (fun x => decide (x ∈ (rowN m.rows (L.getD k 0)).sus))) = false → leadOk m.rows (rowN m.rows i) L = false) := fun h => leadOk_no hlt h
     have hokJ := ok.ok _ hJn
     generalize L.getD k 0 = J at *
     obtain ⟨Ao,⟨⟨o0,o1,o2,o3⟩,o4,o5,o6,o7⟩,hors⟩ := M.row ok.fit hil
     have k1 : (k : Int) < (L.length : Int) := by omega
     have k0 : (0 : Int) ≤ (k : Int) := by omega
     have J0 : (0 : Int) ≤ (J : Int) := by omega
     have J1 : (J : Int) < (m.rows.length : Int) := by omega
     have crw := M.rws
     obtain ⟨⟨⟨d0,d1,d2,d3⟩,d4,d5,d6,d7⟩,hJrs⟩ := hRV
     have HJrs : Hid (RwS wr AJ (rowN m.rows J)) := hJrs
     have HOrs : Hid (RwS wr Ao (rowN m.rows i)) := hors
     have HO3 : Hid (wr.cell? ⟨g,off + i * 8 + 3,none⟩ = some (.slice Ao.sa (rowN m.rows i).sus.length Ao.sc)) := o3
     have HM : Hid (Mw w wr B o m fp g off c) := M
     have HBw : Hid (Below w.heap.size w wr) := hBw
     have HV : Hid (VecN wr ta T g) := hV
     have HVm : Hid (VecN wr AJ.ma (rowN m.rows J).trm g) := hVm
     generalize hrr : rowN m.rows J = r at *
     have HRR : Hid (rowN m.rows J = r) := hrr
     have KS : ∀ X,Below wr.heap.size wr X → (X.cell? ⟨B,o + 2,none⟩ = some (.slice (some ⟨g,off,none⟩) m.rows.length c) ∧ X.cell? ⟨lb,lo + k,none⟩ = some (.int .i64 (J : Int)) ∧ X.cell? ⟨g,off + J * 8,none⟩ = some (.int .i64 r.ver) ∧ X.cell? ⟨g,off + J * 8 + 1,none⟩ = some (.slice AJ.ta r.txt.length AJ.tc) ∧ X.cell? ⟨g,off + J * 8 + 2,none⟩ = some (.slice AJ.ga r.got.length AJ.gc) ∧ X.cell? ⟨g,off + J * 8 + 3,none⟩ = some (.slice AJ.sa r.sus.length AJ.sc) ∧ X.cell? ⟨g,off + J * 8 + 4,none⟩ = some (.bool r.wed) ∧ X.cell? ⟨g,off + J * 8 + 5,none⟩ = some (.bool r.rdy) ∧ X.cell? ⟨g,off + J * 8 + 6,none⟩ = some (.int .i64 r.by_) ∧ X.cell? ⟨g,off + J * 8 + 7,none⟩ = some (.slice AJ.ma r.trm.length AJ.mc)) := fun X hX => by
      have t : ∀ {x v},wr.cell? x = some v → X.cell? x = some v := fun h => (hX.cell (World.block_lt_of_cell? _ _ h)).trans h
      exact ⟨t crw,t hlk,t d0,t d1,t d2,t d3,t d4,t d5,t d6,t d7⟩
     have hbd : Below wr.heap.size wr wr.drew := (Same.drewN wr 1).below
     clear hrr M hJrs hors hlc hlk crw d0 d1 d2 d3 d4 d5 d6 d7 o0 o1 o2 o3 o4 o5 o6 o7 hV hVm hVg hBw hLv
     subst hla
     go_wp2_with fail
     refine gt_begin (S := fun X : World => X.cell? ⟨B,o + 2,none⟩ = some (.slice (some ⟨g,off,none⟩) m.rows.length c) ∧ X.cell? ⟨lb,lo + k,none⟩ = some (.int .i64 (J : Int)) ∧ X.cell? ⟨g,off + J * 8,none⟩ = some (.int .i64 r.ver) ∧ X.cell? ⟨g,off + J * 8 + 1,none⟩ = some (.slice AJ.ta r.txt.length AJ.tc) ∧ X.cell? ⟨g,off + J * 8 + 2,none⟩ = some (.slice AJ.ga r.got.length AJ.gc) ∧ X.cell? ⟨g,off + J * 8 + 3,none⟩ = some (.slice AJ.sa r.sus.length AJ.sc) ∧ X.cell? ⟨g,off + J * 8 + 4,none⟩ = some (.bool r.wed) ∧ X.cell? ⟨g,off + J * 8 + 5,none⟩ = some (.bool r.rdy) ∧ X.cell? ⟨g,off + J * 8 + 6,none⟩ = some (.int .i64 r.by_) ∧ X.cell? ⟨g,off + J * 8 + 7,none⟩ = some (.slice AJ.ma r.trm.length AJ.mc)) 11 hmix (by kernel_rfl) ?_
     have hHeld : (fun X : World => X.cell? ⟨B,o + 2,none⟩ = some (.slice (some ⟨g,off,none⟩) m.rows.length c) ∧ X.cell? ⟨lb,lo + k,none⟩ = some (.int .i64 (J : Int)) ∧ X.cell? ⟨g,off + J * 8,none⟩ = some (.int .i64 r.ver) ∧ X.cell? ⟨g,off + J * 8 + 1,none⟩ = some (.slice AJ.ta r.txt.length AJ.tc) ∧ X.cell? ⟨g,off + J * 8 + 2,none⟩ = some (.slice AJ.ga r.got.length AJ.gc) ∧ X.cell? ⟨g,off + J * 8 + 3,none⟩ = some (.slice AJ.sa r.sus.length AJ.sc) ∧ X.cell? ⟨g,off + J * 8 + 4,none⟩ = some (.bool r.wed) ∧ X.cell? ⟨g,off + J * 8 + 5,none⟩ = some (.bool r.rdy) ∧ X.cell? ⟨g,off + J * 8 + 6,none⟩ = some (.int .i64 r.by_) ∧ X.cell? ⟨g,off + J * 8 + 7,none⟩ = some (.slice AJ.ma r.trm.length AJ.mc)) wr.drew := (KS _ hbd)
     refine gt_take (i := 0) (v := ?_) rfl (by kernel_rfl) (by kernel_rfl) (by kernel_rfl) (by kernel_rfl) (fun _ _ _ h => h) (Or.inl ⟨by rfl, ?_⟩) hHeld ?_
     rotate_left
     ·(intro X hSX;(try dsimp only at hSX);obtain ⟨g0,g1,g2,g3,g4,g5,g6,g7,g8,g9⟩ := hSX;go_simp;try with_reducible rfl)
     try simp only [Act.put,List.setIfInBounds_toArray,List.set_cons_zero,List.set_cons_succ]
     refine gt_take (i := 1) (v := ?_) rfl (by kernel_rfl) (by kernel_rfl) (by kernel_rfl) (by kernel_rfl) (fun _ _ _ h => h) (Or.inl ⟨by rfl, ?_⟩) hHeld ?_
     rotate_left
     ·(intro X hSX;(try dsimp only at hSX);obtain ⟨g0,g1,g2,g3,g4,g5,g6,g7,g8,g9⟩ := hSX;go_simp;try with_reducible rfl)
     try simp only [Act.put,List.setIfInBounds_toArray,List.set_cons_zero,List.set_cons_succ]
     refine gt_take (i := 2) (v := ?_) rfl (by kernel_rfl) (by kernel_rfl) (by kernel_rfl) (by kernel_rfl) (fun _ _ _ h => h) (Or.inl ⟨by rfl, ?_⟩) hHeld ?_
     rotate_left
     ·(intro X hSX;(try dsimp only at hSX);obtain ⟨g0,g1,g2,g3,g4,g5,g6,g7,g8,g9⟩ := hSX;go_simp;try with_reducible rfl)
     try simp only [Act.put,List.setIfInBounds_toArray,List.set_cons_zero,List.set_cons_succ]
     refine gt_take (i := 3) (v := ?_) rfl (by kernel_rfl) (by kernel_rfl) (by kernel_rfl) (by kernel_rfl) (fun _ _ _ h => h) (Or.inl ⟨by rfl, ?_⟩) hHeld ?_
     rotate_left
     ·(intro X hSX;(try dsimp only at hSX);obtain ⟨g0,g1,g2,g3,g4,g5,g6,g7,g8,g9⟩ := hSX;go_simp;try with_reducible rfl)
     try simp only [Act.put,List.setIfInBounds_toArray,List.set_cons_zero,List.set_cons_succ]
     refine gt_take (i := 4) (v := ?_) rfl (by kernel_rfl) (by kernel_rfl) (by kernel_rfl) (by kernel_rfl) (fun _ _ _ h => h) (Or.inl ⟨by rfl, ?_⟩) hHeld ?_
     rotate_left
     ·(intro X hSX;(try dsimp only at hSX);obtain ⟨g0,g1,g2,g3,g4,g5,g6,g7,g8,g9⟩ := hSX;go_simp;try with_reducible rfl)
     try simp only [Act.put,List.setIfInBounds_toArray,List.set_cons_zero,List.set_cons_succ]
     refine gt_take (i := 5) (v := ?_) rfl (by kernel_rfl) (by kernel_rfl) (by kernel_rfl) (by kernel_rfl) (fun _ _ _ h => h) (Or.inl ⟨by rfl, ?_⟩) hHeld ?_
     rotate_left
     ·(intro X hSX;(try dsimp only at hSX);obtain ⟨g0,g1,g2,g3,g4,g5,g6,g7,g8,g9⟩ := hSX;go_simp;try with_reducible rfl)
     try simp only [Act.put,List.setIfInBounds_toArray,List.set_cons_zero,List.set_cons_succ]
     refine gt_take (i := 6) (v := ?_) rfl (by kernel_rfl) (by kernel_rfl) (by kernel_rfl) (by kernel_rfl) (fun _ _ _ h => h) (Or.inl ⟨by rfl, ?_⟩) hHeld ?_
     rotate_left
     ·(intro X hSX;(try dsimp only at hSX);obtain ⟨g0,g1,g2,g3,g4,g5,g6,g7,g8,g9⟩ := hSX;go_simp;try with_reducible rfl)
     try simp only [Act.put,List.setIfInBounds_toArray,List.set_cons_zero,List.set_cons_succ]
     refine gt_take (i := 7) (v := ?_) rfl (by kernel_rfl) (by kernel_rfl) (by kernel_rfl) (by kernel_rfl) (fun _ _ _ h => h) (Or.inl ⟨by rfl, ?_⟩) hHeld ?_
     rotate_left
     ·(intro X hSX;(try dsimp only at hSX);obtain ⟨g0,g1,g2,g3,g4,g5,g6,g7,g8,g9⟩ := hSX;go_simp;try with_reducible rfl)
     try simp only [Act.put,List.setIfInBounds_toArray,List.set_cons_zero,List.set_cons_succ]
     refine gt_take (i := 8) (v := ?_) rfl (by kernel_rfl) (by kernel_rfl) (by kernel_rfl) (by kernel_rfl) (fun _ _ _ h => h) (Or.inl ⟨by rfl, ?_⟩) hHeld ?_
     rotate_left
     ·(intro X hSX;(try dsimp only at hSX);obtain ⟨g0,g1,g2,g3,g4,g5,g6,g7,g8,g9⟩ := hSX;go_simp;try with_reducible rfl)
     try simp only [Act.put,List.setIfInBounds_toArray,List.set_cons_zero,List.set_cons_succ]
     refine gt_take (i := 9) (v := ?_) rfl (by kernel_rfl) (by kernel_rfl) (by kernel_rfl) (by kernel_rfl) (fun _ _ _ h => h) (Or.inl ⟨by rfl, ?_⟩) hHeld ?_
     rotate_left
     ·(intro X hSX;(try dsimp only at hSX);obtain ⟨g0,g1,g2,g3,g4,g5,g6,g7,g8,g9⟩ := hSX;go_simp;try with_reducible rfl)
     try simp only [Act.put,List.setIfInBounds_toArray,List.set_cons_zero,List.set_cons_succ]
     refine gt_one (i := 10) rfl (by kernel_rfl) (by kernel_rfl) (fun K hK => ?_)
     go_simp
     have hb2 : Below wr.heap.size wr (wr.drew.alloc (.cells #[.int .i64 0,.slice none 0 0,.slice none 0 0,.slice none 0 0,.bool false,.bool false,.int .i64 0,.slice none 0 0] 37)) := hbd.trans ((oneA16 wr.drew _).mono hbd.size)
     refine hK.out _ _ (KS _ hb2) (fun hHeldN => ?_)
     clear hK hHeld
     have hHeld := hHeldN
     try simp only [Act.put,List.setIfInBounds_toArray,List.set_cons_zero,List.set_cons_succ]
     refine gt_last rfl (by kernel_rfl) (by kernel_rfl) (fun K hK => ?_)
     go_simp
     refine hK.out _ _ ?_
     have hb5 : Below wr.heap.size wr (wr.alloc (.cells #[.int .i64 r.ver,.slice AJ.ta r.txt.length AJ.tc,.slice AJ.ga r.got.length AJ.gc,.slice AJ.sa r.sus.length AJ.sc,.bool r.wed,.bool r.rdy,.int .i64 r.by_,.slice AJ.ma r.trm.length AJ.mc] 37)).drew := (oneA16 wr _).trans ((Same.drewN _ 1).below.mono (oneA16 wr _).size)
     have hx5 : Bx (wr.alloc (.cells #[.int .i64 r.ver,.slice AJ.ta r.txt.length AJ.tc,.slice AJ.ga r.got.length AJ.gc,.slice AJ.sa r.sus.length AJ.sc,.bool r.wed,.bool r.rdy,.int .i64 r.by_,.slice AJ.ma r.trm.length AJ.mc] 37)).drew wr.heap.size 37 #[.int .i64 r.ver,.slice AJ.ta r.txt.length AJ.tc,.slice AJ.ga r.got.length AJ.gc,.slice AJ.sa r.sus.length AJ.sc,.bool r.wed,.bool r.rdy,.int .i64 r.by_,.slice AJ.ma r.trm.length AJ.mc] := Bx.new wr _ _
     generalize (wr.alloc (.cells #[.int .i64 r.ver,.slice AJ.ta r.txt.length AJ.tc,.slice AJ.ga r.got.length AJ.gc,.slice AJ.sa r.sus.length AJ.sc,.bool r.wed,.bool r.rdy,.int .i64 r.by_,.slice AJ.ma r.trm.length AJ.mc] 37)).drew = W5 at *
     clear hHeld KS hbd hb2 hK
     have HX5 : Hid (Bx W5 wr.heap.size 37 #[.int .i64 r.ver,.slice AJ.ta r.txt.length AJ.tc,.slice AJ.ga r.got.length AJ.gc,.slice AJ.sa r.sus.length AJ.sc,.bool r.wed,.bool r.rdy,.int .i64 r.by_,.slice AJ.ma r.trm.length AJ.mc]) := hx5
     have HB5 : Hid (Below wr.heap.size wr W5) := hb5
     obtain ⟨⟨x0,x1,x2,x3⟩,x4,x5,x6,x7⟩ := Bx.r8 hx5
     have T5 : ∀ {x v},W5.cell? x = some v → ∀ q : Bk W5,q.w.cell? x = some v := fun h q => (q.h.cell (World.block_lt_of_cell? _ _ h)).trans h
     have px3 := T5 x3
     have px4 := T5 x4
     have po3 := T5 ((hb5.cell (World.block_lt_of_cell? _ _ HO3.out)).trans HO3.out)
     have C2 : ∀ q : Bk W5,Calls Tryz.prog 152 #[.slice AJ.sa r.sus.length AJ.sc,.slice Ao.sa (rowN m.rows i).sus.length Ao.sc] q.w fun e w' => e = .returned (.bool ((rowN m.rows i).sus.all (fun x => decide (x ∈ r.sus)))) ∧ Below q.w.heap.size q.w w' := fun q => by
      have hq := HB5.out.trans (q.h.mono HB5.out.size)
      exact (allS_any AJ.sa Ao.sa AJ.sc Ao.sc r.sus (rowN m.rows i).sus q.w ((HJrs.out.below hq).sus) ((HOrs.out.below hq).sus) HJrs.out.ms HOrs.out.ms).mono (fun e w' h => ⟨h.1,by rw [h.2];exact Below.refl _ _⟩)
     clear x0 x1 x2 x3 x4 x5 x6 x7 hx5 hb5 T5
     obtain ⟨dd,hdd⟩ : ∃ dd : Bool,Hid (dd = (r.wed && (rowN m.rows i).sus.all (fun x => decide (x ∈ r.sus)))) := ⟨_,rfl⟩
     go_upto_region 8 with fail
     go_cut [63] from 51 to 63 (fun v X => v = .bool (!dd) ∧ Below W5.heap.size W5 X)
     case first =>
      rcases Bool.eq_false_or_eq_true r.wed with a1 | a1
      ·rw [a1] at px4 hdd
       clear a1
       generalize (rowN m.rows i).sus.all (fun x => decide (x ∈ r.sus)) = al at *
       cases al
       ·have hd0 : Hid (dd = false) := hdd.out
        refine wp_region_bk (by kernel_rfl) (by kernel_rfl) ?_
        repeat (go_big_quiet_step ((first | (go_at_call 152;exact bk_call _ (C2 _)) | rfl)))
        refine wpQuiet_nil ?_
        intro wE hw'
        obtain ⟨⟨w11,hb11⟩,hw''⟩ := hw'
        have hwe : wE = w11 := hw''
        clear hw''
        subst hwe
        try go_wp2_with fail
        go_meet
        case rel => exact ⟨by rw [hd0.out];rfl,hb11⟩
       ·have hd0 : Hid (dd = true) := hdd.out
        refine wp_region_bk (by kernel_rfl) (by kernel_rfl) ?_
        repeat (go_big_quiet_step ((first | (go_at_call 152;exact bk_call _ (C2 _)) | rfl)))
        refine wpQuiet_nil ?_
        intro wE hw'
        obtain ⟨⟨w11,hb11⟩,hw''⟩ := hw'
        have hwe : wE = w11 := hw''
        clear hw''
        subst hwe
        try go_wp2_with fail
        go_meet
        case rel => exact ⟨by rw [hd0.out];rfl,hb11⟩
      ·have hd0 : Hid (dd = false) := by rw [Hid,hdd.out,a1];rfl
       rw [a1] at px4
       clear a1
       refine wp_region_bk (by kernel_rfl) (by kernel_rfl) ?_
       repeat (go_big_quiet_step ((first | (go_at_call 152;exact bk_call _ (C2 _)) | rfl)))
       refine wpQuiet_nil ?_
       intro wE hw'
       obtain ⟨⟨w11,hb11⟩,hw''⟩ := hw'
       have hwe : wE = w11 := hw''
       clear hw''
       subst hwe
       try go_wp2_with fail
       go_meet
       case rel => exact ⟨by rw [hd0.out];rfl,hb11⟩
     case rest =>
      obtain ⟨rfl,hBc⟩ := hcut
      have hbV := HB5.out.trans (hBc.mono HB5.out.size)
      have HM6 : Hid (Mw w wc B o m fp g off c) := HM.out.step hbV
      have HB6 : Hid (Below w.heap.size w wc) := HBw.out.trans (hbV.mono HBw.out.size)
      have HV6 : Hid (VecN wc ta T g) := HV.out.below hbV
      have HVm6 : Hid (VecN wc AJ.ma r.trm g) := HVm.out.below hbV
      obtain ⟨⟨x0,x1,x2,x3⟩,x4,x5,x6,x7⟩ := Bx.r8 (HX5.out.below hBc)
      clear px3 px4 po3 C2 hBc hbV
      cases dd with
      | false =>
       have HZ : Hid (lead m.rows i (rowN m.rows i) L = rowN m.rows i) := by rw [Hid,HE.out,HLno.out hdd.out.symm];rfl
       go_wp2
       (try simp only [Exit.inBlock,Exit.then])
       refine bodyPost_ret (results_none rfl _ _ _) rfl ?_
       rw [HZ.out,HNO.out]
       exact ⟨rfl,HM6.out.mk' HC2.out rfl⟩
      | true =>
       have HLo2 : Hid (leadOk m.rows (rowN m.rows i) (L.take (k + 1)) = true) := by rw [Hid,HLt.out];exact hdd.out.symm
       by_cases a1 : r.rdy = true
       rotate_left
       ·have a1' : r.rdy = false := by simpa using a1
        have HBe2 : Hid (best m.rows (L.take (k + 1)) (-1,[]) = (x,T)) := by rw [Hid,HBt.out,if_neg (fun h => a1 h.1)]
        rw [a1'] at x5
        clear a1 a1'
        go_wp2
        go_roundw
        case rel => exact ⟨k + 1,x,ta,tc,T,by omega,by go_num,rfl,rfl,HBe2,HLo2,HV6.out,HB6.out,HM6.out⟩
        case measure => simp [intOf];omega
       by_cases a2 : x < r.by_
       ·have HBe2 : Hid (best m.rows (L.take (k + 1)) (-1,[]) = (r.by_,r.trm)) := by rw [Hid,HBt.out,if_pos ⟨a1,a2⟩]
        rw [a1] at x5
        clear a1
        go_wp2
        go_roundw
        case rel => exact ⟨k + 1,r.by_,AJ.ma,AJ.mc,r.trm,by omega,by go_num,rfl,rfl,HBe2,HLo2,HVm6.out,HB6.out,HM6.out⟩
        case measure => simp [intOf];omega
       ·have HBe2 : Hid (best m.rows (L.take (k + 1)) (-1,[]) = (x,T)) := by rw [Hid,HBt.out,if_neg (fun h => a2 h.2)]
        rw [a1] at x5
        clear a1
        go_wp2
        go_roundw
        case rel => exact ⟨k + 1,x,ta,tc,T,by omega,by go_num,rfl,rfl,HBe2,HLo2,HV6.out,HB6.out,HM6.out⟩
        case measure => simp [intOf];omega
    ·have k1 : ¬ ((k : Int) < (L.length : Int)) := by omega
     have HBe : Hid (best m.rows L (-1,[]) = (x,T)) := by rw [Hid,← hBe.out,List.take_of_length_le (by omega)]
     have HLo : Hid (leadOk m.rows (rowN m.rows i) L = true) := by rw [Hid,← hLo.out,List.take_of_length_le (by omega)]
     have HM : Hid (Mw w wr B o m fp g off c) := M
     have HBw : Hid (Below w.heap.size w wr) := hBw
     have HV : Hid (VecN wr ta T g) := hV
     clear M hBw hV hBe hLo
     by_cases hx0 : x < 0
     rotate_left
     ·have HEn : Hid (T = endOf m.rows L) := by rw [Hid,endOf,HBe.out,if_neg hx0]
      have HT : Hid (T = endOf m.rows L) := HEn
      have HMx : Hid (Mw w wr B o m fp g off c) := HM.out
      have HVx : Hid (VecN wr ta T g) := HV.out
      have HZ : Hid (lead m.rows i (rowN m.rows i) L = { rowN m.rows i with rdy := true,by_ := (i : Int),trm := T }) := by rw [Hid,HE.out,HLo.out,if_pos rfl,← HT.out]
      have hTl : T.length ≤ 1000000 := by
       have e := (lead_loc (R := m.rows) (i := i) (o := rowN m.rows i) (L := L) hr hw ok.lt (by intro e;rw [e] at hne;simp at hne) (fun k hk => ok.ok k (HL.out k hk))).1.ml
       rw [HZ.out] at e
       have e2 : T.length ≤ n := e
       omega
      obtain ⟨q1,q2,M8⟩ := HMx.out.put hil (j := 5) (x := .bool (rowN m.rows i).rdy) (y := .bool true) (r' := { rowN m.rows i with rdy := true }) rfl rfl
      have HV8 : Hid (VecN (wr.setCell ⟨g,off + i * 8 + 5,none⟩ (.bool true)) ta T g) := HVx.out.set _ _
      have HM8 : Hid (Mw w (wr.setCell ⟨g,off + i * 8 + 5,none⟩ (.bool true)) B o { m with rows := m.rows.set i { rowN m.rows i with rdy := true } } fp g off c) := M8
      clear M8
      go_upto_region 18 with fail
      go_upto_region 19 with fail
      generalize wr.setCell ⟨g,off + i * 8 + 5,none⟩ (.bool true) = V1 at *
      clear q1 q2
      generalize hr1 : ({ rowN m.rows i with rdy := true } : Rw) = r1 at *
      have hs1 : rowN (m.rows.set i r1) i = r1 := rowN_self hil
      have hil1 : i < (m.rows.set i r1).length := by rw [List.length_set];exact hil
      obtain ⟨q1,q2,M9⟩ := HM8.out.put hil1 (j := 6) (x := .int .i64 r1.by_) (y := .int .i64 (i : Int)) (r' := { r1 with by_ := (i : Int) }) (by rw [hs1];rfl) (by rw [hs1];rfl)
      rw [List.set_set] at M9
      have y0 := HM8.out.id'.1
      simp only at y0
      rw [ok.hid] at y0
      have HV9 : Hid (VecN (V1.setCell ⟨g,off + i * 8 + 6,none⟩ (.int .i64 (i : Int))) ta T g) := HV8.out.set _ _
      have HM9 : Hid (Mw w (V1.setCell ⟨g,off + i * 8 + 6,none⟩ (.int .i64 (i : Int))) B o { m with rows := m.rows.set i { r1 with by_ := (i : Int) } } fp g off c) := M9
      have HR1 : Hid (({ rowN m.rows i with rdy := true } : Rw) = r1) := hr1
      clear M9 hs1 hr1
      go_upto_region 20 with fail
      generalize V1.setCell ⟨g,off + i * 8 + 6,none⟩ (.int .i64 (i : Int)) = V2 at *
      clear q1 q2 y0
      generalize hr2 : ({ r1 with by_ := (i : Int) } : Rw) = r2 at *
      have hs2 : rowN (m.rows.set i r2) i = r2 := rowN_self hil
      have hil2 : i < (m.rows.set i r2).length := by rw [List.length_set];exact hil
      have hA := vec_copied (c := tc) HV9.out.vec hTl
      obtain ⟨u,f,hu,hfz,how,hlt7,hset⟩ := HM9.out.at hil2 (j := 7) (cl := icl r2.trm) (by simp only [hs2];rfl)
      have HS : Hid (∀ (X1 : World) (u' : Value) (f' : Fp),Below V2.heap.size V2 X1 → Cel.ow X1 (icl T) u' f' → (∀ b,f' b → V2.heap.size ≤ b) → X1.cell? ⟨g,off + i * 8 + 7,none⟩ = some u ∧ X1.frozen? ⟨g,off + i * 8 + 7,none⟩ = false ∧ Mw w (X1.setCell ⟨g,off + i * 8 + 7,none⟩ u') B o { m with rows := m.rows.set i { r2 with trm := T } } fp g off c) := fun X1 u' f' h1 h2 h3 => by
       have := hset X1 (icl T) u' f' { r2 with trm := T } (by simp only [hs2];rfl) (Wrt.of_below h1) h2 (fun b hb => .inr (h3 b hb))
       simp only [List.set_set] at this
       exact ⟨this.1,this.2.1,this.2.2.1⟩
      have HFin : Hid (({ r2 with trm := T } : Rw) = lead m.rows i (rowN m.rows i) L) := by rw [Hid,HZ.out,← hr2,← HR1.out]
      clear hset how hlt7 hu hfz hs2 hr2
      go_wp2_with (at_builtin;refine wpList_append_of (by rfl) _ _ _ _ (by rfl) _ _ (by rfl) (by rfl) hA ⟨rfl,rfl,rfl,rfl⟩ ?_;rintro v1 w1 ⟨a1,e1,f1,rfl,q1,q2,q3⟩;obtain ⟨z1,z2,M10⟩ := HS.out w1 _ f1 q3 q1 q2;have HM10 : Hid (Mw w (w1.setCell ⟨g,off + i * 8 + 7,none⟩ (.slice a1 T.length e1)) B o { m with rows := m.rows.set i { r2 with trm := T } } fp g off c) := M10;clear M10 q1 q2 q3 hA HS)
      go_end0
      rw [← HFin.out]
      exact ⟨rfl,HM10.out.mk' HC2.out (set_own _)⟩
     ·have HEn : Hid (endOf m.rows L = meets m.rows L) := by rw [Hid,endOf,HBe.out,if_pos hx0]
      have hJn : L.getD 0 0 < n := HL.out _ (getD_memN hne)
      have hJl : L.getD 0 0 < m.rows.length := by rw [ok.len];exact hJn
      have hLv := HLv.out wr HBw.out
      rcases hLv.2.2 with hz | ⟨lb,lo,hla,hlc⟩
      ·rw [lN_len] at hz;omega
      have hlk := hlc 0 (by rw [lN_len];exact hne)
      rw [el_lN hne] at hlk
      obtain ⟨AJ,hRV,hVg,hVm⟩ := HM.out.rowE ok.fit hJl
      have HMt : Hid (meetT m.rows L 1 = (rowN m.rows (L.getD 0 0)).got) := meetT_one hne
      have n1 : (0 : Int) < (L.length : Int) := by omega
      generalize L.getD 0 0 = J at *
      have J0 : (0 : Int) ≤ (J : Int) := by omega
      have J1 : (J : Int) < (m.rows.length : Int) := by omega
      obtain ⟨⟨⟨d0,d1,d2,d3⟩,d4,d5,d6,d7⟩,hJrs⟩ := hRV
      have crw := HM.out.rws
      have T5 : ∀ {x v},wr.cell? x = some v → ∀ q : Bk wr,q.w.cell? x = some v := fun h q => (q.h.cell (World.block_lt_of_cell? _ _ h)).trans h
      have p2 := T5 crw
      have pl := T5 hlk
      have pg := T5 d2
      simp only [Nat.add_zero] at pl
      have HVg : Hid (VecN wr AJ.ga (rowN m.rows J).got g) := hVg
      subst hla
      clear d0 d1 d2 d3 d4 d5 d6 d7 hJrs crw hlk hlc hVg hVm T5 hLv
      go_wp2_with fail
      refine wp_region_bk (by kernel_rfl) (by kernel_rfl) ?_
      repeat (go_big_quiet_step ((first | rfl)))
      refine wpQuiet_nil ?_
      intro wE hw'
      obtain ⟨⟨w11,hb11⟩,hw''⟩ := hw'
      have hwe : wE = w11 := hw''
      clear hw''
      subst hwe
      have HM5 : Hid (Mw w wE B o m fp g off c) := HM.out.step hb11
      have HB5 : Hid (Below w.heap.size w wE) := HBw.out.trans (hb11.mono HBw.out.size)
      have HV5 : Hid (VecN wE AJ.ga (rowN m.rows J).got g) := HVg.out.below hb11
      have hgw : g < w.heap.size ∨ True := .inr trivial
      clear p2 pl pg hb11 hgw
      generalize (rowN m.rows J).got = T1 at *
      go_wp2_with fail
      go_loopw [6,9] (fun tr v wx => ∃ (k : Nat) (ta : Option Addr) (tc : Nat) (T : List Int),1 ≤ k ∧ k ≤ L.length ∧ v = .int .i64 (k : Int) ∧ tr = .slice ta T.length tc ∧ Hid (meetT m.rows L k = T) ∧ VecN wx ta T g ∧ Below w.heap.size w wx ∧ Mw w wx B o m fp g off c) (fun _ v _ => L.length - (intOf v).toNat)
      case atStart => exact ⟨1,AJ.ga,AJ.gc,T1,Nat.le_refl _,hne,rfl,rfl,HMt,HV5.out,HB5.out,HM5.out⟩
      case round =>
       obtain ⟨k,ta,tc,T,hk1,hk,rfl,rfl,hMe,hV,hBw,M⟩ := hrel
       by_cases hlt : k < L.length
       ·have hJn : L.getD k 0 < n := HL.out _ (getD_memN hlt)
        have hJl : L.getD k 0 < m.rows.length := by rw [ok.len];exact hJn
        have hLv := HLv.out wr hBw
        rcases hLv.2.2 with hz | ⟨lb2,lo2,hla,hlc⟩
        ·rw [lN_len] at hz;omega
        have hlk := hlc k (by rw [lN_len];exact hlt)
        rw [el_lN hlt] at hlk
        obtain ⟨AJ2,hRV,hVg,hVm⟩ := M.rowE ok.fit hJl
        have HMn : Hid (meetT m.rows L (k + 1) = pairB min T (rowN m.rows (L.getD k 0)).got) := by rw [Hid,meetT_next (by omega) hlt,hMe.out]
        have hokJ := ok.ok _ hJn
        generalize L.getD k 0 = J2 at *
        have k1 : (k : Int) < (L.length : Int) := by omega
        have k0 : (0 : Int) ≤ (k : Int) := by omega
        have J20 : (0 : Int) ≤ (J2 : Int) := by omega
        have J21 : (J2 : Int) < (m.rows.length : Int) := by omega
        have crw := M.rws
        obtain ⟨⟨⟨d0,d1,d2,d3⟩,d4,d5,d6,d7⟩,hJrs⟩ := hRV
        cases hla
        have hbd : Below wr.heap.size wr wr.drew := (Same.drewN wr 1).below
        have hTl : T.length ≤ maxLen := by
         have : T.length ≤ 8 ∨ T.length ≤ n := by
          rw [← hMe.out]
          unfold meetT
          cases et : L.take k with
          | nil => exact .inl (by simp [meets])
          | cons x t =>
           refine meets_len (n := n) (fun j hj => ?_)
           exact (ok.ok j (HL.out j (List.mem_of_mem_take (by rw [et];exact hj)))).gl
         unfold maxLen
         omega
        have hM := specMeet_any ta AJ2.ga T.length tc (rowN m.rows J2).got.length AJ2.gc T (rowN m.rows J2).got wr.drew (hV.vec.below hbd (Nat.le_refl _)) (hJrs.got.below hbd (Nat.le_refl _)) hTl hJrs.mg
        have HM7 : Hid (Mw w wr B o m fp g off c) := M
        have HB7 : Hid (Below w.heap.size w wr) := hBw
        have KS : ∀ X,Below wr.heap.size wr X → (X.cell? ⟨B,o + 2,none⟩ = some (.slice (some ⟨g,off,none⟩) m.rows.length c) ∧ X.cell? ⟨lb,lo + k,none⟩ = some (.int .i64 (J2 : Int)) ∧ X.cell? ⟨g,off + J2 * 8 + 2,none⟩ = some (.slice AJ2.ga (rowN m.rows J2).got.length AJ2.gc)) := fun X hX => by
         have t : ∀ {x v},wr.cell? x = some v → X.cell? x = some v := fun h => (hX.cell (World.block_lt_of_cell? _ _ h)).trans h
         exact ⟨t crw,t hlk,t d2⟩
        have hgwr : g < wr.heap.size := World.block_lt_of_cell? _ _ d2
        generalize (rowN m.rows J2).got = T2 at *
        clear d0 d1 d2 d3 d4 d5 d6 d7 hJrs crw hlk hlc hVg hVm hLv M hBw hV hMe
        go_wp2_with fail
        refine gt_begin (S := fun X : World => X.cell? ⟨B,o + 2,none⟩ = some (.slice (some ⟨g,off,none⟩) m.rows.length c) ∧ X.cell? ⟨lb,lo + k,none⟩ = some (.int .i64 (J2 : Int)) ∧ X.cell? ⟨g,off + J2 * 8 + 2,none⟩ = some (.slice AJ2.ga T2.length AJ2.gc)) 14 hmix (by kernel_rfl) ?_
        have hHeld : (fun X : World => X.cell? ⟨B,o + 2,none⟩ = some (.slice (some ⟨g,off,none⟩) m.rows.length c) ∧ X.cell? ⟨lb,lo + k,none⟩ = some (.int .i64 (J2 : Int)) ∧ X.cell? ⟨g,off + J2 * 8 + 2,none⟩ = some (.slice AJ2.ga T2.length AJ2.gc)) wr.drew := (KS _ hbd)
        refine gt_takeA (i := 0) (v := ?_) rfl (by kernel_rfl) (by kernel_rfl) (by kernel_rfl) (by kernel_rfl) (fun _ _ _ h => h) (Or.inl ⟨by rfl, ?_⟩) hHeld ?_
        rotate_left
        ·(intro X hSX;(try dsimp only at hSX);obtain ⟨g0,g1,g2⟩ := hSX;go_simp;try with_reducible rfl)
        try simp only [Act.put,List.setIfInBounds_toArray,List.set_cons_zero,List.set_cons_succ]
        refine gt_takeA (i := 1) (v := ?_) rfl (by kernel_rfl) (by kernel_rfl) (by kernel_rfl) (by kernel_rfl) (fun _ _ _ h => h) (Or.inl ⟨by rfl, ?_⟩) hHeld ?_
        rotate_left
        ·(intro X hSX;(try dsimp only at hSX);obtain ⟨g0,g1,g2⟩ := hSX;go_simp;try with_reducible rfl)
        try simp only [Act.put,List.setIfInBounds_toArray,List.set_cons_zero,List.set_cons_succ]
        refine gt_takeA (i := 2) (v := ?_) rfl (by kernel_rfl) (by kernel_rfl) (by kernel_rfl) (by kernel_rfl) (fun _ _ _ h => h) (Or.inl ⟨by rfl, ?_⟩) hHeld ?_
        rotate_left
        ·(intro X hSX;(try dsimp only at hSX);obtain ⟨g0,g1,g2⟩ := hSX;go_simp;try with_reducible rfl)
        try simp only [Act.put,List.setIfInBounds_toArray,List.set_cons_zero,List.set_cons_succ]
        refine gt_takeA (i := 3) (v := ?_) rfl (by kernel_rfl) (by kernel_rfl) (by kernel_rfl) (by kernel_rfl) (fun _ _ _ h => h) (Or.inl ⟨by rfl, ?_⟩) hHeld ?_
        rotate_left
        ·(intro X hSX;(try dsimp only at hSX);obtain ⟨g0,g1,g2⟩ := hSX;go_simp;try with_reducible rfl)
        try simp only [Act.put,List.setIfInBounds_toArray,List.set_cons_zero,List.set_cons_succ]
        refine gt_takeA (i := 4) (v := ?_) rfl (by kernel_rfl) (by kernel_rfl) (by kernel_rfl) (by kernel_rfl) (fun _ _ _ h => h) (Or.inl ⟨by rfl, ?_⟩) hHeld ?_
        rotate_left
        ·(intro X hSX;(try dsimp only at hSX);obtain ⟨g0,g1,g2⟩ := hSX;go_simp;try with_reducible rfl)
        try simp only [Act.put,List.setIfInBounds_toArray,List.set_cons_zero,List.set_cons_succ]
        refine gt_takeA (i := 5) (v := ?_) rfl (by kernel_rfl) (by kernel_rfl) (by kernel_rfl) (by kernel_rfl) (fun _ _ _ h => h) (Or.inl ⟨by rfl, ?_⟩) hHeld ?_
        rotate_left
        ·(intro X hSX;(try dsimp only at hSX);obtain ⟨g0,g1,g2⟩ := hSX;go_simp;try with_reducible rfl)
        try simp only [Act.put,List.setIfInBounds_toArray,List.set_cons_zero,List.set_cons_succ]
        refine gt_takeA (i := 6) (v := ?_) rfl (by kernel_rfl) (by kernel_rfl) (by kernel_rfl) (by kernel_rfl) (fun _ _ _ h => h) (Or.inl ⟨by rfl, ?_⟩) hHeld ?_
        rotate_left
        ·(intro X hSX;(try dsimp only at hSX);obtain ⟨g0,g1,g2⟩ := hSX;go_simp;try with_reducible rfl)
        try simp only [Act.put,List.setIfInBounds_toArray,List.set_cons_zero,List.set_cons_succ]
        refine gt_takeA (i := 7) (v := ?_) rfl (by kernel_rfl) (by kernel_rfl) (by kernel_rfl) (by kernel_rfl) (fun _ _ _ h => h) (Or.inl ⟨by rfl, ?_⟩) hHeld ?_
        rotate_left
        ·(intro X hSX;(try dsimp only at hSX);obtain ⟨g0,g1,g2⟩ := hSX;go_simp;try with_reducible rfl)
        try simp only [Act.put,List.setIfInBounds_toArray,List.set_cons_zero,List.set_cons_succ]
        refine gt_takeA (i := 8) (v := ?_) rfl (by kernel_rfl) (by kernel_rfl) (by kernel_rfl) (by kernel_rfl) (fun _ _ _ h => h) (Or.inl ⟨by rfl, ?_⟩) hHeld ?_
        rotate_left
        ·(intro X hSX;(try dsimp only at hSX);obtain ⟨g0,g1,g2⟩ := hSX;go_simp;try with_reducible rfl)
        try simp only [Act.put,List.setIfInBounds_toArray,List.set_cons_zero,List.set_cons_succ]
        refine gt_takeA (i := 9) (v := ?_) rfl (by kernel_rfl) (by kernel_rfl) (by kernel_rfl) (by kernel_rfl) (fun _ _ _ h => h) (Or.inl ⟨by rfl, ?_⟩) hHeld ?_
        rotate_left
        ·(intro X hSX;(try dsimp only at hSX);obtain ⟨g0,g1,g2⟩ := hSX;go_simp;try with_reducible rfl)
        try simp only [Act.put,List.setIfInBounds_toArray,List.set_cons_zero,List.set_cons_succ]
        refine gt_takeA (i := 10) (v := ?_) rfl (by kernel_rfl) (by kernel_rfl) (by kernel_rfl) (by kernel_rfl) (fun _ _ _ h => h) (Or.inl ⟨by rfl, ?_⟩) hHeld ?_
        rotate_left
        ·(intro X hSX;(try dsimp only at hSX);obtain ⟨g0,g1,g2⟩ := hSX;go_simp;try with_reducible rfl)
        try simp only [Act.put,List.setIfInBounds_toArray,List.set_cons_zero,List.set_cons_succ]
        refine gt_takeA (i := 11) (v := ?_) rfl (by kernel_rfl) (by kernel_rfl) (by kernel_rfl) (by kernel_rfl) (fun _ _ _ h => h) (Or.inl ⟨by rfl, ?_⟩) hHeld ?_
        rotate_left
        ·(intro X hSX;(try dsimp only at hSX);obtain ⟨g0,g1,g2⟩ := hSX;go_simp;try with_reducible rfl)
        try simp only [Act.put,List.setIfInBounds_toArray,List.set_cons_zero,List.set_cons_succ]
        refine gt_one (i := 12) rfl (by kernel_rfl) (by kernel_rfl) (fun K hK => ?_)
        go_simp
        go_at_call 153
        refine hM.mono ?_
        rintro e w1 ⟨g1,cc1,rfl,hg1,hO1,hb1⟩
        have hb2 : Below wr.heap.size wr w1 := hbd.trans (hb1.mono hbd.size)
        have HM8 : Hid (Mw w w1 B o m fp g off c) := HM7.out.step hb2
        have HB8 : Hid (Below w.heap.size w w1) := HB7.out.trans (hb2.mono HB7.out.size)
        have hg1' : wr.heap.size ≤ g1 := hg1
        have HV8 : Hid (VecN w1 (some ⟨g1,0,none⟩) (pairB min T T2) g) := ⟨hO1.vec (pairB_fits min (fun x y => by omega) T T2),.inr (fun x hx => by cases hx;show g1 ≠ g;omega)⟩
        refine hK.out _ _ (KS _ hb2) (fun hHeldN => ?_)
        clear hK hHeld
        have hHeld := hHeldN
        try simp only [Act.put,List.setIfInBounds_toArray,List.set_cons_zero,List.set_cons_succ]
        refine gt_pure (i := 13) (v := ?_) rfl (by kernel_rfl) (by kernel_rfl) (by kernel_rfl) (fun _ _ _ h => h) (Or.inl ⟨by rfl, ?_⟩) ?_
        rotate_left
        ·(intro X;go_simp;try with_reducible rfl)
        try simp only [Act.put,List.setIfInBounds_toArray,List.set_cons_zero,List.set_cons_succ]
        refine gt_end (by kernel_rfl) ?_
        clear hM KS hbd hb2 hb1 hO1 hg1 hHeld
        generalize pairB min T T2 = T3 at *
        go_wp2
        go_roundw
        case rel => exact ⟨k + 1,_,_,T3,by omega,by omega,by go_num,rfl,HMn,HV8.out,HB8.out,HM8.out⟩
        case measure => simp [intOf];omega
       ·have k1 : ¬ ((k : Int) < (L.length : Int)) := by omega
        have HT : Hid (T = endOf m.rows L) := by rw [Hid,HEn.out,← meetT_all,← hMe.out,show k = L.length by omega]
        have HM7 : Hid (Mw w wr B o m fp g off c) := M
        have HB7 : Hid (Below w.heap.size w wr) := hBw
        have HV7 : Hid (VecN wr ta T g) := hV
        clear M hBw hV hMe
        have HMx : Hid (Mw w wr B o m fp g off c) := HM7.out
        have HVx : Hid (VecN wr ta T g) := HV7.out
        have HZ : Hid (lead m.rows i (rowN m.rows i) L = { rowN m.rows i with rdy := true,by_ := (i : Int),trm := T }) := by rw [Hid,HE.out,HLo.out,if_pos rfl,← HT.out]
        have hTl : T.length ≤ 1000000 := by
         have e := (lead_loc (R := m.rows) (i := i) (o := rowN m.rows i) (L := L) hr hw ok.lt (by intro e;rw [e] at hne;simp at hne) (fun k hk => ok.ok k (HL.out k hk))).1.ml
         rw [HZ.out] at e
         have e2 : T.length ≤ n := e
         omega
        obtain ⟨q1,q2,M8⟩ := HMx.out.put hil (j := 5) (x := .bool (rowN m.rows i).rdy) (y := .bool true) (r' := { rowN m.rows i with rdy := true }) rfl rfl
        have HV8 : Hid (VecN (wr.setCell ⟨g,off + i * 8 + 5,none⟩ (.bool true)) ta T g) := HVx.out.set _ _
        have HM8 : Hid (Mw w (wr.setCell ⟨g,off + i * 8 + 5,none⟩ (.bool true)) B o { m with rows := m.rows.set i { rowN m.rows i with rdy := true } } fp g off c) := M8
        clear M8
        go_upto_region 18 with fail
        go_upto_region 19 with fail
        generalize wr.setCell ⟨g,off + i * 8 + 5,none⟩ (.bool true) = V1 at *
        clear q1 q2
        generalize hr1 : ({ rowN m.rows i with rdy := true } : Rw) = r1 at *
        have hs1 : rowN (m.rows.set i r1) i = r1 := rowN_self hil
        have hil1 : i < (m.rows.set i r1).length := by rw [List.length_set];exact hil
        obtain ⟨q1,q2,M9⟩ := HM8.out.put hil1 (j := 6) (x := .int .i64 r1.by_) (y := .int .i64 (i : Int)) (r' := { r1 with by_ := (i : Int) }) (by rw [hs1];rfl) (by rw [hs1];rfl)
        rw [List.set_set] at M9
        have y0 := HM8.out.id'.1
        simp only at y0
        rw [ok.hid] at y0
        have HV9 : Hid (VecN (V1.setCell ⟨g,off + i * 8 + 6,none⟩ (.int .i64 (i : Int))) ta T g) := HV8.out.set _ _
        have HM9 : Hid (Mw w (V1.setCell ⟨g,off + i * 8 + 6,none⟩ (.int .i64 (i : Int))) B o { m with rows := m.rows.set i { r1 with by_ := (i : Int) } } fp g off c) := M9
        have HR1 : Hid (({ rowN m.rows i with rdy := true } : Rw) = r1) := hr1
        clear M9 hs1 hr1
        go_upto_region 20 with fail
        generalize V1.setCell ⟨g,off + i * 8 + 6,none⟩ (.int .i64 (i : Int)) = V2 at *
        clear q1 q2 y0
        generalize hr2 : ({ r1 with by_ := (i : Int) } : Rw) = r2 at *
        have hs2 : rowN (m.rows.set i r2) i = r2 := rowN_self hil
        have hil2 : i < (m.rows.set i r2).length := by rw [List.length_set];exact hil
        have hA := vec_copied (c := tc) HV9.out.vec hTl
        obtain ⟨u,f,hu,hfz,how,hlt7,hset⟩ := HM9.out.at hil2 (j := 7) (cl := icl r2.trm) (by simp only [hs2];rfl)
        have HS : Hid (∀ (X1 : World) (u' : Value) (f' : Fp),Below V2.heap.size V2 X1 → Cel.ow X1 (icl T) u' f' → (∀ b,f' b → V2.heap.size ≤ b) → X1.cell? ⟨g,off + i * 8 + 7,none⟩ = some u ∧ X1.frozen? ⟨g,off + i * 8 + 7,none⟩ = false ∧ Mw w (X1.setCell ⟨g,off + i * 8 + 7,none⟩ u') B o { m with rows := m.rows.set i { r2 with trm := T } } fp g off c) := fun X1 u' f' h1 h2 h3 => by
         have := hset X1 (icl T) u' f' { r2 with trm := T } (by simp only [hs2];rfl) (Wrt.of_below h1) h2 (fun b hb => .inr (h3 b hb))
         simp only [List.set_set] at this
         exact ⟨this.1,this.2.1,this.2.2.1⟩
        have HFin : Hid (({ r2 with trm := T } : Rw) = lead m.rows i (rowN m.rows i) L) := by rw [Hid,HZ.out,← hr2,← HR1.out]
        clear hset how hlt7 hu hfz hs2 hr2
        go_wp2_with (at_builtin;refine wpList_append_of (by rfl) _ _ _ _ (by rfl) _ _ (by rfl) (by rfl) hA ⟨rfl,rfl,rfl,rfl⟩ ?_;rintro v1 w1 ⟨a1,e1,f1,rfl,q1,q2,q3⟩;obtain ⟨z1,z2,M10⟩ := HS.out w1 _ f1 q3 q1 q2;have HM10 : Hid (Mw w (w1.setCell ⟨g,off + i * 8 + 7,none⟩ (.slice a1 T.length e1)) B o { m with rows := m.rows.set i { r2 with trm := T } } fp g off c) := M10;clear M10 q1 q2 q3 hA HS)
        go_end0
        rw [← HFin.out]
        exact ⟨rfl,HM10.out.mk' HC2.out (set_own _)⟩
end Go.Proofs.YtidnfdobljihoaaGreat
namespace Go.Proofs.YtidnfdobljihoaaGreat
set_option linter.unusedVariables false
set_option linter.unusedSimpArgs false
open Go.RowKit Go.Sort
theorem okCt_all {cs : List Int} (h : okCt cs = true) : okB cs = true ∧ ∀ i,i < cs.length → 0 ≤ el cs i ∧ el cs i ≤ 100000 := by
 simp only [okCt,Bool.and_eq_true,List.all_eq_true,decide_eq_true_eq] at h
 exact ⟨h.1,fun i hi => ⟨(okB_el h.1 hi).1,h.2 _ (el_mem hi)⟩⟩
theorem okCt_of {cs : List Int} (h : okB cs = true) (hc : ∀ i,i < cs.length → el cs i ≤ 100000) : okCt cs = true := by
 simp only [okCt,Bool.and_eq_true,List.all_eq_true,decide_eq_true_eq]
 refine ⟨h,fun c hm => ?_⟩
 obtain ⟨i,hi,rfl⟩ := List.getElem_of_mem hm
 have := hc i hi
 rwa [el_eq hi] at this
end Go.Proofs.YtidnfdobljihoaaGreat
namespace Go.Proofs.YtidnfdobljihoaaGreat
set_option linter.unusedVariables false
set_option linter.unusedSimpArgs false
open Go.RowKit Go.Sort
theorem wrow_le (cs : List Int) (k j : Nat) : (wrow cs k j).length ≤ j := by
 unfold wrow
 rw [List.length_map]
 exact Nat.le_trans (List.length_filter_le _ _) (by simp)
theorem wovs_le (cs : List Int) (M : Nat) : (wovs cs M).length ≤ M * cs.length := by
 induction M with
 | zero => simp [wovs]
 | succ M ih =>
  rw [wovs_succ,List.length_append,Nat.succ_mul]
  have := wrow_le cs M cs.length
  omega
def mst (cs : List Int) (k : Nat) : Int := hiL 0 (cs.take k)
theorem mst_succ {cs : List Int} {k : Nat} (h : k < cs.length) : mst cs (k + 1) = max (mst cs k) (el cs k) := by
 unfold mst
 rw [List.take_succ_eq_append_getElem h,hiL_snoc,el_eq h]
theorem mst_bd {cs : List Int} (hc : ∀ i,i < cs.length → 0 ≤ el cs i ∧ el cs i ≤ 100000) : ∀ k,k ≤ cs.length → 0 ≤ mst cs k ∧ mst cs k ≤ 100000 ∧ ∀ i,i < k → el cs i ≤ mst cs k := by
 intro k
 induction k with
 | zero => intro _;exact ⟨by simp [mst,hiL],by simp [mst,hiL],fun i hi => by omega⟩
 | succ k ih =>
  intro hk
  obtain ⟨h1,h2,h3⟩ := ih (by omega)
  have h4 := hc k (by omega)
  rw [mst_succ (by omega)]
  refine ⟨by omega,by omega,fun i hi => ?_⟩
  by_cases e : i = k
  ·subst e;omega
  ·have := h3 i (by omega);omega
def IsWoven (cs Z : List Int) : Prop := (okCt cs = true ∧ sumL cs ≤ 200 ∧ IsWov cs Z) ∨ ((okCt cs = false ∨ 200 < sumL cs) ∧ Z = [])
theorem IsWoven.unique {cs Z Y : List Int} (h : IsWoven cs Z) (k : IsWoven cs Y) : Z = Y := by
 rcases h with ⟨h1,h2,h3⟩ | ⟨h1,h2⟩ <;> rcases k with ⟨k1,k2,k3⟩ | ⟨k1,k2⟩
 ·exact h3.unique k3
 ·rcases k1 with k1 | k1
  ·rw [h1] at k1;cases k1
  ·omega
 ·rcases h1 with h1 | h1
  ·rw [k1] at h1;cases h1
  ·omega
 ·rw [h2,k2]
theorem wovs_fits {cs : List Int} {M : Nat} (hl : cs.length ≤ 8) (hM : M ≤ 100000) : Fits (wovs cs M) := fun q hq => by
 obtain ⟨k,i,hk,hi,_,rfl⟩ := mem_wovs.1 hq
 have h1 : (cs.length : Int) * (k : Int) ≤ 8 * 100000 := Int.mul_le_mul (by omega) (by omega) (by omega) (by omega)
 have h0 : 0 ≤ (cs.length : Int) * (k : Int) := Int.mul_nonneg (by omega) (by omega)
 omega
set_option maxRecDepth 100000 in
set_option maxHeartbeats 3200000 in
theorem l7Woven_any (b off cap : Nat) (cs : List Int) (len : Nat) (w : World) (hl : cs.length = len) (hlen : len ≤ 8) (hc : ∀ i,i < len → w.cell? ⟨b,off + i,none⟩ = some (.int .i64 (el cs i))) (hall : ∀ i,i < cs.length → 0 ≤ el cs i ∧ el cs i ≤ 100000) :
  Calls Tryz.prog 155 #[.slice (some ⟨b,off,none⟩) len cap] w fun e w' => AnsN w w' e (wovs cs (mst cs len).toNat) := by
 obtain ⟨i0,hi0,hz0,hz1,hz2⟩ := info_parts2n Tryz.info2n
 have HL : Hid (cs.length = len) := hl
 have HC : Hid (∀ X,Below w.heap.size w X → ∀ i,i < len → X.cell? ⟨b,off + i,none⟩ = some (.int .i64 (el cs i))) := fun X hX i hi => (hX.cell (World.block_lt_of_cell? _ _ (hc i hi))).trans (hc i hi)
 have HMB : Hid (∀ k,k ≤ len → 0 ≤ mst cs k ∧ mst cs k ≤ 100000) := fun k hk => by have := mst_bd hall k (by omega);exact ⟨this.1,this.2.1⟩
 have B0 : Hid (Below w.heap.size w (w.alloc (.cells #[] 2))) := (Below.refl _ _).alloc (Nat.le_refl _) _
 have HMS : Hid (∀ k,k < len → mst cs (k + 1) = max (mst cs k) (el cs k)) := fun k hk => mst_succ (by omega)
 clear hc hall hl
 go_enter Tryz.func155,Tryz.ntmps155
 go_wp2
 go_loop [5,6] (fun m i => ∃ k : Nat,k ≤ len ∧ i = .int .i64 k ∧ m = .int .i64 (mst cs k)) (fun _ i => len - (intOf i).toNat)
 case atStart => exact ⟨0,Nat.zero_le _,rfl,rfl⟩
 case round =>
  obtain ⟨k,hk,rfl,rfl⟩ := hrel
  by_cases hlt : k < len
  ·have ck := HC.out _ B0.out k hlt
   have HS' : Hid (mst cs (k + 1) = max (mst cs k) (el cs k)) := HMS.out k hlt
   have k1 : (k : Int) < (len : Int) := by omega
   have k0 : (0 : Int) ≤ (k : Int) := by omega
   generalize mst cs k = R at *
   generalize el cs k = x at *
   go_wp2_with (go_at_call 58;refine (l1Max_any _ _ _).mono ?_;rintro e w' ⟨rfl,rfl⟩)
   go_round
   case rel => exact ⟨k + 1,by omega,by go_num,by rw [HS'.out]⟩
   case measure => simp [intOf];omega
  ·have hkl : k = len := by omega
   subst hkl
   obtain ⟨hm0,hm1⟩ := HMB.out k (Nat.le_refl _)
   obtain ⟨M,hM⟩ : ∃ M : Nat,mst cs k = (M : Int) := ⟨(mst cs k).toNat,by omega⟩
   have HM : Hid ((mst cs k).toNat = M) := by rw [Hid,hM];simp
   have hM1 : M ≤ 100000 := by omega
   rw [hM]
   clear hM hm0 hm1 hlt
   go_wp2
   go_loopw [3,7] (fun v i wr => ∃ (p g og cg : Nat),p ≤ M ∧ i = .int .i64 p ∧ v = .slice (some ⟨g,og,none⟩) (wovs cs p).length cg ∧ w.heap.size ≤ g ∧ OI wr g og (wovs cs p).length cg (wovs cs p) ∧ Below w.heap.size w wr) (fun _ i _ => M - (intOf i).toNat)
   case atStart => exact ⟨0,w.heap.size,0,0,Nat.zero_le _,rfl,rfl,Nat.le_refl _,num_empty w 2,B0.out⟩
   case round =>
    obtain ⟨p,g,og,cg,hp,rfl,rfl,hg,hO,hB⟩ := hrel
    have KO : Hid (OI wr g og (wovs cs p).length cg (wovs cs p)) := hO
    have KB : Hid (Below w.heap.size w wr) := hB
    have KG : Hid (w.heap.size ≤ g) := hg
    clear hO hB hg
    by_cases hpl : p < M
    ·have p1 : (p : Int) < (M : Int) := by omega
     go_wp2
     go_loopw [3,8] (fun v i wx => ∃ (j g og cg : Nat),j ≤ k ∧ i = .int .i64 j ∧ v = .slice (some ⟨g,og,none⟩) (wovs cs p ++ wrow cs p j).length cg ∧ w.heap.size ≤ g ∧ OI wx g og (wovs cs p ++ wrow cs p j).length cg (wovs cs p ++ wrow cs p j) ∧ Below w.heap.size w wx) (fun _ i _ => k - (intOf i).toNat)
     case atStart => exact ⟨0,g,og,cg,Nat.zero_le _,rfl,by simp [wrow],KG.out,by simpa [wrow] using KO.out,KB.out⟩
     case round =>
      obtain ⟨j,g,og,cg,hj,rfl,rfl,hg,hO,hB⟩ := hrel
      have LO : Hid (OI wr g og (wovs cs p ++ wrow cs p j).length cg (wovs cs p ++ wrow cs p j)) := hO
      have LB : Hid (Below w.heap.size w wr) := hB
      have LG : Hid (w.heap.size ≤ g) := hg
      have LLE : (wovs cs p ++ wrow cs p j).length ≤ 1000000 := by
       rw [List.length_append]
       have h1 := wovs_le cs p
       have h2 := wrow_le cs p j
       rw [HL.out] at h1
       have h3 : p * k ≤ 100000 * 8 := Nat.mul_le_mul (by omega) hlen
       omega
      clear hO hg KO KB KG
      by_cases hjl : j < k
      ·have cj := HC.out _ hB j hjl
       have j1 : (j : Int) < (k : Int) := by omega
       have j0 : (0 : Int) ≤ (j : Int) := by omega
       have HR : Hid (wovs cs p ++ wrow cs p (j + 1) = (wovs cs p ++ wrow cs p j) ++ (if (p : Int) < el cs j then [(k : Int) * (p : Int) + (j : Int)] else [])) := by rw [Hid,wrow_succ,List.append_assoc,HL.out]
       have m0 : 0 ≤ (k : Int) * (p : Int) := Int.mul_nonneg (by omega) (by omega)
       have m1 : (k : Int) * (p : Int) ≤ 8 * 100000 := Int.mul_le_mul (by omega) (by omega) (by omega) (by omega)
       clear hB
       generalize hW : wovs cs p ++ wrow cs p (j + 1) = W1 at *
       generalize wovs cs p ++ wrow cs p j = W0 at *
       generalize el cs j = x at *
       by_cases hx : (p : Int) < x
       ·rw [if_pos hx] at HR
        generalize hmm : (k : Int) * (p : Int) = m at *
        have hO2 : OSl (wr.alloc (.cells #[.int .i64 (m + (j : Int))] 2)) 1 g og W0.length cg (W0.map (Value.int .i64)) := OSl.below LO.out ((Below.refl _ _).alloc (Nat.le_refl _) _) LO.out.blk
        go_wp2_with (at_builtin;refine wpList_append_os _ rfl _ _ _ rfl 2 i0 _ 1 8 Tryz.underlying25 hi0 hz0 hz1 hz2 rfl (by omega) g og W0.length cg _ rfl hO2 ⟨wr.heap.size,0,none⟩ 1 1 [.int .i64 (m + (j : Int))] rfl rfl (World.news_of_block (cs := #[.int .i64 (m + (j : Int))]) (t := 2) (fr := (0,0)) (heap_alloc_new _ _)) (by simp [Value.oneCell']) (by unfold maxLen;omega) (by omega) ?_;intro g6 o6 c6 w6 hO6 hg6 hat6)
        have NG : Hid (w.heap.size ≤ g6) := by
         rcases hat6 with h | h
         ·rw [h];exact LG.out
         ·rw [h];exact Nat.le_trans LB.out.size (by simp)
        have NL : Hid (W1.length = W0.length + 1) := by rw [Hid,HR.out];simp
        have NO : Hid (OI w6 g6 o6 W1.length c6 W1) := by
         rw [Hid,NL.out,HR.out,OI,List.map_append];exact hO6
        have NB : Hid (Below w.heap.size w w6) := below_grown6 (LB.out.alloc LB.out.size _) hg6 LG.out (Nat.le_trans LB.out.size (by simp))
        clear hO6 hg6 hat6 hO2
        go_wp2
        go_roundw
        case rel => exact ⟨j + 1,g6,o6,c6,by omega,by go_num,by rw [hW,NL.out],NG.out,by rw [hW];exact NO.out,NB.out⟩
        case measure => simp [intOf];omega
       ·rw [if_neg hx,List.append_nil] at HR
        have hd : decide ((p : Int) < x) = false := by simpa using hx
        clear hx
        go_wp2
        go_roundw
        case rel => exact ⟨j + 1,g,og,cg,by omega,by go_num,by rw [hW,HR.out],LG.out,by rw [hW,HR.out];exact LO.out,LB.out⟩
        case measure => simp [intOf];omega
      ·have hjk : j = k := by omega
       subst hjk
       have HE : Hid (wovs cs (p + 1) = wovs cs p ++ wrow cs p j) := by rw [Hid,wovs_succ,HL.out]
       clear hB
       go_wp2
       go_roundw
       case rel => exact ⟨p + 1,g,og,cg,by omega,by go_num,by rw [HE.out],LG.out,by rw [HE.out];exact LO.out,LB.out⟩
       case measure => simp [intOf];omega
    ·have hpM : p = M := by omega
     subst hpM
     go_wp2
     go_ret
     rw [HM.out]
     exact ⟨g,og,cg,rfl,KG.out,KO.out,KB.out⟩
end Go.Proofs.YtidnfdobljihoaaGreat