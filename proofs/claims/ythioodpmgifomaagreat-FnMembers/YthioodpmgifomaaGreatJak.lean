/-
  Texts in one: Mcj Mck Mcg Mcl Mcm Mcn Mco Mcp Mch Mcd Mcf Mcq Mda.
-/
import Derived.Test.YthioodpmgifomaaGreatJai
import Derived.Test.YthioodpmgifomaaGreatJah
import Derived.Test.YthioodpmgifomaaGreatJag
import Derived.Test.YthioodpmgifomaaGreatJaj
import Derived.Test.YthioodpmgifomaaGreatJaf
import Derived.Test.YthioodpmgifomaaGreatJad
import Derived.Test.YthioodpmgifomaaGreatJac
import Derived.Test.YthioodpmgifomaaGreatJae
import Derived.Deep.CutRange
import Derived.BigQuiet
namespace Go.Proofs.YthioodpmgifomaaGreat
set_option linter.unusedVariables false
set_option linter.unusedSimpArgs false
open Go.RowKit Go.Sort
theorem Mw.call {w X : World} {B o : Nat} {m : Mb} {fp : Fp} {g off c : Nat} (h : Mw w X B o m fp g off c) : ∃ fp1,Plc X B o (mb5 m) fp1 ∧ (∀ b,fp1 b → fp b ∨ w.heap.size ≤ b) ∧ ∀ (Y : World) (m' : Mb),m'.rows.length = m.rows.length → Mk X Y B o m' fp1 → Mw w Y B o m' fp g off c := by
 obtain ⟨fp1,hp,hf1,hgo⟩ := h.bcm.next
 exact ⟨fp1,hp,hf1,fun Y m' hl hk => ⟨hgo Y _ rfl hk.bcm,by rw [hk.rws,h.rws,hl]⟩⟩
theorem OkR.sz {r : Rw} {n : Nat} (h : OkR r n) : szRw r ≤ 1048576 := by
 have h5 := h.n5
 have h1 := h.gl
 have h2 := h.sl
 have h3 := h.ml
 have h4 := h.tl
 have h6 : totS r.txt r.txt.length ≤ r.txt.length * 20 := totS_le (fun i hi => h.ts _ (by rw [List.getD_eq_getElem?_getD,List.getElem?_eq_getElem hi];exact List.getElem_mem hi)) _ (Nat.le_refl _)
 unfold szRw
 omega
set_option maxRecDepth 100000 in
set_option maxHeartbeats 6400000 in
theorem stpSp_any (B o : Nat) (m : Mb) (i n : Nat) (fp : Fp) (w : World) (h : Plc w B o (mb5 m) fp) (ok : OkM m i n) :
  Calls Tryz.prog 82 #[.pointer (some ⟨B,o,none⟩)] w fun e w' => e = .returned (.tuple #[]) ∧ Bcm w w' B o (mb5 (stepMb m)) fp := by
 have hmix := mixed17
 have hil : i < m.rows.length := by rw [ok.len];exact ok.lt
 obtain ⟨g,off,c,M0⟩ := Mw.start h (by omega)
 obtain ⟨c0,c1,c4⟩ := M0.id'
 have c2 := M0.rws
 rw [ok.hid] at c0
 have i0 : (0 : Int) ≤ (i : Int) := by omega
 have i1 : (i : Int) < (m.rows.length : Int) := by omega
 have p0 : ∀ q : Bk w,q.w.cell? ⟨B,o,none⟩ = _ := fun q => (q.h.cell (World.block_lt_of_cell? _ _ c0)).trans c0
 have p2 : ∀ q : Bk w,q.w.cell? ⟨B,o + 2,none⟩ = _ := fun q => (q.h.cell (World.block_lt_of_cell? _ _ c2)).trans c2
 have HM0 : Hid (Mw w w B o m fp g off c) := M0
 clear c0 c1 c4 c2 M0 h
 go_enter Tryz.func82,Tryz.ntmps82
 go_wp2_with fail
 refine wp_region_bk (by kernel_rfl) (by kernel_rfl) ?_
 repeat (go_big_quiet_step ((first | rfl)))
 refine wpQuiet_nil ?_
 intro wE hw'
 obtain ⟨⟨w11,hb11⟩,hw''⟩ := hw'
 have hwe : wE = w11 := hw''
 clear hw''
 subst hwe
 clear p0 p2
 have HM1 : Hid (Mw w wE B o m fp g off c) := HM0.out.step hb11
 obtain ⟨c0,c1,c4⟩ := HM1.out.id'
 obtain ⟨Ak,⟨⟨d0,d1,d2,d3⟩,d4,d5,d6,d7⟩,hrs⟩ := HM1.out.row ok.fit hil
 have hr := ok.ok i ok.lt
 have HNo : Hid (m.done = true ∨ (rowN m.rows i).ver = 1000000 → stepMb m = m) := fun h => by rw [stepMb,if_pos (by rw [ok.own];exact h)]
 have HYes : Hid (¬ (m.done = true ∨ (rowN m.rows i).ver = 1000000) → stepMb m = { m with rows := m.rows.set i (mo5 m),sung := if moE m = true then songT (moS m) (mo4 m).trm else moS m,done := moE m }) := fun h => by rw [stepMb,if_neg (by rw [ok.own];exact h),ok.i]
 cases hdn : m.done with
 | true =>
  have HZ : Hid (stepMb m = m) := HNo.out (.inl hdn)
  rw [hdn] at c4
  clear HNo HYes hrs d0 d1 d2 d3 d4 d5 d6 d7 c0 c1 hdn
  go_wp2
  (try simp only [Exit.inBlock,Exit.then])
  refine bodyPost_ret (results_none rfl _ _ _) rfl ?_
  rw [HZ.out]
  exact ⟨rfl,HM1.out.bcm⟩
 | false =>
 rw [hdn] at c4
 by_cases hver : (rowN m.rows i).ver = 1000000
 ·have HZ : Hid (stepMb m = m) := HNo.out (.inr hver)
  have ev : ((rowN m.rows i).ver == 1000000) = true := by rw [hver];rfl
  clear HNo HYes hrs d1 d2 d3 d4 d5 d6 d7 c0 c1 hdn hver
  go_wp2
  (try simp only [Exit.inBlock,Exit.then])
  refine bodyPost_ret (results_none rfl _ _ _) rfl ?_
  rw [HZ.out]
  exact ⟨rfl,HM1.out.bcm⟩
 have ev : ((rowN m.rows i).ver == 1000000) = false := by simpa using hver
 have G := step_stg ok hdn
 have HZ : Hid (stepMb m = _) := HYes.out (by rw [hdn];simp;exact hver)
 have HVB : Hid ((rowN m.rows i).ver ≠ 1000000) := hver
 have HDN : Hid (m.done = false) := hdn
 have hC := cpyRw_any Ak (rowN m.rows i) wE hrs hr.ln.1 hr.ln.2.1 hr.ln.2.2.1 hr.ln.2.2.2
 unfold rwV rwC at hC
 clear HNo HYes hver hdn
 go_wp2_with fail
 refine hC.mono ?_
 rintro e w1 ⟨Ao,rfl,hN⟩
 have HN1 : Hid (NewL wE w1 (rwCels (rowN m.rows i)) (rwVals Ao (rowN m.rows i))) := hN
 clear hN hC hrs d0 d1 d2 d3 d4 d5 d6 d7 c0 c1 c4
 unfold rwV rwC
 go_wp2_with fail
 have hb1 : Below wE.heap.size wE w1 := by obtain ⟨_,_,_,hb⟩ := HN1.out;exact hb
 have hb5 : Below wE.heap.size wE (w1.alloc (.cells #[.int .i64 (rowN m.rows i).ver,.slice Ao.ta (rowN m.rows i).txt.length Ao.tc,.slice Ao.ga (rowN m.rows i).got.length Ao.gc,.slice Ao.sa (rowN m.rows i).sus.length Ao.sc,.bool (rowN m.rows i).wed,.bool (rowN m.rows i).rdy,.int .i64 (rowN m.rows i).by_,.slice Ao.ma (rowN m.rows i).trm.length Ao.mc] 37)) := hb1.trans ((oneA16 w1 _).mono hb1.size)
 have hx5 : Bx (w1.alloc (.cells #[.int .i64 (rowN m.rows i).ver,.slice Ao.ta (rowN m.rows i).txt.length Ao.tc,.slice Ao.ga (rowN m.rows i).got.length Ao.gc,.slice Ao.sa (rowN m.rows i).sus.length Ao.sc,.bool (rowN m.rows i).wed,.bool (rowN m.rows i).rdy,.int .i64 (rowN m.rows i).by_,.slice Ao.ma (rowN m.rows i).trm.length Ao.mc] 37)) w1.heap.size 37 #[.int .i64 (rowN m.rows i).ver,.slice Ao.ta (rowN m.rows i).txt.length Ao.tc,.slice Ao.ga (rowN m.rows i).got.length Ao.gc,.slice Ao.sa (rowN m.rows i).sus.length Ao.sc,.bool (rowN m.rows i).wed,.bool (rowN m.rows i).rdy,.int .i64 (rowN m.rows i).by_,.slice Ao.ma (rowN m.rows i).trm.length Ao.mc] := Bx.new w1 _ _
 have hi5 : It (w1.alloc (.cells #[.int .i64 (rowN m.rows i).ver,.slice Ao.ta (rowN m.rows i).txt.length Ao.tc,.slice Ao.ga (rowN m.rows i).got.length Ao.gc,.slice Ao.sa (rowN m.rows i).sus.length Ao.sc,.bool (rowN m.rows i).wed,.bool (rowN m.rows i).rdy,.int .i64 (rowN m.rows i).by_,.slice Ao.ma (rowN m.rows i).trm.length Ao.mc] 37)) (rwCels (rowN m.rows i)) (rwVals Ao (rowN m.rows i)) wE.heap.size w1.heap.size := (It.of_new HN1.out).below (oneA16 w1 _)
 generalize w1.alloc (.cells #[.int .i64 (rowN m.rows i).ver,.slice Ao.ta (rowN m.rows i).txt.length Ao.tc,.slice Ao.ga (rowN m.rows i).got.length Ao.gc,.slice Ao.sa (rowN m.rows i).sus.length Ao.sc,.bool (rowN m.rows i).wed,.bool (rowN m.rows i).rdy,.int .i64 (rowN m.rows i).by_,.slice Ao.ma (rowN m.rows i).trm.length Ao.mc] 37) = W5 at *
 obtain ⟨fp5,f1,f2,f3,M5,f5⟩ := HM1.out.sub hb5
 have HBk5 : Hid (∀ (Y : World) (m' : Mb),Mw W5 Y B o m' fp5 g off c → Mw w Y B o m' fp g off c) := f5
 have HOld : Hid (∀ (Y : World) (m' : Mb),Mw W5 Y B o m' fp5 g off c → Bx Y w1.heap.size 37 #[.int .i64 (rowN m.rows i).ver,.slice Ao.ta (rowN m.rows i).txt.length Ao.tc,.slice Ao.ga (rowN m.rows i).got.length Ao.gc,.slice Ao.sa (rowN m.rows i).sus.length Ao.sc,.bool (rowN m.rows i).wed,.bool (rowN m.rows i).rdy,.int .i64 (rowN m.rows i).by_,.slice Ao.ma (rowN m.rows i).trm.length Ao.mc] ∧ RwS Y Ao (rowN m.rows i)) := fun Y m' hY => ⟨hY.bx hx5 (fun h => by have := f1 _ h;have := hb1.size;omega) (by have := hb1.size;omega),it_rws (hi5.wrt hY.bcm.wrt (fun b hb => .inl (by rcases hb with hb | hb;exact f1 b hb;rw [hb];exact f2))) hr.fit hr.sz⟩
 obtain ⟨fq,hpq,_,goq⟩ := M5.call
 have hL := lrnSp_any B o m i n fq W5 hpq ok
 rw [← G.e1] at hL
 refine hL.mono ?_
 rintro e X1 ⟨rfl,hk1⟩
 have HM6 : Hid (Mw W5 X1 B o { m with rows := m.rows.set i (mo1 m) } fp5 g off c) := goq X1 _ (set_own _) hk1
 have HVR : Hid (0 ≤ (rowN m.rows i).ver ∧ (rowN m.rows i).ver < 1000000) := by have h1 := hr.ver;have h2 := HVB.out;rw [Hid];omega
 have hn5 := ok.n5
 generalize w1.heap.size = ob at *
 clear hL hk1 hpq goq M5 f5 f1 f2 f3 hb5 hx5 hi5 hb1 HN1 HM1 HM0 hb11 hr HVB ev
 have hls : ∀ r : Rw,(m.rows.set i r).length = m.rows.length := fun r => List.length_set
 have hs : ∀ r : Rw,rowN (m.rows.set i r) i = r := fun r => rowN_self hil
 have HLS : Hid (∀ r : Rw,(m.rows.set i r).length = m.rows.length) := hls
 have HSL : Hid (∀ r : Rw,rowN (m.rows.set i r) i = r) := hs
 clear hls hs
 obtain ⟨_,_,w4,_,⟨rfl,_⟩,_⟩ := HM6.out.at (k := i) (by simp only [HLS.out];exact hil) (j := 4) (cl := .v (.bool (mo1 m).wed)) (by simp only [HSL.out];rfl)
 obtain ⟨b1,hb1⟩ : ∃ b : Bool,Hid ((mo1 m).wed = b) := ⟨_,rfl⟩
 rw [hb1.out] at w4
 go_upto_if 36 with fail
 clear w4
 go_cut [4] from 37 to 69 (fun _ wx => Mw W5 wx B o { m with rows := m.rows.set i (mo2 m),sung := moS m } fp5 g off c)
 case first =>
  cases b1 with
  | true =>
   obtain ⟨e2,eS⟩ := G.wd hb1.out
   have HE : Hid (Mw W5 X1 B o { m with rows := m.rows.set i (mo2 m),sung := moS m } fp5 g off c) := by rw [Hid,e2,eS];exact HM6.out
   clear e2 eS
   go_wp2
   go_meet
   case rel => exact HE.out
  | false =>
   obtain ⟨e2,okm2,eS⟩ := G.uw hb1.out
   have HE2 : Hid (mo2 m = { mo1 m with got := gotUp m.rows (mo1 m) n }) := e2
   have HES : Hid (moS m = sing (m.rows.set i (mo2 m)) n (60 - m.sung.length) m.sung) := eS
   have hgl : (mo1 m).got.length = n := by have := (G.ok1.ok i ok.lt).gl;simp only [HSL.out] at this;exact this
   have HTX : Hid (∀ (j : Nat) (r : Rw),r.txt = (mo1 m).txt → (rowN (m.rows.set i r) j).txt = (rowN m.rows j).txt) := fun j r hr => by
    rw [rowN_set hil]
    split
    ·rename_i h;rw [h,hr,G.e1];exact (learn_lrn _ _ _ _).txt
    ·rfl
   have HGB : Hid (∀ j,j < n → 0 ≤ el (mo1 m).got j ∧ el (mo1 m).got j ≤ 12) := fun j hj => by have := (G.ok1.ok i ok.lt).g j hj;simp only [HSL.out] at this;exact this
   have HTB : Hid (∀ j,j < n → (rowN m.rows j).txt.length ≤ 12) := fun j hj => (ok.ok j hj).tl
   clear e2 eS
   go_wp2_with fail
   go_loopw [4] (fun k wr => ∃ j : Nat,j ≤ n ∧ k = .int .i64 (j : Int) ∧ Mw W5 wr B o { m with rows := m.rows.set i { mo1 m with got := gotP m.rows (mo1 m) n j } } fp5 g off c) (fun k _ => n - (intOf k).toNat)
   case atStart => exact ⟨0,Nat.zero_le _,rfl,by rw [gotP_zero hgl];exact HM6.out⟩
   case round =>
    obtain ⟨j,hj,rfl,M⟩ := hrel
    have HM : Hid (Mw W5 wr B o { m with rows := m.rows.set i { mo1 m with got := gotP m.rows (mo1 m) n j } } fp5 g off c) := M
    obtain ⟨c0,c1,c4⟩ := M.id'
    simp only at c1
    rw [ok.hn] at c1
    by_cases hlt : j < n
    ·have j1 : (j : Int) < (n : Int) := by omega
     have j0 : (0 : Int) ≤ (j : Int) := by omega
     have j2 : (j : Int) < (m.rows.length : Int) := by rw [ok.len];exact j1
     have hjl : j < m.rows.length := by rw [ok.len];exact hlt
     have c2 := M.rws
     simp only [HLS.out] at c2
     obtain ⟨_,_,hu1,_,how1,_⟩ := M.at (k := j) (by simp only [HLS.out];exact hjl) (j := 1) (cl := scl (rowN (m.rows.set i { mo1 m with got := gotP m.rows (mo1 m) n j }) j).txt) rfl
     obtain ⟨ta,tc,_,rfl,_⟩ := ow_scl.1 how1
     rw [HTX.out j { mo1 m with got := gotP m.rows (mo1 m) n j } rfl] at hu1
     have hgp : j < (gotP m.rows (mo1 m) n j).length := by rw [gotP_len];exact hlt
     obtain ⟨_,_,hu2,_,how2,_⟩ := M.at (k := i) (by simp only [HLS.out];exact hil) (j := 2) (cl := icl (gotP m.rows (mo1 m) n j)) (by simp only [HSL.out];rfl)
     obtain ⟨gb,go,gc,rfl,_,hge,_,_⟩ := ow_int_set how2 hgp
     rw [gotP_len] at hu2
     rw [el_gotP hlt,if_neg (Nat.lt_irrefl _)] at hge
     have CM : ∀ q : Bk wr,Calls Tryz.prog 64 #[.int .i64 (el (mo1 m).got j),.int .i64 ((rowN m.rows j).txt.length : Int)] q.w fun e w' => e = .returned (.int .i64 (max (el (mo1 m).got j) ((rowN m.rows j).txt.length : Int))) ∧ Below q.w.heap.size q.w w' := fun q => (l1Max_any _ _ q.w).mono (fun e w' h => ⟨h.1,by rw [h.2];exact Below.refl _ _⟩)
     have T : ∀ {x v},wr.cell? x = some v → ∀ q : Bk wr,q.w.cell? x = some v := fun h q => (q.h.cell (World.block_lt_of_cell? _ _ h)).trans h
     have p2 := T c2
     have q1 := T hu1
     have q2 := T hu2
     have q3 := T hge
     have HGP : Hid ((gotP m.rows (mo1 m) n j).set j (max (el (mo1 m).got j) ((rowN m.rows j).txt.length : Int)) = gotP m.rows (mo1 m) n (j + 1)) := gotP_next hlt
     have wj : wrap64 ((j : Int) + 1) = (j : Int) + 1 := by unfold wrap64;omega
     clear c0 c4 c2 hu1 how1 hu2 how2 hge T M
     generalize hmx : max (el (mo1 m).got j) ((rowN m.rows j).txt.length : Int) = mx at *
     generalize el (mo1 m).got j = x at *
     go_wp2_with fail
     clear c1
     refine wp_region_quiet_tail (C := fun w' => ∃ p : Bk wr,w' = p.w) 23 hmix (by kernel_rfl) ⟨⟨wr.drewN 1,belowN (Below.refl _ _)⟩,rfl⟩ ?_
     simp only [List.take_succ_cons,List.take_zero]
     repeat (go_big_quiet_step ((first | (go_at_call 64;exact bk_call _ (CM _)) | rfl)))
     refine wpQuiet_nil ?_
     intro wE hw'
     obtain ⟨⟨w11,hb11⟩,hw''⟩ := hw'
     have hwe : wE = w11 := hw''
     clear hw''
     subst hwe
     simp only [List.drop_succ_cons,List.drop_zero]
     have hu3 := q2 ⟨wE,hb11⟩
     simp only at hu3
     have M3 := HM.out.step hb11
     obtain ⟨u,f3,hu,hfz,how,hlt3,hset⟩ := M3.at (k := i) (by simp only [HLS.out];exact hil) (j := 2) (cl := icl (gotP m.rows (mo1 m) n j)) (by simp only [HSL.out];rfl)
     obtain rfl := Option.some.inj (hu.symm.trans hu3)
     obtain ⟨gb',go',gc',e4,hfg4,hge,hgz,hgs⟩ := ow_int_set how hgp
     rw [gotP_len] at e4
     cases e4
     obtain ⟨k1,k2⟩ := hgs mx
     obtain ⟨_,_,_,hM4⟩ := hset _ (icl ((gotP m.rows (mo1 m) n j).set j mx)) _ f3 { mo1 m with got := (gotP m.rows (mo1 m) n j).set j mx } (by simp only [HSL.out];rfl) k2 k1 (fun b hb => .inl hb)
     have HM4 : Hid (Mw W5 (wE.setCell ⟨gb,go + j,none⟩ (.int .i64 mx)) B o { m with rows := m.rows.set i { mo1 m with got := gotP m.rows (mo1 m) n (j + 1) } } fp5 g off c) := by
      have := hM4 rfl
      simp only [List.set_set] at this
      rw [HGP.out] at this
      exact this
     clear hM4 hgs k1 k2 hset M3 how hu hu3 hfz p2 q1 q2 q3 hlt3 CM
     go_wp2
     go_roundw
     case rel => exact ⟨j + 1,by omega,by go_num,HM4.out⟩
     case measure => simp [intOf];omega
    ·have j1 : ¬ ((j : Int) < (n : Int)) := by omega
     obtain rfl : j = n := by omega
     have M2 : Mw W5 wr B o { m with rows := m.rows.set i (mo2 m) } fp5 g off c := by
      have := HM.out
      rw [gotP_all,← HE2.out] at this
      exact this
     obtain ⟨fq,hpq,_,goq⟩ := M2.call
     have hS := sngSp_any B o _ i j fq wr hpq okm2
     clear M c0 c4
     go_wp2_with fail
     refine hS.mono ?_
     rintro e X2 ⟨rfl,hk2⟩
     have HE : Hid (Mw W5 X2 B o { m with rows := m.rows.set i (mo2 m),sung := moS m } fp5 g off c) := by
      have := goq X2 _ rfl hk2
      rw [← HES.out] at this
      exact this
     clear hS hk2 hpq goq M2
     go_wp2
     go_meet
     case rel => exact HE.out
 case rest =>
  have HM7 : Hid (Mw W5 wc B o { m with rows := m.rows.set i (mo2 m),sung := moS m } fp5 g off c) := hcut
  clear hcut HM6
  generalize wc = X2 at *
  have hLf := lftSp_any W5 B o _ i n fp5 g off c X2 HM7.out G.ok2
  simp only [HSL.out] at hLf
  rw [← G.eL] at hLf
  go_wp2_with fail
  refine hLf.mono ?_
  rintro e X3 ⟨la,lc,rfl,fl,hl1,hl2,hbl⟩
  obtain ⟨fp7,g1,g2,g3,M7,g5⟩ := HM7.out.sub hbl
  have HBk7 : Hid (∀ (Y : World) (m' : Mb),Mw X3 Y B o m' fp7 g off c → Mw W5 Y B o m' fp5 g off c) := g5
  have HFLt : Hid (∀ b,fl b → b < X3.heap.size) := Cel.ow_lt hl1
  have HFL : Hid (∀ b,fl b → ¬ fp7 b ∧ b ≠ B) := fun b hb => ⟨fun k => by have := g1 b k;have := hl2 b hb;omega,fun k => by have := hl2 b hb;omega⟩
  rw [lN_len] at hl1 ⊢
  have HLst : Hid (∀ (Y : World) (m' : Mb),Mw X3 Y B o m' fp7 g off c → Cel.ow Y (icl (lN (moL m))) (.slice la (moL m).length lc) fl) := fun Y m' hY => hY.cel hl1 HFL.out
  obtain ⟨hL0,hLh,hLd,hLm⟩ := head_getD G.mem
  have hLlt : ∀ k ∈ moL m,k < n := fun k hk => by rw [G.eL] at hk;exact (mem_leftN.1 hk).1
  have hLn : (moL m).length ≤ n := by rw [G.eL];exact leftN_len _ _
  have HL0 : Hid (∀ (Y : World) (m' : Mb),Mw X3 Y B o m' fp7 g off c → ∃ lb lo,la = some ⟨lb,lo,none⟩ ∧ Y.cell? ⟨lb,lo,none⟩ = some (.int .i64 (((moL m).getD 0 0 : Nat) : Int))) := fun Y m' hY => by
   have hv := vec_of_ow (by rw [lN_len];exact HLst.out Y m' hY) (lN_fits hLlt (by omega))
   rcases hv.2.2 with hz | ⟨lb,lo,rfl,hlc⟩
   ·rw [lN_len] at hz;omega
   have hlk := hlc 0 (by rw [lN_len];exact hL0)
   rw [el_lN hL0] at hlk
   exact ⟨lb,lo,rfl,hlk⟩
  have HE3 := G.e3
  have HE4 := G.e4
  rw [hLd] at HE4
  have HH3 : Hid (mo3 m = if (mo2 m).wed = true ∧ n < 2 * (moL m).length ∧ (moL m).getD 0 0 = i then lead (m.rows.set i (mo2 m)) i (mo2 m) (moL m) else mo2 m) := by rw [Hid,HE3];simp only [hLh]
  have HH4 : Hid (mo4 m = if (mo3 m).wed = true ∧ (moL m).getD 0 0 ≠ i then adopt (m.rows.set i (mo3 m)) i (mo3 m) ((moL m).getD 0 0) else mo3 m) := by rw [Hid,HE4];simp only [ne_eq,hLh]
  have HLm : Hid ((moL m).getD 0 0 < n) := hLlt _ hLm
  have HeE : Hid (moE m = ((mo4 m).rdy && (decide (n < 2 * (moL m).length) && ends (m.rows.set i (mo4 m)) i (mo4 m) (moL m)))) := G.eE
  have HLlt : Hid (∀ k ∈ moL m,k < n) := hLlt
  have HLp : Hid (0 < (moL m).length) := hL0
  have HMx : Hid (Mw X3 X3 B o { m with rows := m.rows.set i (mo2 m),sung := moS m } fp7 g off c) := M7
  clear HE3 HE4 hLh hLd hLm hLlt hl1 hl2 hbl M7 g5 g1 g2 g3 hLf HM7
  obtain ⟨lb,lo,rfl,_⟩ := HL0.out X3 _ HMx.out
  have HL1 : Hid (∀ (Y : World) (m' : Mb),Mw X3 Y B o m' fp7 g off c → Y.cell? ⟨lb,lo,none⟩ = some (.int .i64 (((moL m).getD 0 0 : Nat) : Int))) := fun Y m' hY => by
   obtain ⟨lb',lo',e,hc⟩ := HL0.out Y m' hY
   cases e
   exact hc
  have hw2 : wrap64 (2 * ((moL m).length : Int)) = 2 * ((moL m).length : Int) := by unfold wrap64;omega
  have i0L : (0 : Int) < ((moL m).length : Int) := by omega
  clear HL0
  generalize hLe : moL m = L at *
  generalize hF : L.getD 0 0 = F at *
  have HFe : Hid (L.getD 0 0 = F) := hF
  clear hF hL0 hLe
  -- the first of those left leads
  obtain ⟨_,_,w4,_,⟨rfl,_⟩,_⟩ := HMx.out.at (k := i) (by simp only [HLS.out];exact hil) (j := 4) (cl := .v (.bool (mo2 m).wed)) (by simp only [HSL.out];rfl)
  obtain ⟨c0,c1,c4⟩ := HMx.out.id'
  simp only at c0 c1
  rw [ok.hid] at c0
  rw [ok.hn] at c1
  obtain ⟨b2,hb2⟩ : ∃ b : Bool,Hid ((mo2 m).wed = b) := ⟨_,rfl⟩
  rw [hb2.out] at w4
  go_upto_region 11 with fail
  go_cut [85] from 72 to 85 (fun v wx => v = .bool (b2 && decide ((n : Int) < 2 * (L.length : Int))) ∧ wx = X3)
  case first =>
   cases b2 with
   | true =>
    go_wp2_with fail
    go_meet
    case rel => exact ⟨by simp,rfl⟩
   | false =>
    go_wp2_with fail
    go_meet
    case rel => exact ⟨by simp,rfl⟩
  case rest =>
  obtain ⟨rfl,hwx⟩ := hcut
  obtain rfl := hwx.symm
  clear w4 hwx
  generalize hd1 : (b2 && decide ((n : Int) < 2 * (L.length : Int))) = d1 at *
  have HD1 : Hid ((mo2 m).wed = true ∧ n < 2 * L.length ↔ d1 = true) := by rw [Hid,hb2.out,← hd1,Bool.and_eq_true,decide_eq_true_eq];constructor <;> rintro ⟨h1,h2⟩ <;> exact ⟨h1,by omega⟩
  clear hd1
  go_upto_if 85 with fail
  go_cut [5] from 86 to 96 (fun v wx => v = .slice (some ⟨lb,lo,none⟩) L.length lc ∧ Mw X3 wx B o { m with rows := m.rows.set i (mo3 m),sung := moS m } fp7 g off c)
  case first =>
   cases d1 with
   | false =>
    have HE : Hid (mo3 m = mo2 m) := by
     rw [Hid,HH3.out,if_neg]
     rintro ⟨h1,h2,_⟩
     exact absurd (HD1.out.1 ⟨h1,h2⟩) (by simp)
    clear c0 c1 c4
    go_wp2
    go_meet
    case rel => exact ⟨rfl,by rw [HE.out];exact HMx.out⟩
   | true =>
    obtain ⟨hw,hn2⟩ := HD1.out.2 rfl
    have l0 := HL1.out X3 _ HMx.out
    have T : ∀ {x v},X3.cell? x = some v → ∀ q : Bk X3,q.w.cell? x = some v := fun h q => (q.h.cell (World.block_lt_of_cell? _ _ h)).trans h
    have p0 := T c0
    have pl := T l0
    have HW : Hid ((mo2 m).wed = true) := hw
    by_cases hFi : F = i
    ·have e1 : ((F : Int) == (i : Int)) = true := by simp [hFi]
     have HE : Hid (mo3 m = lead (m.rows.set i (mo2 m)) i (mo2 m) L) := by rw [Hid,HH3.out,if_pos ⟨hw,hn2,hFi⟩]
     clear c0 c1 c4 l0 T hw hn2 hFi
     go_wp2_with fail
     refine wp_region_bk (by kernel_rfl) (by kernel_rfl) ?_
     repeat (go_big_quiet_step ((first | rfl)))
     refine wpQuiet_nil ?_
     intro wE hw'
     obtain ⟨⟨w11,hb11⟩,hw''⟩ := hw'
     have hwe : wE = w11 := hw''
     clear hw''
     subst hwe
     have M8 := HMx.out.step hb11
     obtain ⟨fq,hpq,hsq,goq⟩ := M8.call
     have hLd := leaSp_any B o _ i n L (some ⟨lb,lo,none⟩) lc fl fq wE hpq G.ok2 (by simp only [HSL.out];exact HW.out) (HLst.out wE _ M8) (fun b hb => ⟨fun k => by
      rcases hsq b k with k | k
      ·exact (HFL.out b hb).1 k
      ·have := HFLt.out b hb;omega,(HFL.out b hb).2⟩) HLlt.out HLp.out hLn
     clear p0 pl hb11 M8 hpq hsq
     go_wp2_with fail
     refine hLd.mono ?_
     rintro e X4 ⟨rfl,hk⟩
     have HE4 : Hid (Mw X3 X4 B o { m with rows := m.rows.set i (mo3 m),sung := moS m } fp7 g off c) := by
      have := goq X4 _ (by simp only [HLS.out,List.length_set]) hk
      simp only [HSL.out,List.set_set] at this
      rw [← HE.out] at this
      exact this
     clear hLd hk goq
     go_wp2
     go_meet
     case rel => exact ⟨rfl,HE4.out⟩
    ·have e1 : ((F : Int) == (i : Int)) = false := by simp;omega
     have HE : Hid (mo3 m = mo2 m) := by rw [Hid,HH3.out,if_neg (fun h => hFi h.2.2)]
     clear c0 c1 c4 l0 T hw hn2 hFi
     go_wp2_with fail
     refine wp_region_bk (by kernel_rfl) (by kernel_rfl) ?_
     repeat (go_big_quiet_step ((first | rfl)))
     refine wpQuiet_nil ?_
     intro wE hw'
     obtain ⟨⟨w11,hb11⟩,hw''⟩ := hw'
     have hwe : wE = w11 := hw''
     clear hw''
     subst hwe
     have HE4 : Hid (Mw X3 wE B o { m with rows := m.rows.set i (mo3 m),sung := moS m } fp7 g off c) := by rw [Hid,HE.out];exact HMx.out.step hb11
     clear p0 pl hb11
     go_wp2
     go_meet
     case rel => exact ⟨rfl,HE4.out⟩
  case rest =>
  obtain ⟨rfl,hcut⟩ := hcut
  have HMy : Hid (Mw X3 wc B o { m with rows := m.rows.set i (mo3 m),sung := moS m } fp7 g off c) := hcut
  clear hcut HMx c0 c1 c4 HD1
  generalize wc = X4 at *
  -- another one leads
  obtain ⟨_,_,w4,_,⟨rfl,_⟩,_⟩ := HMy.out.at (k := i) (by simp only [HLS.out];exact hil) (j := 4) (cl := .v (.bool (mo3 m).wed)) (by simp only [HSL.out];rfl)
  obtain ⟨c0,c1,c4⟩ := HMy.out.id'
  simp only at c0
  rw [ok.hid] at c0
  have l0 := HL1.out X4 _ HMy.out
  obtain ⟨b3,hb3⟩ : ∃ b : Bool,Hid ((mo3 m).wed = b) := ⟨_,rfl⟩
  rw [hb3.out] at w4
  have T : ∀ {x v},X4.cell? x = some v → ∀ q : Bk X4,q.w.cell? x = some v := fun h q => (q.h.cell (World.block_lt_of_cell? _ _ h)).trans h
  have p0 := T c0
  have pl := T l0
  have p4 := T w4
  clear c0 c1 c4 l0 w4 T
  go_upto_region 14 with fail
  go_cut [110] from 97 to 110 (fun v wx => v = .bool (b3 && ((F : Int) != (i : Int))) ∧ Below X4.heap.size X4 wx)
  case first =>
   cases b3 with
   | true =>
    refine wp_region_bk (by kernel_rfl) (by kernel_rfl) ?_
    repeat (go_big_quiet_step ((first | rfl)))
    refine wpQuiet_nil ?_
    intro wE hw'
    obtain ⟨⟨w11,hb11⟩,hw''⟩ := hw'
    have hwe : wE = w11 := hw''
    clear hw''
    subst hwe
    try go_wp2_with fail
    go_meet
    case rel => exact ⟨by simp,hb11⟩
   | false =>
    refine wp_region_bk (by kernel_rfl) (by kernel_rfl) ?_
    repeat (go_big_quiet_step ((first | rfl)))
    refine wpQuiet_nil ?_
    intro wE hw'
    obtain ⟨⟨w11,hb11⟩,hw''⟩ := hw'
    have hwe : wE = w11 := hw''
    clear hw''
    subst hwe
    try go_wp2_with fail
    go_meet
    case rel => exact ⟨by simp,hb11⟩
  case rest =>
  obtain ⟨rfl,hbc⟩ := hcut
  have HMz : Hid (Mw X3 wc B o { m with rows := m.rows.set i (mo3 m),sung := moS m } fp7 g off c) := HMy.out.step hbc
  clear hbc HMy p0 pl p4
  generalize wc = X5 at *
  generalize hd2 : (b3 && ((F : Int) != (i : Int))) = d2 at *
  have HD2 : Hid ((mo3 m).wed = true ∧ F ≠ i ↔ d2 = true) := by rw [Hid,hb3.out,← hd2,Bool.and_eq_true,bne_iff_ne];constructor <;> rintro ⟨h1,h2⟩ <;> exact ⟨h1,by omega⟩
  clear hd2
  go_upto_if 110 with fail
  go_cut [5] from 111 to 115 (fun v wx => v = .slice (some ⟨lb,lo,none⟩) L.length lc ∧ Mw X3 wx B o { m with rows := m.rows.set i (mo4 m),sung := moS m } fp7 g off c)
  case first =>
   cases d2 with
   | false =>
    have HE : Hid (mo4 m = mo3 m) := by
     rw [Hid,HH4.out,if_neg]
     intro h
     exact absurd (HD2.out.1 h) (by simp)
    go_wp2
    go_meet
    case rel => exact ⟨rfl,by rw [HE.out];exact HMz.out⟩
   | true =>
    obtain ⟨hw,hFi⟩ := HD2.out.2 rfl
    have HE : Hid (mo4 m = adopt (m.rows.set i (mo3 m)) i (mo3 m) F) := by rw [Hid,HH4.out,if_pos ⟨hw,hFi⟩]
    have l0 := HL1.out X5 _ HMz.out
    obtain ⟨fq,hpq,hsq,goq⟩ := HMz.out.call
    have hAd := adpSp_any B o _ i n F fq X5 hpq G.ok3 HLm.out hFi
    clear hpq hsq hw hFi
    go_wp2_with fail
    refine hAd.mono ?_
    rintro e X6 ⟨rfl,hk⟩
    have HE4 : Hid (Mw X3 X6 B o { m with rows := m.rows.set i (mo4 m),sung := moS m } fp7 g off c) := by
     have := goq X6 _ (by simp only [HLS.out,List.length_set]) hk
     simp only [HSL.out,List.set_set] at this
     rw [← HE.out] at this
     exact this
    clear hAd hk goq l0
    go_wp2
    go_meet
    case rel => exact ⟨rfl,HE4.out⟩
  case rest =>
  obtain ⟨rfl,hcut⟩ := hcut
  have HMu : Hid (Mw X3 wc B o { m with rows := m.rows.set i (mo4 m),sung := moS m } fp7 g off c) := hcut
  clear hcut HMz HD2
  generalize wc = X6 at *
  -- the end
  obtain ⟨_,_,w5,_,⟨rfl,_⟩,_⟩ := HMu.out.at (k := i) (by simp only [HLS.out];exact hil) (j := 5) (cl := .v (.bool (mo4 m).rdy)) (by simp only [HSL.out];rfl)
  obtain ⟨c0,c1,c4⟩ := HMu.out.id'
  simp only at c1
  rw [ok.hn] at c1
  obtain ⟨b4,hb4⟩ : ∃ b : Bool,Hid ((mo4 m).rdy = b) := ⟨_,rfl⟩
  rw [hb4.out] at w5
  clear c0 c4
  go_upto_region 16 with fail
  go_cut [129] from 116 to 129 (fun v wx => v = .bool (b4 && decide ((n : Int) < 2 * (L.length : Int))) ∧ wx = X6)
  case first =>
   cases b4 with
   | true =>
    go_wp2_with fail
    go_meet
    case rel => exact ⟨by simp,rfl⟩
   | false =>
    go_wp2_with fail
    go_meet
    case rel => exact ⟨by simp,rfl⟩
  case rest =>
  obtain ⟨rfl,hwx⟩ := hcut
  obtain rfl := hwx.symm
  clear w5 hwx c1
  generalize hd3 : (b4 && decide ((n : Int) < 2 * (L.length : Int))) = d3 at *
  have HD3 : Hid (moE m = (d3 && ends (m.rows.set i (mo4 m)) i (mo4 m) L)) := by
   rw [Hid,HeE.out,hb4.out,← hd3]
   simp only [Bool.and_assoc]
   congr 2
   rw [decide_eq_decide]
   omega
  have HD4 : Hid (d3 = true → (mo4 m).rdy = true) := fun h => by rw [← hd3,Bool.and_eq_true] at h;rw [hb4.out];exact h.1
  clear hd3
  go_upto_if 129 with fail
  go_cut [5] from 130 to 132 (fun _ wx => Mw X3 wx B o { m with rows := m.rows.set i (mo4 m),sung := if moE m = true then songT (moS m) (mo4 m).trm else moS m,done := moE m } fp7 g off c)
  case first =>
   cases d3 with
   | false =>
    have HE : Hid (Mw X3 X6 B o { m with rows := m.rows.set i (mo4 m),sung := if moE m = true then songT (moS m) (mo4 m).trm else moS m,done := moE m } fp7 g off c) := by
     have hE : moE m = false := by rw [HD3.out];rfl
     have := HMu.out
     rw [HDN.out] at this
     rw [Hid,hE,if_neg (by simp)]
     exact this
    go_wp2
    go_meet
    case rel => exact HE.out
   | true =>
    obtain ⟨fq,hpq,hsq,goq⟩ := HMu.out.call
    have hEd := endSp_any B o _ i n L (some ⟨lb,lo,none⟩) lc fl fq X6 hpq G.ok4 (by simp only [HSL.out];exact HD4.out rfl) (HLst.out X6 _ HMu.out) HLlt.out hLn
    clear hpq hsq
    go_wp2_with fail
    refine hEd.mono ?_
    rintro e X7 ⟨rfl,hk⟩
    have HE : Hid (Mw X3 X7 B o { m with rows := m.rows.set i (mo4 m),sung := if moE m = true then songT (moS m) (mo4 m).trm else moS m,done := moE m } fp7 g off c) := by
     have hE : moE m = ends (m.rows.set i (mo4 m)) i (mo4 m) L := by rw [HD3.out];rfl
     unfold endMb at hk
     simp only [HSL.out] at hk
     rw [← hE] at hk
     cases he : moE m with
     | true =>
      rw [he,if_pos rfl] at hk
      rw [Hid,if_pos rfl]
      exact goq X7 _ rfl hk
     | false =>
      rw [he,if_neg (by simp)] at hk
      have := goq X7 _ rfl hk
      rw [HDN.out] at this
      rw [Hid,if_neg (by simp)]
      exact this
    clear hEd hk goq
    go_wp2
    go_meet
    case rel => exact HE.out
  case rest =>
  have HM9 : Hid (Mw W5 wc B o { m with rows := m.rows.set i (mo4 m),sung := if moE m = true then songT (moS m) (mo4 m).trm else moS m,done := moE m } fp5 g off c) := HBk7.out _ _ hcut
  clear hcut HMu HD3 HD4 HBk7 HFLt HFL HLst HL1 HH3 HH4
  generalize wc = X7 at *
  obtain ⟨hxo,hro⟩ := HOld.out X7 _ HM9.out
  have hfit : FitM { m with rows := m.rows.set i (mo4 m),sung := if moE m = true then songT (moS m) (mo4 m).trm else moS m,done := moE m } := ⟨G.ok4.fit.1,by have := (stepM ok).ok.fit.2;rw [HZ.out] at this;exact this⟩
  obtain ⟨A9,⟨⟨d0,d1',d2',d3'⟩,d4,d5,d6,d7⟩,hrs⟩ := HM9.out.row hfit (k := i) (by simp only [HLS.out];exact hil)
  simp only [HSL.out] at d0 d1' d2' d3' d4 d5 d6 d7 hrs
  obtain ⟨⟨x0,x1,x2,x3⟩,x4,x5,x6,x7⟩ := Bx.r8 hxo
  obtain ⟨sb,hsb⟩ : ∃ b : Bool,Hid (sameRw (rowN m.rows i) (mo4 m) = b) := ⟨_,rfl⟩
  have CS : ∀ q : Bk X7,Calls Tryz.prog 148 #[rwV Ao (rowN m.rows i),rwV A9 (mo4 m)] q.w fun e w' => e = .returned (.bool sb) ∧ Below q.w.heap.size q.w w' := fun q => by
   have := samS_any Ao A9 (rowN m.rows i) (mo4 m) q.w (hro.below q.h) (hrs.below q.h)
   rw [hsb.out] at this
   exact this
  unfold rwV rwC at CS
  have T : ∀ {x v},X7.cell? x = some v → ∀ q : Bk X7,q.w.cell? x = some v := fun h q => (q.h.cell (World.block_lt_of_cell? _ _ h)).trans h
  have y0 := T x0
  have y1 := T x1
  have y2 := T x2
  have y3 := T x3
  have y4 := T x4
  have y5 := T x5
  have y6 := T x6
  have y7 := T x7
  have z0 := T d0
  have z1 := T d1'
  have z2 := T d2'
  have z3 := T d3'
  have z4 := T d4
  have z5 := T d5
  have z6 := T d6
  have z7 := T d7
  clear x0 x1 x2 x3 x4 x5 x6 x7 d0 d1' d2' d3' d4 d5 d6 d7 T hxo hro hrs hfit
  go_wp2_with fail
  refine wp_region_bk (by kernel_rfl) (by kernel_rfl) ?_
  repeat (go_big_quiet_step ((first | (go_at_call 148;exact bk_call _ (CS _)) | rfl)))
  refine wpQuiet_nil ?_
  intro wE hw'
  obtain ⟨⟨w11,hb11⟩,hw''⟩ := hw'
  have hwe : wE = w11 := hw''
  clear hw''
  subst hwe
  have HMf : Hid (Mw W5 wE B o { m with rows := m.rows.set i (mo4 m),sung := if moE m = true then songT (moS m) (mo4 m).trm else moS m,done := moE m } fp5 g off c) := HM9.out.step hb11
  clear y0 y1 y2 y3 y4 y5 y6 y7 z0 z1 z2 z3 z4 z5 z6 z7 CS hb11 HM9 HOld
  have He5 := G.e5
  rw [hsb.out] at He5
  cases sb with
  | true =>
   have HE : Hid (stepMb m = { m with rows := m.rows.set i (mo4 m),sung := if moE m = true then songT (moS m) (mo4 m).trm else moS m,done := moE m }) := by rw [Hid,HZ.out,He5,if_pos rfl]
   clear He5
   go_wp2
   go_end0
   rw [HE.out]
   exact ⟨rfl,(HBk5.out _ _ HMf.out).bcm⟩
  | false =>
   rw [if_neg (by simp)] at He5
   obtain ⟨v1,v2,hM5⟩ := HMf.out.put (k := i) (by simp only [HLS.out];exact hil) (j := 0) (x := .int .i64 (mo4 m).ver) (y := .int .i64 ((mo4 m).ver + 1)) (r' := { mo4 m with ver := (mo4 m).ver + 1 }) (by simp only [HSL.out];rfl) (by simp only [HSL.out];rfl)
   simp only [Nat.add_zero,List.set_set] at v1 v2 hM5
   have hwv : wrap64 ((mo4 m).ver + 1) = (mo4 m).ver + 1 := by rw [G.ver];have := HVR.out;unfold wrap64;omega
   have HE : Hid (Bcm w (wE.setCell ⟨g,off + i * 8,none⟩ (.int .i64 ((mo4 m).ver + 1))) B o (mb5 (stepMb m)) fp) := by
    rw [Hid,HZ.out,He5]
    exact (HBk5.out _ _ hM5).bcm
   clear hM5 He5 HMf
   go_wp2
   go_end0
   exact ⟨rfl,HE.out⟩
end Go.Proofs.YthioodpmgifomaaGreat
namespace Go.Proofs.YthioodpmgifomaaGreat
set_option linter.unusedVariables false
set_option linter.unusedSimpArgs false
open Go.RowKit Go.Sort
end Go.Proofs.YthioodpmgifomaaGreat
namespace Go.Proofs.YthioodpmgifomaaGreat
set_option linter.unusedVariables false
set_option linter.unusedSimpArgs false
open Go.RowKit Go.Sort
def szP (R : List Rw) (k : Nat) : Nat := ((R.take k).map szRw).sum
def szRs (R : List Rw) : Nat := R.length + szP R R.length
def szMb (m : Mb) : Nat := szRs m.rows + m.sung.length
end Go.Proofs.YthioodpmgifomaaGreat
namespace Go.Proofs.YthioodpmgifomaaGreat
set_option linter.unusedVariables false
set_option linter.unusedSimpArgs false
open Go.RowKit Go.Sort
end Go.Proofs.YthioodpmgifomaaGreat
namespace Go.Proofs.YthioodpmgifomaaGreat
set_option linter.unusedVariables false
set_option linter.unusedSimpArgs false
open Go.RowKit Go.Sort
end Go.Proofs.YthioodpmgifomaaGreat
namespace Go.Proofs.YthioodpmgifomaaGreat
set_option linter.unusedVariables false
set_option linter.unusedSimpArgs false
open Go.RowKit Go.Sort
theorem Bcm.at {w X : World} {B o : Nat} {cs : List Cel} {fp : Fp} (h : Bcm w X B o cs fp) {j : Nat} {c : Cel} (hj : cs[j]? = some c) : ∃ u f,X.cell? ⟨B,o + j,none⟩ = some u ∧ X.frozen? ⟨B,o + j,none⟩ = false ∧ Cel.ow X c u f ∧
  ∀ (X1 : World) (c' : Cel) (u' : Value) (f' : Fp),Wrt f X X1 → Cel.ow X1 c' u' f' → (∀ b,f' b → f b ∨ X.heap.size ≤ b) → X1.cell? ⟨B,o + j,none⟩ = some u ∧ X1.frozen? ⟨B,o + j,none⟩ = false ∧ Bcm w (X1.setCell ⟨B,o + j,none⟩ u') B o (cs.set j c') fp ∧ (u' = u → Bcm w X1 B o (cs.set j c') fp) := by
 obtain ⟨fp1,hp,_,hgo⟩ := h.next
 obtain ⟨u,f,h1,h2,h3,h4,h5,h6⟩ := hp.at hj
 refine ⟨u,f,h1,h2,h3,fun X1 c' u' f' hw hc hf => ?_⟩
 obtain ⟨k1,k2,k3,k4⟩ := h6 X1 c' u' f' hw hc hf
 exact ⟨k1,k2,hgo _ _ (by simp) k3,fun e => hgo _ _ (by simp) (k4 e)⟩
theorem Bcm.put {w X : World} {B o : Nat} {cs : List Cel} {fp : Fp} (h : Bcm w X B o cs fp) {j : Nat} {x : Value} (hj : cs[j]? = some (.v x)) (y : Value) : X.cell? ⟨B,o + j,none⟩ = some x ∧ X.frozen? ⟨B,o + j,none⟩ = false ∧ Bcm w (X.setCell ⟨B,o + j,none⟩ y) B o (cs.set j (.v y)) fp := by
 obtain ⟨u,f,h1,h2,⟨rfl,_⟩,h4⟩ := h.at hj
 exact ⟨h1,h2,(h4 X (.v y) y (fun _ => False) (Wrt.refl _ _) ⟨rfl,fun _ h => h⟩ (fun b hb => hb.elim)).2.2.1⟩
def m3 (k : Int) : Bool := k % 3 == 0
def cnt8 (r : Rw) : Nat := 1 + r.txt.length + r.got.length + r.sus.length + 1 + 1 + 1 + r.trm.length
def cP (R : List Rw) (k : Nat) : Nat := ((R.take k).map cnt8).sum
end Go.Proofs.YthioodpmgifomaaGreat
namespace Go.Proofs.YthioodpmgifomaaGreat
set_option linter.unusedVariables false
set_option linter.unusedSimpArgs false
open Go.RowKit Go.Sort
end Go.Proofs.YthioodpmgifomaaGreat
namespace Go.Proofs.YthioodpmgifomaaGreat
set_option linter.unusedVariables false
set_option linter.unusedSimpArgs false
open Go.RowKit Go.Sort
theorem owL_two {w : World} {c1 c2 : Cel} {v1 v2 : Value} {f : Fp} (h : owL w [c1,c2] [v1,v2] f) : ∃ f1 f2,Cel.ow w c1 v1 f1 ∧ Cel.ow w c2 v2 f2 ∧ (∀ b,f1 b → ¬ f2 b) ∧ ∀ b,f b ↔ f1 b ∨ f2 b := by
 obtain ⟨u1,us1,f1,g1,e1,o1,h2,d1,i1⟩ := h
 cases e1
 obtain ⟨u2,us2,f2,g2,e2,o2,h3,d2,i2⟩ := h2
 cases e2
 have hg : ∀ b,¬ g2 b := h3.2
 refine ⟨f1,f2,o1,o2,fun b h1 h2 => d1 b h1 ((i2 b).2 (.inl h2)),fun b => ?_⟩
 rw [i1,i2]
 exact ⟨fun h => h.imp id (fun h => h.elim id (fun h => absurd h (hg b))),fun h => h.imp id .inl⟩
def cntMb (m : Mb) : Nat := cP m.rows m.rows.length + m.sung.length
end Go.Proofs.YthioodpmgifomaaGreat
namespace Go.Proofs.YthioodpmgifomaaGreat
set_option linter.unusedVariables false
set_option linter.unusedSimpArgs false
open Go.RowKit Go.Sort
end Go.Proofs.YthioodpmgifomaaGreat
namespace Go.Proofs.YthioodpmgifomaaGreat
set_option linter.unusedVariables false
set_option linter.unusedSimpArgs false
open Go.RowKit Go.Sort
attribute [local irreducible] sv
end Go.Proofs.YthioodpmgifomaaGreat
namespace Go.Proofs.YthioodpmgifomaaGreat
set_option linter.unusedVariables false
set_option linter.unusedSimpArgs false
open Go.RowKit Go.Sort
end Go.Proofs.YthioodpmgifomaaGreat
namespace Go.Proofs.YthioodpmgifomaaGreat
set_option linter.unusedVariables false
set_option linter.unusedSimpArgs false
open Go.RowKit Go.Sort
def Mb64 (m : Mb) : Prop := I64v m.id ∧ I64v m.n ∧ ∀ r ∈ m.rows,Rw64 r
structure MbP (w : World) (A : Ma) (m : Mb) : Prop where
 own : ∃ f,owL w (mbCels m) (mbVals A m) f
 fit : FitM m
 i64 : Mb64 m
 sz : szMb m ≤ 1048576
def ImplMemberOk : Prop := ∀ (A : Ma) (m : Mb) (w : World),MbP w A m → Calls Tryz.prog 20 #[mbV A m] w fun e w' => e = .returned (.bool (okMb m)) ∧ Below w.heap.size w w'
def ImplNewMember : Prop := ∀ (id n : Int) (w : World),I64v id → I64v n → Calls Tryz.prog 17 #[.int .i64 id,.int .i64 n] w fun e w' => AnsMf w w' e (newMb id n).1 (newMb id n).2
def ImplSay : Prop := ∀ (A : Ma) (m : Mb) (t : List UInt8) (w : World),MbP w A m → t.length ≤ 1048576 → Calls Tryz.prog 11 #[mbV A m,.string (sv t)] w fun e w' => AnsMf w w' e (sayM m t).1 (sayM m t).2
def ImplDoubt : Prop := ∀ (A : Ma) (m : Mb) (who : Int) (w : World),MbP w A m → I64v who → Calls Tryz.prog 13 #[mbV A m,.int .i64 who] w fun e w' => AnsMf w w' e (dbtM m who).1 (dbtM m who).2
def ImplHeard : Prop := ∀ (A : Ma) (m : Mb) (fr : Int) (Ar : Ra) (r : Rw) (w : World),MbP w A m → I64v fr → RwP w Ar r → Calls Tryz.prog 15 #[mbV A m,.int .i64 fr,rwV Ar r] w fun e w' => AnsMf w w' e (hrdM m fr r).1 (hrdM m fr r).2
theorem It.wide {w X : World} {cs : List Cel} {vs : List Value} {lo hi : Nat} (h : It w cs vs lo hi) (hs : X.heap.size ≤ w.heap.size) (hh : hi ≤ X.heap.size) : It w cs vs lo w.heap.size := by
 obtain ⟨f,h1,h2⟩ := h
 exact ⟨f,h1,fun b hb => ⟨(h2 b hb).1,by have := (h2 b hb).2;omega⟩⟩
def SmM (m : Mb) : Prop := FitM m ∧ cntMb m ≤ 1000 ∧ m.rows.length ≤ 5 ∧ szMb m ≤ 100000
theorem sum_le (F : Rw → Nat) (c : Nat) : ∀ (R : List Rw),(∀ r ∈ R,F r ≤ c) → (R.map F).sum ≤ c * R.length
 | [],_ => by simp
 | r :: R,h => by
  have ih := sum_le F c R (fun x hx => h x (List.mem_cons_of_mem _ hx))
  have h1 := h r List.mem_cons_self
  rw [List.map_cons,List.sum_cons,List.length_cons,Nat.mul_succ]
  omega
theorem OkR.c8 {r : Rw} {n : Nat} (h : OkR r n) : cnt8 r ≤ 31 ∧ szRw r ≤ 300 := by
 have h5 := h.n5
 have h1 := h.gl
 have h2 := h.sl
 have h3 := h.ml
 have h4 := h.tl
 have h6 : totS r.txt r.txt.length ≤ r.txt.length * 20 := totS_le (fun i hi => h.ts _ (by rw [List.getD_eq_getElem?_getD,List.getElem?_eq_getElem hi];exact List.getElem_mem hi)) _ (Nat.le_refl _)
 unfold cnt8 szRw
 omega
theorem OkM.small {m : Mb} {i n : Nat} (h : OkM m i n) : SmM m := by
 have h5 := h.n5
 have hl := h.len
 have hs := h.sl
 have e1 : cP m.rows m.rows.length ≤ 31 * m.rows.length := by
  unfold cP
  rw [List.take_length]
  exact sum_le cnt8 31 m.rows (fun r hr => (h.rowOk r hr).c8.1)
 have e2 : szP m.rows m.rows.length ≤ 300 * m.rows.length := by
  unfold szP
  rw [List.take_length]
  exact sum_le szRw 300 m.rows (fun r hr => (h.rowOk r hr).c8.2)
 refine ⟨h.fit, ?_,by omega, ?_⟩
 ·unfold cntMb;omega
 ·unfold szMb szRs;omega
theorem zeroMb_small : SmM zeroMb := ⟨⟨fun r hr => absurd hr List.not_mem_nil,fun x hx => absurd hx List.not_mem_nil⟩,by simp [cntMb,cP,zeroMb],by simp [zeroMb],by simp [szMb,szRs,szP,zeroMb]⟩
theorem newMb_small (id n : Int) : SmM (newMb id n).1 := by
 cases h : (newMb id n).2 with
 | true =>
  obtain ⟨i,k,ok⟩ := okMb_iff.1 (new_okM h)
  exact ok.small
 | false =>
  unfold newMb at h ⊢
  split
  ·rename_i hc;rw [if_pos hc] at h;cases h
  ·exact zeroMb_small
theorem sayM_small (m : Mb) (t : List UInt8) : SmM (sayM m t).1 := by
 unfold sayM
 split
 ·rename_i h;obtain ⟨i,n,ok⟩ := okMb_iff.1 h;exact (say_loc ok t).1.small
 ·exact zeroMb_small
theorem dbtM_small (m : Mb) (who : Int) : SmM (dbtM m who).1 := by
 unfold dbtM
 split
 ·rename_i h;obtain ⟨i,n,ok⟩ := okMb_iff.1 h;exact (doubt_loc ok who).1.small
 ·exact zeroMb_small
theorem hrdM_small (m : Mb) (fr : Int) (r : Rw) : SmM (hrdM m fr r).1 := by
 unfold hrdM
 split
 ·rename_i h;obtain ⟨i,n,ok⟩ := okMb_iff.1 h;exact (heard_loc ok fr r).1.small
 ·exact zeroMb_small
attribute [local irreducible] sv
end Go.Proofs.YthioodpmgifomaaGreat
namespace Go.Proofs.YthioodpmgifomaaGreat
set_option linter.unusedVariables false
set_option linter.unusedSimpArgs false
open Go.RowKit Go.Sort
structure MD (w X Y : World) (p : Nat) (a : Option Addr) (len cap : Nat) (bs : Nat → Int) (o : Nat) (m : Mb) (fp : Fp) : Prop where
 cc : Cc w Y p a len cap bs
 res : Bx Y X.heap.size 27 #[.int .i64 0,.int .i64 0,.slice none 0 0,.slice none 0 0,.bool false]
 plc : Plc Y o 0 (mb5 m) fp
 fpl : ∀ b,fp b → X.heap.size < b
 hpo : p < X.heap.size
 ho : X.heap.size < o
 gr : X.grownBy Y (some p)
section
variable {w X Y Y' : World} {p : Nat} {a : Option Addr} {len cap : Nat} {bs : Nat → Int} {o : Nat} {m m' : Mb} {fp : Fp}
theorem MD.lt (h : MD w X Y p a len cap bs o m fp) : w.heap.size ≤ X.heap.size := by have := h.cc.hp;have := h.hpo;omega
theorem MD.drawn (h : MD w X Y p a len cap bs o m fp) (hg : Y.grownBy Y' (some p)) (hc : Cc w Y' p a len cap bs) : MD w X Y' p a len cap bs o m fp := by
 have h1 := h.hpo
 have h2 := h.ho
 exact ⟨hc,h.res.grown hg (by simp;omega),h.plc.wrt (Wrt.of_grown hg) (fun b hb e => by cases e;rcases hb with hb | hb;have := h.fpl _ hb;omega;omega),h.fpl,h1,h2,grown_trans h.gr hg⟩
theorem MD.step (h : MD w X Y p a len cap bs o m fp) (hb : Below Y.heap.size Y Y') : MD w X Y' p a len cap bs o m fp :=
 ⟨h.cc.step hb,h.res.below hb,h.plc.below hb,h.fpl,h.hpo,h.ho,grown_trans h.gr ⟨hb.os,hb.tape,hb.output,hb.size,fun x hx _ => hb.block x hx⟩⟩
theorem MD.act (h : MD w X Y p a len cap bs o m fp) (hb : Bcm Y Y' o 0 (mb5 m') fp) : ∃ fp',MD w X Y' p a len cap bs o m' fp' := by
 have h1 := h.hpo
 have h2 := h.ho
 have h3 := h.lt
 obtain ⟨fp1,hp,hf,_⟩ := hb.next
 have hs := h.gr.size
 have hw : ∀ b,(fp b ∨ b = o) → X.heap.size < b := fun b hb => by rcases hb with hb | hb;exact h.fpl b hb;omega
 exact ⟨fp1,h.cc.wrt hb.wrt (fun k => by have := hw p k;omega) (fun b k => by have := hw b k;omega),h.res.wrt hb.wrt (fun k => by have := hw _ k;omega),hp,fun b hb => by rcases hf b hb with k | k;exact h.fpl b k;have := h.res.lt;omega,h1,h2,grown_wrt h.gr hb.wrt (fun b k => by have := hw b k;omega)⟩
theorem MD.far (h : MD w X Y p a len cap bs o m fp) {f : Fp} (hw : Wrt f Y Y') (hd : ∀ b,f b → X.heap.size < b ∧ b ≠ o ∧ ¬ fp b) : MD w X Y' p a len cap bs o m fp := by
 have h1 := h.hpo
 have h2 := h.ho
 have h3 := h.lt
 exact ⟨h.cc.wrt hw (fun k => by have := (hd p k).1;omega) (fun b k => by have := (hd b k).1;omega),h.res.wrt hw (fun k => by have := (hd _ k).1;omega),h.plc.wrt hw (fun b hb k => by rcases hb with hb | hb;exact (hd b k).2.2 hb;exact (hd b k).2.1 hb),h.fpl,h1,h2,grown_wrt h.gr hw (fun b k => by have := (hd b k).1;omega)⟩
end
def AnsDm (w X X' : World) (p : Nat) (a : Option Addr) (len cap : Nat) (bs : Nat → Int) (e : Ending) (m : Mb) : Prop := ∃ (A : Ma) (fp : Fp),e = .returned (mbV A m) ∧ owL X' (mbCels m) (mbVals A m) fp ∧ (∀ b,fp b → X.heap.size ≤ b) ∧ Cc w X' p a len cap bs ∧ X.grownBy X' (some p)
def Vb (m : Mb) (q : Int) : Prop := ∀ r ∈ m.rows,r.ver ≤ q
theorem Vb.mono {m : Mb} {p q : Int} (h : Vb m p) (hq : p ≤ q) : Vb m q := fun r hr => Int.le_trans (h r hr) hq
theorem Vb.row {m : Mb} {q : Int} (h : Vb m q) (hq : 0 ≤ q) (j : Nat) : (rowN m.rows j).ver ≤ q := by
 rcases Nat.lt_or_ge j m.rows.length with hj | hj
 ·exact h _ (List.mem_of_getElem? (rowN_at hj))
 ·unfold rowN
  rw [List.getD_eq_getElem?_getD,List.getElem?_eq_none hj]
  exact hq
theorem Vb.set {m m' : Mb} {q : Int} {j : Nat} {r : Rw} (h : Vb m q) (e : m'.rows = m.rows.set j r) (hr : r.ver ≤ q + 1) : Vb m' (q + 1) := fun x hx => by
 rw [e] at hx
 rcases List.mem_or_eq_of_mem_set hx with k | k
 ·have := h x k;omega
 ·rw [k];exact hr
theorem vb_say {m : Mb} {q : Int} (h : Vb m q) (hq : 0 ≤ q) (t : List UInt8) : Vb (sayMb m t).1 (q + 1) := by
 unfold sayMb
 split
 ·exact h.mono (by omega)
 ·exact h.set rfl (by have := h.row hq m.i;simp only [Mb.own];omega)
theorem vb_doubt {m : Mb} {q : Int} (h : Vb m q) (hq : 0 ≤ q) (who : Int) : Vb (doubtMb m who).1 (q + 1) := by
 unfold doubtMb
 split
 ·exact h.mono (by omega)
 ·exact h.set rfl (by have := h.row hq m.i;simp only [Mb.own];omega)
theorem vb_heard {m : Mb} {q : Int} (h : Vb m q) {r : Rw} (hr : r.ver ≤ q + 1) (fr : Int) : Vb (heardMb m fr r).1 (q + 1) := by
 unfold heardMb
 split
 ·exact h.mono (by omega)
 ·exact h.set rfl hr
theorem vb_step {m : Mb} {i n : Nat} (ok : OkM m i n) {q : Int} (h : Vb m q) (hq : 0 ≤ q) : Vb (stepMb m) (q + 1) := by
 unfold stepMb
 split
 ·exact h.mono (by omega)
 ·rename_i hn
  refine h.set rfl ?_
  have S := step_stg ok (by cases e : m.done with | false => rfl | true => exact absurd (.inl e) hn)
  have := h.row hq i
  have hv := S.ver
  rw [S.e5]
  split
  ·omega
  ·simp only;omega
theorem vb_new (i n : Int) : Vb (newMb i n).1 0 := by
 unfold newMb
 split
 ·intro r hr
  rw [(List.mem_replicate.1 hr).2]
  unfold newRw
  split <;> exact Int.le_refl _
 ·exact fun r hr => absurd hr List.not_mem_nil
attribute [local irreducible] sv
set_option maxRecDepth 100000 in
set_option maxHeartbeats 6400000 in
theorem drawMb_any {w X : World} {p : Nat} {a : Option Addr} {len cap : Nat} {bs : Nat → Int} (h : Cc w X p a len cap bs) :
  Calls Tryz.prog 111 #[.pointer (some ⟨p,0,none⟩)] X fun e X' => ∃ m,((∃ i n,OkM m i n) ∧ Vb m 13) ∧ AnsDm w X X' p a len cap bs e m := by
 have hpX := h.lt
 have hwp := h.hp
 have b0 := oneA16 X (.cells #[.int .i64 0,.int .i64 0,.slice none 0 0,.slice none 0 0,.bool false] 27)
 have HR0 : Hid (Bx (X.alloc (.cells #[.int .i64 0,.int .i64 0,.slice none 0 0,.slice none 0 0,.bool false] 27)) X.heap.size 27 #[.int .i64 0,.int .i64 0,.slice none 0 0,.slice none 0 0,.bool false]) := Bx.new X _ _
 have HC0 : Hid (Cc w (X.alloc (.cells #[.int .i64 0,.int .i64 0,.slice none 0 0,.slice none 0 0,.bool false] 27)) p a len cap bs) := h.step b0
 have HG0 : Hid (X.grownBy (X.alloc (.cells #[.int .i64 0,.int .i64 0,.slice none 0 0,.slice none 0 0,.bool false] 27)) (some p)) := ⟨b0.os,b0.tape,b0.output,b0.size,fun x hx _ => b0.block x hx⟩
 clear h b0
 generalize hWW : X.alloc (.cells #[.int .i64 0,.int .i64 0,.slice none 0 0,.slice none 0 0,.bool false] 27) = W0 at *
 go_enter Tryz.func111,Tryz.ntmps111
 go_wp2_with fail
 refine (belowC 4 4 rfl HC0.out (by omega) (by omega)).mono ?_
 rintro e W1 ⟨y,rfl,hy,c1,g1⟩
 obtain ⟨n,hn⟩ : ∃ n : Nat,Hid (n = 1 + y) := ⟨_,rfl⟩
 have hn5 : 1 ≤ n ∧ n ≤ 4 := by have := hn.out;omega
 have en : (1 : Int) + (y : Int) = (n : Int) := by have := hn.out;omega
 have HC1 : Hid (Cc w W1 p a len cap bs) := c1
 have HG1 : Hid (X.grownBy W1 (some p)) := grown_trans HG0.out g1
 have HR1 : Hid (Bx W1 X.heap.size 27 #[.int .i64 0,.int .i64 0,.slice none 0 0,.slice none 0 0,.bool false]) := HR0.out.grown g1 (by simp;omega)
 have hB2 := belowC n (n : Int) rfl c1 (by omega) (by omega)
 clear c1 g1 HR0 HC0 HG0
 go_wp2_with fail
 rw [en] at *
 clear en
 refine hB2.mono ?_
 rintro e W2 ⟨i,rfl,hi,c2,g2⟩
 have HC2 : Hid (Cc w W2 p a len cap bs) := c2
 have HG2 : Hid (X.grownBy W2 (some p)) := grown_trans HG1.out g2
 have HR2 : Hid (Bx W2 X.heap.size 27 #[.int .i64 0,.int .i64 0,.slice none 0 0,.slice none 0 0,.bool false]) := HR1.out.grown g2 (by simp;omega)
 have hN := nmbS_any (i : Int) (n : Int) W2
 clear hB2 c2 g2 HR1 HC1 HG1
 go_wp2_with fail
 refine hN.mono ?_
 rintro e W3 ⟨A,rfl,f0,hl,hf0,hb3⟩
 have hnew : (newMb (i : Int) (n : Int)).2 = true ∧ (newMb (i : Int) (n : Int)).1.id = (i : Int) ∧ (newMb (i : Int) (n : Int)).1.n = (n : Int) := by
  unfold newMb
  rw [if_pos ⟨inB7.2 (by omega),inB7.2 (by omega)⟩]
  exact ⟨rfl,rfl,rfl⟩
 have hok0 : OkM (newMb (i : Int) (n : Int)).1 i n := by
  obtain ⟨i',n',ok⟩ := okMb_iff.1 (new_okM hnew.1)
  have e1 : i' = i := by have := ok.hid;rw [hnew.2.1] at this;omega
  have e2 : n' = n := by have := ok.hn;rw [hnew.2.2] at this;omega
  rw [e1,e2] at ok
  exact ok
 have HVb : Hid (Vb (newMb (i : Int) (n : Int)).1 0) := vb_new _ _
 generalize hb0 : (newMb (i : Int) (n : Int)).2 = bb0 at *
 generalize hm0 : (newMb (i : Int) (n : Int)).1 = m0 at *
 clear hnew hb0 hm0 hN
 have hba := oneA16 W3 (.cells #[.int .i64 m0.id,.int .i64 m0.n,.slice A.ra m0.rows.length A.rc,.slice A.sa m0.sung.length A.sc,.bool m0.done] 27)
 have hxb := Bx.new W3 27 #[.int .i64 m0.id,.int .i64 m0.n,.slice A.ra m0.rows.length A.rc,.slice A.sa m0.sung.length A.sc,.bool m0.done]
 have hW23 := hb3.size
 have hXW := HG2.out.size
 have hrl := HR2.out.lt
 have hfl := owL_lt hl
 have HM : Hid (MD w X (W3.alloc (.cells #[.int .i64 m0.id,.int .i64 m0.n,.slice A.ra m0.rows.length A.rc,.slice A.sa m0.sung.length A.sc,.bool m0.done] 27)) p a len cap bs W3.heap.size m0 f0) := by
  refine ⟨(HC2.out.step hb3).step hba,(HR2.out.below hb3).below hba,box_plc hxb (owL_below hl hba) (fun k => by have := hfl _ k;omega),fun b hb => by have := hf0 b hb;omega,hpX,by omega, ?_⟩
  have hg1 : W2.grownBy W3 (some p) := ⟨hb3.os,hb3.tape,hb3.output,hb3.size,fun x hx _ => hb3.block x hx⟩
  have hg2 : W3.grownBy (W3.alloc (.cells #[.int .i64 m0.id,.int .i64 m0.n,.slice A.ra m0.rows.length A.rc,.slice A.sa m0.sung.length A.sc,.bool m0.done] 27)) (some p) := ⟨hba.os,hba.tape,hba.output,hba.size,fun x hx _ => hba.block x hx⟩
  exact grown_trans (grown_trans HG2.out hg1) hg2
 have HOk : Hid (OkM m0 i n) := hok0
 unfold mbV mbC
 clear hl hf0 hb3 hba hxb hok0 HR2 HC2 HG2 hfl
 go_wp2_with fail
 generalize W3.alloc (.cells #[.int .i64 m0.id,.int .i64 m0.n,.slice A.ra m0.rows.length A.rc,.slice A.sa m0.sung.length A.sc,.bool m0.done] 27) = W4 at *
 generalize W3.heap.size = o at *
 refine (belowC 14 14 rfl HM.out.cc (by omega) (by omega)).mono ?_
 rintro e W5 ⟨K,rfl,hK,c5,g5⟩
 have HM5 : Hid (MD w X W5 p a len cap bs o m0 f0) := HM.out.drawn g5 c5
 clear c5 g5 HM
 go_wp2_with fail
 go_loopw [6] (fun v wr => ∃ (k : Nat) (m : Mb) (fp : Fp),k ≤ 13 ∧ v = .int .i64 (k : Int) ∧ OkM m i n ∧ Vb m (13 - (k : Int)) ∧ MD w X wr p a len cap bs o m fp) (fun v _ => (intOf v).toNat)
 case atStart => exact ⟨K,m0,f0,by omega,rfl,HOk.out,HVb.out.mono (by omega),HM5.out⟩
 case round =>
  obtain ⟨k,m,fp,hk,rfl,ok,hvb0,hM⟩ := hrel
  have HV : Hid (Vb m (13 - (k : Int))) := hvb0
  have HQ : Hid (0 ≤ 13 - (k : Int)) := (by omega : 0 ≤ 13 - (k : Int))
  clear hvb0
  have HM : Hid (MD w X wr p a len cap bs o m fp) := hM
  have HO : Hid (OkM m i n) := ok
  clear hM ok HM5 HOk
  by_cases hk0 : 0 < k
  ·have k1 : (0 : Int) < (k : Int) := by omega
   have wk : wrap64 ((k : Int) - 1) = ((k - 1 : Nat) : Int) := by unfold wrap64;omega
   have HF : Hid (∀ (Y : World) (m' : Mb) (fp' : Fp),OkM m' i n → Vb m' (13 - (k : Int) + 1) → MD w X Y p a len cap bs o m' fp' → ∃ (k' : Nat) (m : Mb) (fp : Fp),k' ≤ 13 ∧ (Value.int .i64 ((k : Int) - 1)) = .int .i64 (k' : Int) ∧ OkM m i n ∧ Vb m (13 - (k' : Int)) ∧ MD w X Y p a len cap bs o m fp) := fun Y m' fp' h1 hq h2 => ⟨k - 1,m',fp',by omega,by congr 1;omega,h1,hq.mono (by omega),h2⟩
   clear wk
   have hB6 := belowC 6 6 rfl HM.out.cc (by omega) (by omega)
   go_wp2_with fail
   refine hB6.mono ?_
   rintro e Y1 ⟨y,rfl,hy6,c6,g6⟩
   have HM1 : Hid (MD w X Y1 p a len cap bs o m fp) := HM.out.drawn g6 c6
   clear c6 g6 hB6 HM
   have hys : y = 0 ∨ y = 1 ∨ y = 2 ∨ y = 3 ∨ y = 4 ∨ y = 5 := by omega
   rcases hys with rfl | rfl | rfl | rfl | rfl | rfl
   ·have hT := textR 3 3 rfl (by omega) HM1.out.cc
    go_wp2_with fail
    refine hT.mono ?_
    rintro e Y2 ⟨t,rfl,ht,c7,g7⟩
    have HM2 : Hid (MD w X Y2 p a len cap bs o m fp) := HM1.out.drawn g7 c7
    have hS := saySp_any o 0 m i n t fp Y2 HM2.out.plc HO.out (by omega)
    clear hT c7 g7 HM1
    go_wp2_with fail
    refine hS.mono ?_
    rintro e Y3 ⟨rfl,hBc⟩
    obtain ⟨fp3,h3⟩ := HM2.out.act hBc
    have HE : Hid _ := HF.out Y3 _ fp3 (say_loc HO.out t).1 (vb_say HV.out HQ.out t) h3
    clear hS hBc h3 HM2 HF
    generalize (sayMb m t).2 = sb at *
    go_wp2
    go_roundw
    case rel => exact HE.out
    case measure => simp [intOf];omega
   ·have hT := textR 3 3 rfl (by omega) HM1.out.cc
    go_wp2_with fail
    refine hT.mono ?_
    rintro e Y2 ⟨t,rfl,ht,c7,g7⟩
    have HM2 : Hid (MD w X Y2 p a len cap bs o m fp) := HM1.out.drawn g7 c7
    have hS := saySp_any o 0 m i n t fp Y2 HM2.out.plc HO.out (by omega)
    clear hT c7 g7 HM1
    go_wp2_with fail
    refine hS.mono ?_
    rintro e Y3 ⟨rfl,hBc⟩
    obtain ⟨fp3,h3⟩ := HM2.out.act hBc
    have HE : Hid _ := HF.out Y3 _ fp3 (say_loc HO.out t).1 (vb_say HV.out HQ.out t) h3
    clear hS hBc h3 HM2 HF
    generalize (sayMb m t).2 = sb at *
    go_wp2
    go_roundw
    case rel => exact HE.out
    case measure => simp [intOf];omega
   ·have hO := onceC 3 HM1.out.cc (by omega)
    go_wp2_with fail
    refine hO.mono ?_
    rintro e Y2 ⟨t,rfl,c7,g7⟩
    have HM2 : Hid (MD w X Y2 p a len cap bs o m fp) := HM1.out.drawn g7 c7
    clear hO c7 g7 HM1
    cases t with
    | false =>
     have HE : Hid _ := HF.out Y2 m fp HO.out (HV.out.mono (by omega)) HM2.out
     clear HF HM2
     go_wp2
     go_roundw
     case rel => exact HE.out
     case measure => simp [intOf];omega
    | true =>
     have hB7 := belowC n (n : Int) rfl HM2.out.cc (by omega) (by omega)
     go_wp2_with fail
     refine hB7.mono ?_
     rintro e Y3 ⟨who,rfl,hwho,c8,g8⟩
     have HM3 : Hid (MD w X Y3 p a len cap bs o m fp) := HM2.out.drawn g8 c8
     have hS := dbtSp_any o 0 m i n (who : Int) fp Y3 HM3.out.plc HO.out
     clear hB7 c8 g8 HM2
     go_wp2_with fail
     refine hS.mono ?_
     rintro e Y4 ⟨rfl,hBc⟩
     obtain ⟨fp3,h3⟩ := HM3.out.act hBc
     have HE : Hid _ := HF.out Y4 _ fp3 (doubt_loc HO.out (who : Int)).1 (vb_doubt HV.out HQ.out (who : Int)) h3
     clear hS hBc h3 HM3 HF
     generalize (doubtMb m (who : Int)).2 = sb at *
     go_wp2
     go_roundw
     case rel => exact HE.out
     case measure => simp [intOf];omega
   ·have hD := drawRw_any n (n : Int) rfl (by omega) HM1.out.cc
    go_wp2_with fail
    refine hD.mono ?_
    rintro e Y2 ⟨Ar,r,fr,rfl,hSr,hlr,hfr,c7,g7⟩
    have HM2 : Hid (MD w X Y2 p a len cap bs o m fp) := HM1.out.drawn g7 c7
    have hlrt := owL_lt hlr
    have hr2 := HM2.out.plc.lt
    have HFP2 : Hid (∀ b,fp b → b < Y2.heap.size) := HM2.out.plc.flt
    have HXY : Hid (X.heap.size < Y2.heap.size) := HM2.out.res.lt
    have hba := oneA16 Y2 (.cells #[.int .i64 r.ver,.slice Ar.ta r.txt.length Ar.tc,.slice Ar.ga r.got.length Ar.gc,.slice Ar.sa r.sus.length Ar.sc,.bool r.wed,.bool r.rdy,.int .i64 r.by_,.slice Ar.ma r.trm.length Ar.mc] 37)
    have hxr := Bx.new Y2 37 #[.int .i64 r.ver,.slice Ar.ta r.txt.length Ar.tc,.slice Ar.ga r.got.length Ar.gc,.slice Ar.sa r.sus.length Ar.sc,.bool r.wed,.bool r.rdy,.int .i64 r.by_,.slice Ar.ma r.trm.length Ar.mc]
    have HX3 : Hid (Bx (Y2.alloc (.cells #[.int .i64 r.ver,.slice Ar.ta r.txt.length Ar.tc,.slice Ar.ga r.got.length Ar.gc,.slice Ar.sa r.sus.length Ar.sc,.bool r.wed,.bool r.rdy,.int .i64 r.by_,.slice Ar.ma r.trm.length Ar.mc] 37)) Y2.heap.size 37 #[.int .i64 r.ver,.slice Ar.ta r.txt.length Ar.tc,.slice Ar.ga r.got.length Ar.gc,.slice Ar.sa r.sus.length Ar.sc,.bool r.wed,.bool r.rdy,.int .i64 r.by_,.slice Ar.ma r.trm.length Ar.mc]) := hxr
    have HM3 : Hid (MD w X (Y2.alloc (.cells #[.int .i64 r.ver,.slice Ar.ta r.txt.length Ar.tc,.slice Ar.ga r.got.length Ar.gc,.slice Ar.sa r.sus.length Ar.sc,.bool r.wed,.bool r.rdy,.int .i64 r.by_,.slice Ar.ma r.trm.length Ar.mc] 37)) p a len cap bs o m fp) := HM2.out.step hba
    have HL3 : Hid (owL (Y2.alloc (.cells #[.int .i64 r.ver,.slice Ar.ta r.txt.length Ar.tc,.slice Ar.ga r.got.length Ar.gc,.slice Ar.sa r.sus.length Ar.sc,.bool r.wed,.bool r.rdy,.int .i64 r.by_,.slice Ar.ma r.trm.length Ar.mc] 37)) (rwCels r) (rwVals Ar r) fr) := owL_below hlr hba
    have HSr : Hid (SmR r) := hSr
    have hY12 := g7.size
    have HFr : Hid (∀ b,fr b → p < b) := fun b hb => by have := hfr b hb;have := HM1.out.cc.lt;omega
    have hB7 := belowC n (n : Int) rfl HM3.out.cc (by omega) (by omega)
    have hoY : o < Y2.heap.size := hr2
    clear hD c7 g7 hba hxr HM2 HM1 hlr hSr hfr hr2
    unfold rwV rwC
    go_wp2_with fail
    refine hB7.mono ?_
    rintro e Y4 ⟨F,rfl,hF,c8,g8⟩
    have HM4 : Hid (MD w X Y4 p a len cap bs o m fp) := HM3.out.drawn g8 c8
    have hpY : p < Y2.heap.size := by have := HM3.out.hpo;have := HM3.out.ho;omega
    have hx4 := HX3.out.grown g8 (by simp;omega)
    have HL4 : Hid (owL Y4 (rwCels r) (rwVals Ar r) fr) := owL_wrt HL3.out (Wrt.of_grown g8) (fun b hb e => by cases e;have := HFr.out _ hb;omega)
    have hFl : F < m.rows.length := by rw [HO.out.len];exact hF
    have hF1 : (F : Int) < (m.rows.length : Int) := by omega
    have hF0 : (0 : Int) ≤ (F : Int) := by omega
    obtain ⟨gg,go,gc,M4⟩ := Mw.start HM4.out.plc (by omega)
    obtain ⟨_,_,v0,_,⟨rfl,_⟩,_⟩ := M4.at hFl (j := 0) (cl := .v (.int .i64 (rowN m.rows F).ver)) rfl
    have d2 := M4.rws
    simp only [Nat.add_zero,Nat.zero_add] at v0 d2
    have hvb := (HO.out.ok F hF).ver
    have wv : wrap64 ((rowN m.rows F).ver + 1) = (rowN m.rows F).ver + 1 := by unfold wrap64;omega
    obtain ⟨⟨x0,x1,x2,x3⟩,x4,x5,x6,x7⟩ := Bx.r8 hx4
    have z0 := hx4.f 0
    have HX5 : Hid (Bx (Y4.setCell ⟨Y2.heap.size,0,none⟩ (.int .i64 ((rowN m.rows F).ver + 1))) Y2.heap.size 37 #[.int .i64 ((rowN m.rows F).ver + 1),.slice Ar.ta r.txt.length Ar.tc,.slice Ar.ga r.got.length Ar.gc,.slice Ar.sa r.sus.length Ar.sc,.bool r.wed,.bool r.rdy,.int .i64 r.by_,.slice Ar.ma r.trm.length Ar.mc]) := by have := hx4.setC 0 (.int .i64 ((rowN m.rows F).ver + 1));rw [Hid];simpa using this
    have hW5 := Wrt.set Y4 Y2.heap.size 0 (.int .i64 ((rowN m.rows F).ver + 1))
    have HM5 : Hid (MD w X (Y4.setCell ⟨Y2.heap.size,0,none⟩ (.int .i64 ((rowN m.rows F).ver + 1))) p a len cap bs o m fp) := HM4.out.far hW5 (fun b k => by have := HXY.out;rw [k];exact ⟨this,by omega,fun k => by have := HFP2.out _ k;omega⟩)
    have HL5 : Hid (owL (Y4.setCell ⟨Y2.heap.size,0,none⟩ (.int .i64 ((rowN m.rows F).ver + 1))) (rwCels r) (rwVals Ar r) fr) := owL_wrt HL4.out hW5 (fun b hb e => by have := hlrt b hb;omega)
    have hrw : RwS (Y4.setCell ⟨Y2.heap.size,0,none⟩ (.int .i64 ((rowN m.rows F).ver + 1))) Ar { r with ver := (rowN m.rows F).ver + 1 } := by
     have := it_rws (owL_it HL5.out (lo := 0) (fun b _ => Nat.zero_le b)) HSr.out.fit HSr.out.sz
     exact ⟨this.txt,this.got,this.sus,this.trm,this.mt,this.mg,this.ms,this.mm⟩
    have hS := hrdSp_any o 0 m i n (F : Int) Ar { r with ver := (rowN m.rows F).ver + 1 } fp _ HM5.out.plc HO.out hrw ⟨by omega,by omega⟩
    unfold rwV rwC at hS
    simp only at hS
    clear hB7 c8 g8 HM4 HX3 HM3 HL3 HL4 M4 hx4 hrw hW5
    go_upto_region 19 with fail
    clear x0 x1 x2 x3 x4 x5 x6 x7 z0 v0 d2
    generalize Y4.setCell ⟨Y2.heap.size,0,none⟩ (.int .i64 ((rowN m.rows F).ver + 1)) = Y5 at *
    obtain ⟨⟨x0,x1,x2,x3⟩,x4,x5,x6,x7⟩ := Bx.r8 HX5.out
    go_wp2_with fail
    refine hS.mono ?_
    rintro e Y6 ⟨rfl,hBc⟩
    obtain ⟨fp3,h3⟩ := HM5.out.act hBc
    have HE : Hid _ := HF.out Y6 _ fp3 (heard_loc HO.out (F : Int) { r with ver := (rowN m.rows F).ver + 1 }).1 (vb_heard HV.out (Int.add_le_add_right (HV.out.row HQ.out F) 1) (F : Int)) h3
    clear hS hBc h3 HM5 HF x0 x1 x2 x3 x4 x5 x6 x7
    generalize (heardMb m (F : Int) { r with ver := (rowN m.rows F).ver + 1 }).2 = sb at *
    go_wp2
    go_roundw
    case rel => exact HE.out
    case measure => simp [intOf];omega
   ·have hD := drawRw_any n (n : Int) rfl (by omega) HM1.out.cc
    go_wp2_with fail
    refine hD.mono ?_
    rintro e Y2 ⟨Ar,r,fr,rfl,hSr,hlr,hfr,c7,g7⟩
    have HM2 : Hid (MD w X Y2 p a len cap bs o m fp) := HM1.out.drawn g7 c7
    have hlrt := owL_lt hlr
    have hr2 := HM2.out.plc.lt
    have HFP2 : Hid (∀ b,fp b → b < Y2.heap.size) := HM2.out.plc.flt
    have HXY : Hid (X.heap.size < Y2.heap.size) := HM2.out.res.lt
    have hba := oneA16 Y2 (.cells #[.int .i64 r.ver,.slice Ar.ta r.txt.length Ar.tc,.slice Ar.ga r.got.length Ar.gc,.slice Ar.sa r.sus.length Ar.sc,.bool r.wed,.bool r.rdy,.int .i64 r.by_,.slice Ar.ma r.trm.length Ar.mc] 37)
    have hxr := Bx.new Y2 37 #[.int .i64 r.ver,.slice Ar.ta r.txt.length Ar.tc,.slice Ar.ga r.got.length Ar.gc,.slice Ar.sa r.sus.length Ar.sc,.bool r.wed,.bool r.rdy,.int .i64 r.by_,.slice Ar.ma r.trm.length Ar.mc]
    have HX3 : Hid (Bx (Y2.alloc (.cells #[.int .i64 r.ver,.slice Ar.ta r.txt.length Ar.tc,.slice Ar.ga r.got.length Ar.gc,.slice Ar.sa r.sus.length Ar.sc,.bool r.wed,.bool r.rdy,.int .i64 r.by_,.slice Ar.ma r.trm.length Ar.mc] 37)) Y2.heap.size 37 #[.int .i64 r.ver,.slice Ar.ta r.txt.length Ar.tc,.slice Ar.ga r.got.length Ar.gc,.slice Ar.sa r.sus.length Ar.sc,.bool r.wed,.bool r.rdy,.int .i64 r.by_,.slice Ar.ma r.trm.length Ar.mc]) := hxr
    have HM3 : Hid (MD w X (Y2.alloc (.cells #[.int .i64 r.ver,.slice Ar.ta r.txt.length Ar.tc,.slice Ar.ga r.got.length Ar.gc,.slice Ar.sa r.sus.length Ar.sc,.bool r.wed,.bool r.rdy,.int .i64 r.by_,.slice Ar.ma r.trm.length Ar.mc] 37)) p a len cap bs o m fp) := HM2.out.step hba
    have HL3 : Hid (owL (Y2.alloc (.cells #[.int .i64 r.ver,.slice Ar.ta r.txt.length Ar.tc,.slice Ar.ga r.got.length Ar.gc,.slice Ar.sa r.sus.length Ar.sc,.bool r.wed,.bool r.rdy,.int .i64 r.by_,.slice Ar.ma r.trm.length Ar.mc] 37)) (rwCels r) (rwVals Ar r) fr) := owL_below hlr hba
    have HSr : Hid (SmR r) := hSr
    have hY12 := g7.size
    have HFr : Hid (∀ b,fr b → p < b) := fun b hb => by have := hfr b hb;have := HM1.out.cc.lt;omega
    have hB7 := belowC n (n : Int) rfl HM3.out.cc (by omega) (by omega)
    have hoY : o < Y2.heap.size := hr2
    clear hD c7 g7 hba hxr HM2 HM1 hlr hSr hfr hr2
    unfold rwV rwC
    go_wp2_with fail
    refine hB7.mono ?_
    rintro e Y4 ⟨F,rfl,hF,c8,g8⟩
    have HM4 : Hid (MD w X Y4 p a len cap bs o m fp) := HM3.out.drawn g8 c8
    have hpY : p < Y2.heap.size := by have := HM3.out.hpo;have := HM3.out.ho;omega
    have hx4 := HX3.out.grown g8 (by simp;omega)
    have HL4 : Hid (owL Y4 (rwCels r) (rwVals Ar r) fr) := owL_wrt HL3.out (Wrt.of_grown g8) (fun b hb e => by cases e;have := HFr.out _ hb;omega)
    have hFl : F < m.rows.length := by rw [HO.out.len];exact hF
    have hF1 : (F : Int) < (m.rows.length : Int) := by omega
    have hF0 : (0 : Int) ≤ (F : Int) := by omega
    obtain ⟨gg,go,gc,M4⟩ := Mw.start HM4.out.plc (by omega)
    obtain ⟨_,_,v0,_,⟨rfl,_⟩,_⟩ := M4.at hFl (j := 0) (cl := .v (.int .i64 (rowN m.rows F).ver)) rfl
    have d2 := M4.rws
    simp only [Nat.add_zero,Nat.zero_add] at v0 d2
    have hvb := (HO.out.ok F hF).ver
    have wv : wrap64 ((rowN m.rows F).ver + 1) = (rowN m.rows F).ver + 1 := by unfold wrap64;omega
    obtain ⟨⟨x0,x1,x2,x3⟩,x4,x5,x6,x7⟩ := Bx.r8 hx4
    have z0 := hx4.f 0
    have HX5 : Hid (Bx (Y4.setCell ⟨Y2.heap.size,0,none⟩ (.int .i64 ((rowN m.rows F).ver + 1))) Y2.heap.size 37 #[.int .i64 ((rowN m.rows F).ver + 1),.slice Ar.ta r.txt.length Ar.tc,.slice Ar.ga r.got.length Ar.gc,.slice Ar.sa r.sus.length Ar.sc,.bool r.wed,.bool r.rdy,.int .i64 r.by_,.slice Ar.ma r.trm.length Ar.mc]) := by have := hx4.setC 0 (.int .i64 ((rowN m.rows F).ver + 1));rw [Hid];simpa using this
    have hW5 := Wrt.set Y4 Y2.heap.size 0 (.int .i64 ((rowN m.rows F).ver + 1))
    have HM5 : Hid (MD w X (Y4.setCell ⟨Y2.heap.size,0,none⟩ (.int .i64 ((rowN m.rows F).ver + 1))) p a len cap bs o m fp) := HM4.out.far hW5 (fun b k => by have := HXY.out;rw [k];exact ⟨this,by omega,fun k => by have := HFP2.out _ k;omega⟩)
    have HL5 : Hid (owL (Y4.setCell ⟨Y2.heap.size,0,none⟩ (.int .i64 ((rowN m.rows F).ver + 1))) (rwCels r) (rwVals Ar r) fr) := owL_wrt HL4.out hW5 (fun b hb e => by have := hlrt b hb;omega)
    have hrw : RwS (Y4.setCell ⟨Y2.heap.size,0,none⟩ (.int .i64 ((rowN m.rows F).ver + 1))) Ar { r with ver := (rowN m.rows F).ver + 1 } := by
     have := it_rws (owL_it HL5.out (lo := 0) (fun b _ => Nat.zero_le b)) HSr.out.fit HSr.out.sz
     exact ⟨this.txt,this.got,this.sus,this.trm,this.mt,this.mg,this.ms,this.mm⟩
    have hS := hrdSp_any o 0 m i n (F : Int) Ar { r with ver := (rowN m.rows F).ver + 1 } fp _ HM5.out.plc HO.out hrw ⟨by omega,by omega⟩
    unfold rwV rwC at hS
    simp only at hS
    clear hB7 c8 g8 HM4 HX3 HM3 HL3 HL4 M4 hx4 hrw hW5
    go_upto_region 19 with fail
    clear x0 x1 x2 x3 x4 x5 x6 x7 z0 v0 d2
    generalize Y4.setCell ⟨Y2.heap.size,0,none⟩ (.int .i64 ((rowN m.rows F).ver + 1)) = Y5 at *
    obtain ⟨⟨x0,x1,x2,x3⟩,x4,x5,x6,x7⟩ := Bx.r8 HX5.out
    go_wp2_with fail
    refine hS.mono ?_
    rintro e Y6 ⟨rfl,hBc⟩
    obtain ⟨fp3,h3⟩ := HM5.out.act hBc
    have HE : Hid _ := HF.out Y6 _ fp3 (heard_loc HO.out (F : Int) { r with ver := (rowN m.rows F).ver + 1 }).1 (vb_heard HV.out (Int.add_le_add_right (HV.out.row HQ.out F) 1) (F : Int)) h3
    clear hS hBc h3 HM5 HF x0 x1 x2 x3 x4 x5 x6 x7
    generalize (heardMb m (F : Int) { r with ver := (rowN m.rows F).ver + 1 }).2 = sb at *
    go_wp2
    go_roundw
    case rel => exact HE.out
    case measure => simp [intOf];omega
   ·have hS := stpSp_any o 0 m i n fp Y1 HM1.out.plc HO.out
    go_wp2_with fail
    refine hS.mono ?_
    rintro e Y2 ⟨rfl,hBc⟩
    obtain ⟨fp3,h3⟩ := HM1.out.act hBc
    have HE : Hid _ := HF.out Y2 _ fp3 (stepM HO.out).ok (vb_step HO.out HV.out HQ.out) h3
    clear hS hBc h3 HM1 HF
    go_wp2
    go_roundw
    case rel => exact HE.out
    case measure => simp [intOf];omega
  ·have k1 : ¬ ((0 : Int) < (k : Int)) := by omega
   obtain ⟨vs,hpc,hov,hnB⟩ := HM.out.plc
   obtain ⟨A9,rfl,hl9⟩ := mb5_ow hov
   have hl5 : (mbC A9 m).toList.length = 5 := rfl
   have c0 := hpc.cell 0 (by rw [hl5];omega)
   have c1 := hpc.cell 1 (by rw [hl5];omega)
   have c2 := hpc.cell 2 (by rw [hl5];omega)
   have c3 := hpc.cell 3 (by rw [hl5];omega)
   have c4 := hpc.cell 4 (by rw [hl5];omega)
   simp only [Nat.zero_add] at c0 c1 c2 c3 c4
   replace c0 : wr.cell? ⟨o,0,none⟩ = some (.int .i64 m.id) := c0
   replace c1 : wr.cell? ⟨o,1,none⟩ = some (.int .i64 m.n) := c1
   replace c2 : wr.cell? ⟨o,2,none⟩ = some (.slice A9.ra m.rows.length A9.rc) := c2
   replace c3 : wr.cell? ⟨o,3,none⟩ = some (.slice A9.sa m.sung.length A9.sc) := c3
   replace c4 : wr.cell? ⟨o,4,none⟩ = some (.bool m.done) := c4
   obtain ⟨r0,r1,r2,r3,r4⟩ := Bx.r5 HM.out.res
   obtain ⟨f0',f1,f2,f3,f4⟩ := HM.out.res.f5
   have HA : Hid (∀ {x0 x1 x2 x3 x4 : Value},owL (((((wr.setCell ⟨X.heap.size,0,none⟩ x0).setCell ⟨X.heap.size,1,none⟩ x1).setCell ⟨X.heap.size,2,none⟩ x2).setCell ⟨X.heap.size,3,none⟩ x3).setCell ⟨X.heap.size,4,none⟩ x4) (mbCels m) (mbVals A9 m) fp ∧ Cc w (((((wr.setCell ⟨X.heap.size,0,none⟩ x0).setCell ⟨X.heap.size,1,none⟩ x1).setCell ⟨X.heap.size,2,none⟩ x2).setCell ⟨X.heap.size,3,none⟩ x3).setCell ⟨X.heap.size,4,none⟩ x4) p a len cap bs ∧ X.grownBy (((((wr.setCell ⟨X.heap.size,0,none⟩ x0).setCell ⟨X.heap.size,1,none⟩ x1).setCell ⟨X.heap.size,2,none⟩ x2).setCell ⟨X.heap.size,3,none⟩ x3).setCell ⟨X.heap.size,4,none⟩ x4) (some p)) := fun {x0 x1 x2 x3 x4} => by
    have hw := wrt5 wr X.heap.size (a := x0) (b := x1) (c := x2) (d := x3) (e := x4)
    have h1 := HM.out.hpo
    have h3 := HM.out.lt
    exact ⟨owL_wrt hl9 hw (fun b hb e => by have := HM.out.fpl b hb;omega),HM.out.cc.wrt hw (by omega) (fun b e => by omega),grown_wrt HM.out.gr hw (fun b e => by omega)⟩
   have HFL : Hid (∀ b,fp b → X.heap.size ≤ b) := fun b hb => by have := HM.out.fpl b hb;omega
   clear hpc hov hl9 HM hnB hl5
   go_wp2
   refine bodyPost_ret (v := .agg #[.int .i64 m.id,.int .i64 m.n,.slice A9.ra m.rows.length A9.rc,.slice A9.sa m.sung.length A9.sc,.bool m.done]) (by simp [results,Tryz.results111,go_sem, *]) rfl ?_
   exact ⟨m,⟨⟨i,n,HO.out⟩,HV.out.mono (by omega)⟩,A9,fp,rfl,HA.out.1,HFL.out,HA.out.2⟩
end Go.Proofs.YthioodpmgifomaaGreat