/-
  Texts in one: Mcj Mck Mcg Mcl Mcm Mcn Mco Mcp Mch Mcd Mcf Mcq.
-/
import Derived.Test.YtidnfdobljihoaaGreatJai
import Derived.Test.YtidnfdobljihoaaGreatJah
import Derived.Test.YtidnfdobljihoaaGreatJag
import Derived.Test.YtidnfdobljihoaaGreatJaj
import Derived.Test.YtidnfdobljihoaaGreatJaf
import Derived.Test.YtidnfdobljihoaaGreatJad
import Derived.Test.YtidnfdobljihoaaGreatJac
import Derived.Test.YtidnfdobljihoaaGreatJae
import Derived.Deep.CutRange
import Derived.BigQuiet
namespace Go.Proofs.YtidnfdobljihoaaGreat
set_option linter.unusedVariables false
set_option linter.unusedSimpArgs false
open Go.RowKit Go.Sort
theorem Mw.call {w X : World} {B o : Nat} {m : Mb} {fp : Fp} {g off c : Nat} (h : Mw w X B o m fp g off c) : ∃ fp1,Plc X B o (mb5 m) fp1 ∧ (∀ b,fp1 b → fp b ∨ w.heap.size ≤ b) ∧ ∀ (Y : World) (m' : Mb),m'.rows.length = m.rows.length → Mk X Y B o m' fp1 → Mw w Y B o m' fp g off c := by
 obtain ⟨fp1,hp,hf1,hgo⟩ := h.bcm.next
 exact ⟨fp1,hp,hf1,fun Y m' hl hk => ⟨hgo Y _ rfl hk.bcm,by rw [hk.rws,h.rws,hl]⟩⟩
theorem OkR.sz {r : Rw} {n : Nat} (h : OkR r n) : szRw r ≤ 1048576 := by
 have h5 := h.n5
 have h1 := h.gl
 have h2 := h.sl
 have h3 := h.ml
 have h4 := h.tl
 have h6 : totS r.txt r.txt.length ≤ r.txt.length * 20 := totS_le (fun i hi => h.ts _ (by rw [List.getD_eq_getElem?_getD,List.getElem?_eq_getElem hi];exact List.getElem_mem hi)) _ (Nat.le_refl _)
 unfold szRw
 omega
set_option maxRecDepth 100000 in
set_option maxHeartbeats 6400000 in
theorem stpSp_any (B o : Nat) (m : Mb) (i n : Nat) (fp : Fp) (w : World) (h : Plc w B o (mb5 m) fp) (ok : OkM m i n) :
  Calls Tryz.prog 42 #[.pointer (some ⟨B,o,none⟩)] w fun e w' => e = .returned (.tuple #[]) ∧ Bcm w w' B o (mb5 (stepMb m)) fp := by
 have hmix := mixed17
 have hil : i < m.rows.length := by rw [ok.len];exact ok.lt
 obtain ⟨g,off,c,M0⟩ := Mw.start h (by omega)
 obtain ⟨c0,c1,c4⟩ := M0.id'
 have c2 := M0.rws
 rw [ok.hid] at c0
 have i0 : (0 : Int) ≤ (i : Int) := by omega
 have i1 : (i : Int) < (m.rows.length : Int) := by omega
 have p0 : ∀ q : Bk w,q.w.cell? ⟨B,o,none⟩ = _ := fun q => (q.h.cell (World.block_lt_of_cell? _ _ c0)).trans c0
 have p2 : ∀ q : Bk w,q.w.cell? ⟨B,o + 2,none⟩ = _ := fun q => (q.h.cell (World.block_lt_of_cell? _ _ c2)).trans c2
 have HM0 : Hid (Mw w w B o m fp g off c) := M0
 clear c0 c1 c4 c2 M0 h
 go_enter Tryz.func42,Tryz.ntmps42
 go_wp2_with fail
 refine wp_region_bk (by kernel_rfl) (by kernel_rfl) ?_
 repeat (go_big_quiet_step ((first | rfl)))
 refine wpQuiet_nil ?_
 intro wE hw'
 obtain ⟨⟨w11,hb11⟩,hw''⟩ := hw'
 have hwe : wE = w11 := hw''
 clear hw''
 subst hwe
 clear p0 p2
 have HM1 : Hid (Mw w wE B o m fp g off c) := HM0.out.step hb11
 obtain ⟨c0,c1,c4⟩ := HM1.out.id'
 obtain ⟨Ak,⟨⟨d0,d1,d2,d3⟩,d4,d5,d6,d7⟩,hrs⟩ := HM1.out.row ok.fit hil
 have hr := ok.ok i ok.lt
 have HNo : Hid (m.done = true ∨ (rowN m.rows i).ver = 1000000 → stepMb m = m) := fun h => by rw [stepMb,if_pos (by rw [ok.own];exact h)]
 have HYes : Hid (¬ (m.done = true ∨ (rowN m.rows i).ver = 1000000) → stepMb m = { m with rows := m.rows.set i (mo5 m),sung := if moE m = true then songT (moS m) (mo4 m).trm else moS m,done := moE m }) := fun h => by rw [stepMb,if_neg (by rw [ok.own];exact h),ok.i]
 cases hdn : m.done with
 | true =>
  have HZ : Hid (stepMb m = m) := HNo.out (.inl hdn)
  rw [hdn] at c4
  clear HNo HYes hrs d0 d1 d2 d3 d4 d5 d6 d7 c0 c1 hdn
  go_wp2
  (try simp only [Exit.inBlock,Exit.then])
  refine bodyPost_ret (results_none rfl _ _ _) rfl ?_
  rw [HZ.out]
  exact ⟨rfl,HM1.out.bcm⟩
 | false =>
 rw [hdn] at c4
 by_cases hver : (rowN m.rows i).ver = 1000000
 ·have HZ : Hid (stepMb m = m) := HNo.out (.inr hver)
  have ev : ((rowN m.rows i).ver == 1000000) = true := by rw [hver];rfl
  clear HNo HYes hrs d1 d2 d3 d4 d5 d6 d7 c0 c1 hdn hver
  go_wp2
  (try simp only [Exit.inBlock,Exit.then])
  refine bodyPost_ret (results_none rfl _ _ _) rfl ?_
  rw [HZ.out]
  exact ⟨rfl,HM1.out.bcm⟩
 have ev : ((rowN m.rows i).ver == 1000000) = false := by simpa using hver
 have G := step_stg ok hdn
 have HZ : Hid (stepMb m = _) := HYes.out (by rw [hdn];simp;exact hver)
 have HVB : Hid ((rowN m.rows i).ver ≠ 1000000) := hver
 have HDN : Hid (m.done = false) := hdn
 have hC := cpyRw_any Ak (rowN m.rows i) wE hrs hr.ln.1 hr.ln.2.1 hr.ln.2.2.1 hr.ln.2.2.2
 unfold rwV rwC at hC
 clear HNo HYes hver hdn
 go_wp2_with fail
 refine hC.mono ?_
 rintro e w1 ⟨Ao,rfl,hN⟩
 have HN1 : Hid (NewL wE w1 (rwCels (rowN m.rows i)) (rwVals Ao (rowN m.rows i))) := hN
 clear hN hC hrs d0 d1 d2 d3 d4 d5 d6 d7 c0 c1 c4
 unfold rwV rwC
 go_wp2_with fail
 have hb1 : Below wE.heap.size wE w1 := by obtain ⟨_,_,_,hb⟩ := HN1.out;exact hb
 have hb5 : Below wE.heap.size wE (w1.alloc (.cells #[.int .i64 (rowN m.rows i).ver,.slice Ao.ta (rowN m.rows i).txt.length Ao.tc,.slice Ao.ga (rowN m.rows i).got.length Ao.gc,.slice Ao.sa (rowN m.rows i).sus.length Ao.sc,.bool (rowN m.rows i).wed,.bool (rowN m.rows i).rdy,.int .i64 (rowN m.rows i).by_,.slice Ao.ma (rowN m.rows i).trm.length Ao.mc] 37)) := hb1.trans ((oneA16 w1 _).mono hb1.size)
 have hx5 : Bx (w1.alloc (.cells #[.int .i64 (rowN m.rows i).ver,.slice Ao.ta (rowN m.rows i).txt.length Ao.tc,.slice Ao.ga (rowN m.rows i).got.length Ao.gc,.slice Ao.sa (rowN m.rows i).sus.length Ao.sc,.bool (rowN m.rows i).wed,.bool (rowN m.rows i).rdy,.int .i64 (rowN m.rows i).by_,.slice Ao.ma (rowN m.rows i).trm.length Ao.mc] 37)) w1.heap.size 37 #[.int .i64 (rowN m.rows i).ver,.slice Ao.ta (rowN m.rows i).txt.length Ao.tc,.slice Ao.ga (rowN m.rows i).got.length Ao.gc,.slice Ao.sa (rowN m.rows i).sus.length Ao.sc,.bool (rowN m.rows i).wed,.bool (rowN m.rows i).rdy,.int .i64 (rowN m.rows i).by_,.slice Ao.ma (rowN m.rows i).trm.length Ao.mc] := Bx.new w1 _ _
 have hi5 : It (w1.alloc (.cells #[.int .i64 (rowN m.rows i).ver,.slice Ao.ta (rowN m.rows i).txt.length Ao.tc,.slice Ao.ga (rowN m.rows i).got.length Ao.gc,.slice Ao.sa (rowN m.rows i).sus.length Ao.sc,.bool (rowN m.rows i).wed,.bool (rowN m.rows i).rdy,.int .i64 (rowN m.rows i).by_,.slice Ao.ma (rowN m.rows i).trm.length Ao.mc] 37)) (rwCels (rowN m.rows i)) (rwVals Ao (rowN m.rows i)) wE.heap.size w1.heap.size := (It.of_new HN1.out).below (oneA16 w1 _)
 generalize w1.alloc (.cells #[.int .i64 (rowN m.rows i).ver,.slice Ao.ta (rowN m.rows i).txt.length Ao.tc,.slice Ao.ga (rowN m.rows i).got.length Ao.gc,.slice Ao.sa (rowN m.rows i).sus.length Ao.sc,.bool (rowN m.rows i).wed,.bool (rowN m.rows i).rdy,.int .i64 (rowN m.rows i).by_,.slice Ao.ma (rowN m.rows i).trm.length Ao.mc] 37) = W5 at *
 obtain ⟨fp5,f1,f2,f3,M5,f5⟩ := HM1.out.sub hb5
 have HBk5 : Hid (∀ (Y : World) (m' : Mb),Mw W5 Y B o m' fp5 g off c → Mw w Y B o m' fp g off c) := f5
 have HOld : Hid (∀ (Y : World) (m' : Mb),Mw W5 Y B o m' fp5 g off c → Bx Y w1.heap.size 37 #[.int .i64 (rowN m.rows i).ver,.slice Ao.ta (rowN m.rows i).txt.length Ao.tc,.slice Ao.ga (rowN m.rows i).got.length Ao.gc,.slice Ao.sa (rowN m.rows i).sus.length Ao.sc,.bool (rowN m.rows i).wed,.bool (rowN m.rows i).rdy,.int .i64 (rowN m.rows i).by_,.slice Ao.ma (rowN m.rows i).trm.length Ao.mc] ∧ RwS Y Ao (rowN m.rows i)) := fun Y m' hY => ⟨hY.bx hx5 (fun h => by have := f1 _ h;have := hb1.size;omega) (by have := hb1.size;omega),it_rws (hi5.wrt hY.bcm.wrt (fun b hb => .inl (by rcases hb with hb | hb;exact f1 b hb;rw [hb];exact f2))) hr.fit hr.sz⟩
 obtain ⟨fq,hpq,_,goq⟩ := M5.call
 have hL := lrnSp_any B o m i n fq W5 hpq ok
 rw [← G.e1] at hL
 refine hL.mono ?_
 rintro e X1 ⟨rfl,hk1⟩
 have HM6 : Hid (Mw W5 X1 B o { m with rows := m.rows.set i (mo1 m) } fp5 g off c) := goq X1 _ (set_own _) hk1
 have HVR : Hid (0 ≤ (rowN m.rows i).ver ∧ (rowN m.rows i).ver < 1000000) := by have h1 := hr.ver;have h2 := HVB.out;rw [Hid];omega
 have hn5 := ok.n5
 generalize w1.heap.size = ob at *
 clear hL hk1 hpq goq M5 f5 f1 f2 f3 hb5 hx5 hi5 hb1 HN1 HM1 HM0 hb11 hr HVB ev
 have hls : ∀ r : Rw,(m.rows.set i r).length = m.rows.length := fun r => List.length_set
 have hs : ∀ r : Rw,rowN (m.rows.set i r) i = r := fun r => rowN_self hil
 have HLS : Hid (∀ r : Rw,(m.rows.set i r).length = m.rows.length) := hls
 have HSL : Hid (∀ r : Rw,rowN (m.rows.set i r) i = r) := hs
 clear hls hs
 obtain ⟨_,_,w4,_,⟨rfl,_⟩,_⟩ := HM6.out.at (k := i) (by simp only [HLS.out];exact hil) (j := 4) (cl := .v (.bool (mo1 m).wed)) (by simp only [HSL.out];rfl)
 obtain ⟨b1,hb1⟩ : ∃ b : Bool,Hid ((mo1 m).wed = b) := ⟨_,rfl⟩
 rw [hb1.out] at w4
 go_upto_if 36 with fail
 clear w4
 go_cut [4] from 37 to 69 (fun _ wx => Mw W5 wx B o { m with rows := m.rows.set i (mo2 m),sung := moS m } fp5 g off c)
 case first =>
  cases b1 with
  | true =>
   obtain ⟨e2,eS⟩ := G.wd hb1.out
   have HE : Hid (Mw W5 X1 B o { m with rows := m.rows.set i (mo2 m),sung := moS m } fp5 g off c) := by rw [Hid,e2,eS];exact HM6.out
   clear e2 eS
   go_wp2
   go_meet
   case rel => exact HE.out
  | false =>
   obtain ⟨e2,okm2,eS⟩ := G.uw hb1.out
   have HE2 : Hid (mo2 m = { mo1 m with got := gotUp m.rows (mo1 m) n }) := e2
   have HES : Hid (moS m = sing (m.rows.set i (mo2 m)) n (60 - m.sung.length) m.sung) := eS
   have hgl : (mo1 m).got.length = n := by have := (G.ok1.ok i ok.lt).gl;simp only [HSL.out] at this;exact this
   have HTX : Hid (∀ (j : Nat) (r : Rw),r.txt = (mo1 m).txt → (rowN (m.rows.set i r) j).txt = (rowN m.rows j).txt) := fun j r hr => by
    rw [rowN_set hil]
    split
    ·rename_i h;rw [h,hr,G.e1];exact (learn_lrn _ _ _ _).txt
    ·rfl
   have HGB : Hid (∀ j,j < n → 0 ≤ el (mo1 m).got j ∧ el (mo1 m).got j ≤ 12) := fun j hj => by have := (G.ok1.ok i ok.lt).g j hj;simp only [HSL.out] at this;exact this
   have HTB : Hid (∀ j,j < n → (rowN m.rows j).txt.length ≤ 12) := fun j hj => (ok.ok j hj).tl
   clear e2 eS
   go_wp2_with fail
   go_loopw [4] (fun k wr => ∃ j : Nat,j ≤ n ∧ k = .int .i64 (j : Int) ∧ Mw W5 wr B o { m with rows := m.rows.set i { mo1 m with got := gotP m.rows (mo1 m) n j } } fp5 g off c) (fun k _ => n - (intOf k).toNat)
   case atStart => exact ⟨0,Nat.zero_le _,rfl,by rw [gotP_zero hgl];exact HM6.out⟩
   case round =>
    obtain ⟨j,hj,rfl,M⟩ := hrel
    have HM : Hid (Mw W5 wr B o { m with rows := m.rows.set i { mo1 m with got := gotP m.rows (mo1 m) n j } } fp5 g off c) := M
    obtain ⟨c0,c1,c4⟩ := M.id'
    simp only at c1
    rw [ok.hn] at c1
    by_cases hlt : j < n
    ·have j1 : (j : Int) < (n : Int) := by omega
     have j0 : (0 : Int) ≤ (j : Int) := by omega
     have j2 : (j : Int) < (m.rows.length : Int) := by rw [ok.len];exact j1
     have hjl : j < m.rows.length := by rw [ok.len];exact hlt
     have c2 := M.rws
     simp only [HLS.out] at c2
     obtain ⟨_,_,hu1,_,how1,_⟩ := M.at (k := j) (by simp only [HLS.out];exact hjl) (j := 1) (cl := scl (rowN (m.rows.set i { mo1 m with got := gotP m.rows (mo1 m) n j }) j).txt) rfl
     obtain ⟨ta,tc,_,rfl,_⟩ := ow_scl.1 how1
     rw [HTX.out j { mo1 m with got := gotP m.rows (mo1 m) n j } rfl] at hu1
     have hgp : j < (gotP m.rows (mo1 m) n j).length := by rw [gotP_len];exact hlt
     obtain ⟨_,_,hu2,_,how2,_⟩ := M.at (k := i) (by simp only [HLS.out];exact hil) (j := 2) (cl := icl (gotP m.rows (mo1 m) n j)) (by simp only [HSL.out];rfl)
     obtain ⟨gb,go,gc,rfl,_,hge,_,_⟩ := ow_int_set how2 hgp
     rw [gotP_len] at hu2
     rw [el_gotP hlt,if_neg (Nat.lt_irrefl _)] at hge
     have CM : ∀ q : Bk wr,Calls Tryz.prog 58 #[.int .i64 (el (mo1 m).got j),.int .i64 ((rowN m.rows j).txt.length : Int)] q.w fun e w' => e = .returned (.int .i64 (max (el (mo1 m).got j) ((rowN m.rows j).txt.length : Int))) ∧ Below q.w.heap.size q.w w' := fun q => (l1Max_any _ _ q.w).mono (fun e w' h => ⟨h.1,by rw [h.2];exact Below.refl _ _⟩)
     have T : ∀ {x v},wr.cell? x = some v → ∀ q : Bk wr,q.w.cell? x = some v := fun h q => (q.h.cell (World.block_lt_of_cell? _ _ h)).trans h
     have p2 := T c2
     have q1 := T hu1
     have q2 := T hu2
     have q3 := T hge
     have HGP : Hid ((gotP m.rows (mo1 m) n j).set j (max (el (mo1 m).got j) ((rowN m.rows j).txt.length : Int)) = gotP m.rows (mo1 m) n (j + 1)) := gotP_next hlt
     have wj : wrap64 ((j : Int) + 1) = (j : Int) + 1 := by unfold wrap64;omega
     clear c0 c4 c2 hu1 how1 hu2 how2 hge T M
     generalize hmx : max (el (mo1 m).got j) ((rowN m.rows j).txt.length : Int) = mx at *
     generalize el (mo1 m).got j = x at *
     go_wp2_with fail
     clear c1
     refine wp_region_quiet_tail (C := fun w' => ∃ p : Bk wr,w' = p.w) 23 hmix (by kernel_rfl) ⟨⟨wr.drewN 1,belowN (Below.refl _ _)⟩,rfl⟩ ?_
     simp only [List.take_succ_cons,List.take_zero]
     repeat (go_big_quiet_step ((first | (go_at_call 58;exact bk_call _ (CM _)) | rfl)))
     refine wpQuiet_nil ?_
     intro wE hw'
     obtain ⟨⟨w11,hb11⟩,hw''⟩ := hw'
     have hwe : wE = w11 := hw''
     clear hw''
     subst hwe
     simp only [List.drop_succ_cons,List.drop_zero]
     have hu3 := q2 ⟨wE,hb11⟩
     simp only at hu3
     have M3 := HM.out.step hb11
     obtain ⟨u,f3,hu,hfz,how,hlt3,hset⟩ := M3.at (k := i) (by simp only [HLS.out];exact hil) (j := 2) (cl := icl (gotP m.rows (mo1 m) n j)) (by simp only [HSL.out];rfl)
     obtain rfl := Option.some.inj (hu.symm.trans hu3)
     obtain ⟨gb',go',gc',e4,hfg4,hge,hgz,hgs⟩ := ow_int_set how hgp
     rw [gotP_len] at e4
     cases e4
     obtain ⟨k1,k2⟩ := hgs mx
     obtain ⟨_,_,_,hM4⟩ := hset _ (icl ((gotP m.rows (mo1 m) n j).set j mx)) _ f3 { mo1 m with got := (gotP m.rows (mo1 m) n j).set j mx } (by simp only [HSL.out];rfl) k2 k1 (fun b hb => .inl hb)
     have HM4 : Hid (Mw W5 (wE.setCell ⟨gb,go + j,none⟩ (.int .i64 mx)) B o { m with rows := m.rows.set i { mo1 m with got := gotP m.rows (mo1 m) n (j + 1) } } fp5 g off c) := by
      have := hM4 rfl
      simp only [List.set_set] at this
      rw [HGP.out] at this
      exact this
     clear hM4 hgs k1 k2 hset M3 how hu hu3 hfz p2 q1 q2 q3 hlt3 CM
     go_wp2
     go_roundw
     case rel => exact ⟨j + 1,by omega,by go_num,HM4.out⟩
     case measure => simp [intOf];omega
    ·have j1 : ¬ ((j : Int) < (n : Int)) := by omega
     obtain rfl : j = n := by omega
     have M2 : Mw W5 wr B o { m with rows := m.rows.set i (mo2 m) } fp5 g off c := by
      have := HM.out
      rw [gotP_all,← HE2.out] at this
      exact this
     obtain ⟨fq,hpq,_,goq⟩ := M2.call
     have hS := sngSp_any B o _ i j fq wr hpq okm2
     clear M c0 c4
     go_wp2_with fail
     refine hS.mono ?_
     rintro e X2 ⟨rfl,hk2⟩
     have HE : Hid (Mw W5 X2 B o { m with rows := m.rows.set i (mo2 m),sung := moS m } fp5 g off c) := by
      have := goq X2 _ rfl hk2
      rw [← HES.out] at this
      exact this
     clear hS hk2 hpq goq M2
     go_wp2
     go_meet
     case rel => exact HE.out
 case rest =>
  have HM7 : Hid (Mw W5 wc B o { m with rows := m.rows.set i (mo2 m),sung := moS m } fp5 g off c) := hcut
  clear hcut HM6
  generalize wc = X2 at *
  have hLf := lftSp_any W5 B o _ i n fp5 g off c X2 HM7.out G.ok2
  simp only [HSL.out] at hLf
  rw [← G.eL] at hLf
  go_wp2_with fail
  refine hLf.mono ?_
  rintro e X3 ⟨la,lc,rfl,fl,hl1,hl2,hbl⟩
  obtain ⟨fp7,g1,g2,g3,M7,g5⟩ := HM7.out.sub hbl
  have HBk7 : Hid (∀ (Y : World) (m' : Mb),Mw X3 Y B o m' fp7 g off c → Mw W5 Y B o m' fp5 g off c) := g5
  have HFLt : Hid (∀ b,fl b → b < X3.heap.size) := Cel.ow_lt hl1
  have HFL : Hid (∀ b,fl b → ¬ fp7 b ∧ b ≠ B) := fun b hb => ⟨fun k => by have := g1 b k;have := hl2 b hb;omega,fun k => by have := hl2 b hb;omega⟩
  rw [lN_len] at hl1 ⊢
  have HLst : Hid (∀ (Y : World) (m' : Mb),Mw X3 Y B o m' fp7 g off c → Cel.ow Y (icl (lN (moL m))) (.slice la (moL m).length lc) fl) := fun Y m' hY => hY.cel hl1 HFL.out
  obtain ⟨hL0,hLh,hLd,hLm⟩ := head_getD G.mem
  have hLlt : ∀ k ∈ moL m,k < n := fun k hk => by rw [G.eL] at hk;exact (mem_leftN.1 hk).1
  have hLn : (moL m).length ≤ n := by rw [G.eL];exact leftN_len _ _
  have HL0 : Hid (∀ (Y : World) (m' : Mb),Mw X3 Y B o m' fp7 g off c → ∃ lb lo,la = some ⟨lb,lo,none⟩ ∧ Y.cell? ⟨lb,lo,none⟩ = some (.int .i64 (((moL m).getD 0 0 : Nat) : Int))) := fun Y m' hY => by
   have hv := vec_of_ow (by rw [lN_len];exact HLst.out Y m' hY) (lN_fits hLlt (by omega))
   rcases hv.2.2 with hz | ⟨lb,lo,rfl,hlc⟩
   ·rw [lN_len] at hz;omega
   have hlk := hlc 0 (by rw [lN_len];exact hL0)
   rw [el_lN hL0] at hlk
   exact ⟨lb,lo,rfl,hlk⟩
  have HE3 := G.e3
  have HE4 := G.e4
  rw [hLd] at HE4
  have HH3 : Hid (mo3 m = if (mo2 m).wed = true ∧ n < 2 * (moL m).length ∧ (moL m).getD 0 0 = i then lead (m.rows.set i (mo2 m)) i (mo2 m) (moL m) else mo2 m) := by rw [Hid,HE3];simp only [hLh]
  have HH4 : Hid (mo4 m = if (mo3 m).wed = true ∧ (moL m).getD 0 0 ≠ i then adopt (m.rows.set i (mo3 m)) i (mo3 m) ((moL m).getD 0 0) else mo3 m) := by rw [Hid,HE4];simp only [ne_eq,hLh]
  have HLm : Hid ((moL m).getD 0 0 < n) := hLlt _ hLm
  have HeE : Hid (moE m = ((mo4 m).rdy && (decide (n < 2 * (moL m).length) && ends (m.rows.set i (mo4 m)) i (mo4 m) (moL m)))) := G.eE
  have HLlt : Hid (∀ k ∈ moL m,k < n) := hLlt
  have HLp : Hid (0 < (moL m).length) := hL0
  have HMx : Hid (Mw X3 X3 B o { m with rows := m.rows.set i (mo2 m),sung := moS m } fp7 g off c) := M7
  clear HE3 HE4 hLh hLd hLm hLlt hl1 hl2 hbl M7 g5 g1 g2 g3 hLf HM7
  obtain ⟨lb,lo,rfl,_⟩ := HL0.out X3 _ HMx.out
  have HL1 : Hid (∀ (Y : World) (m' : Mb),Mw X3 Y B o m' fp7 g off c → Y.cell? ⟨lb,lo,none⟩ = some (.int .i64 (((moL m).getD 0 0 : Nat) : Int))) := fun Y m' hY => by
   obtain ⟨lb',lo',e,hc⟩ := HL0.out Y m' hY
   cases e
   exact hc
  have hw2 : wrap64 (2 * ((moL m).length : Int)) = 2 * ((moL m).length : Int) := by unfold wrap64;omega
  have i0L : (0 : Int) < ((moL m).length : Int) := by omega
  clear HL0
  generalize hLe : moL m = L at *
  generalize hF : L.getD 0 0 = F at *
  have HFe : Hid (L.getD 0 0 = F) := hF
  clear hF hL0 hLe
  -- the first of those left leads
  obtain ⟨_,_,w4,_,⟨rfl,_⟩,_⟩ := HMx.out.at (k := i) (by simp only [HLS.out];exact hil) (j := 4) (cl := .v (.bool (mo2 m).wed)) (by simp only [HSL.out];rfl)
  obtain ⟨c0,c1,c4⟩ := HMx.out.id'
  simp only at c0 c1
  rw [ok.hid] at c0
  rw [ok.hn] at c1
  obtain ⟨b2,hb2⟩ : ∃ b : Bool,Hid ((mo2 m).wed = b) := ⟨_,rfl⟩
  rw [hb2.out] at w4
  go_upto_region 11 with fail
  go_cut [85] from 72 to 85 (fun v wx => v = .bool (b2 && decide ((n : Int) < 2 * (L.length : Int))) ∧ wx = X3)
  case first =>
   cases b2 with
   | true =>
    go_wp2_with fail
    go_meet
    case rel => exact ⟨by simp,rfl⟩
   | false =>
    go_wp2_with fail
    go_meet
    case rel => exact ⟨by simp,rfl⟩
  case rest =>
  obtain ⟨rfl,hwx⟩ := hcut
  obtain rfl := hwx.symm
  clear w4 hwx
  generalize hd1 : (b2 && decide ((n : Int) < 2 * (L.length : Int))) = d1 at *
  have HD1 : Hid ((mo2 m).wed = true ∧ n < 2 * L.length ↔ d1 = true) := by rw [Hid,hb2.out,← hd1,Bool.and_eq_true,decide_eq_true_eq];constructor <;> rintro ⟨h1,h2⟩ <;> exact ⟨h1,by omega⟩
  clear hd1
  go_upto_if 85 with fail
  go_cut [5] from 86 to 96 (fun v wx => v = .slice (some ⟨lb,lo,none⟩) L.length lc ∧ Mw X3 wx B o { m with rows := m.rows.set i (mo3 m),sung := moS m } fp7 g off c)
  case first =>
   cases d1 with
   | false =>
    have HE : Hid (mo3 m = mo2 m) := by
     rw [Hid,HH3.out,if_neg]
     rintro ⟨h1,h2,_⟩
     exact absurd (HD1.out.1 ⟨h1,h2⟩) (by simp)
    clear c0 c1 c4
    go_wp2
    go_meet
    case rel => exact ⟨rfl,by rw [HE.out];exact HMx.out⟩
   | true =>
    obtain ⟨hw,hn2⟩ := HD1.out.2 rfl
    have l0 := HL1.out X3 _ HMx.out
    have T : ∀ {x v},X3.cell? x = some v → ∀ q : Bk X3,q.w.cell? x = some v := fun h q => (q.h.cell (World.block_lt_of_cell? _ _ h)).trans h
    have p0 := T c0
    have pl := T l0
    have HW : Hid ((mo2 m).wed = true) := hw
    by_cases hFi : F = i
    ·have e1 : ((F : Int) == (i : Int)) = true := by simp [hFi]
     have HE : Hid (mo3 m = lead (m.rows.set i (mo2 m)) i (mo2 m) L) := by rw [Hid,HH3.out,if_pos ⟨hw,hn2,hFi⟩]
     clear c0 c1 c4 l0 T hw hn2 hFi
     go_wp2_with fail
     refine wp_region_bk (by kernel_rfl) (by kernel_rfl) ?_
     repeat (go_big_quiet_step ((first | rfl)))
     refine wpQuiet_nil ?_
     intro wE hw'
     obtain ⟨⟨w11,hb11⟩,hw''⟩ := hw'
     have hwe : wE = w11 := hw''
     clear hw''
     subst hwe
     have M8 := HMx.out.step hb11
     obtain ⟨fq,hpq,hsq,goq⟩ := M8.call
     have hLd := leaSp_any B o _ i n L (some ⟨lb,lo,none⟩) lc fl fq wE hpq G.ok2 (by simp only [HSL.out];exact HW.out) (HLst.out wE _ M8) (fun b hb => ⟨fun k => by
      rcases hsq b k with k | k
      ·exact (HFL.out b hb).1 k
      ·have := HFLt.out b hb;omega,(HFL.out b hb).2⟩) HLlt.out HLp.out hLn
     clear p0 pl hb11 M8 hpq hsq
     go_wp2_with fail
     refine hLd.mono ?_
     rintro e X4 ⟨rfl,hk⟩
     have HE4 : Hid (Mw X3 X4 B o { m with rows := m.rows.set i (mo3 m),sung := moS m } fp7 g off c) := by
      have := goq X4 _ (by simp only [HLS.out,List.length_set]) hk
      simp only [HSL.out,List.set_set] at this
      rw [← HE.out] at this
      exact this
     clear hLd hk goq
     go_wp2
     go_meet
     case rel => exact ⟨rfl,HE4.out⟩
    ·have e1 : ((F : Int) == (i : Int)) = false := by simp;omega
     have HE : Hid (mo3 m = mo2 m) := by rw [Hid,HH3.out,if_neg (fun h => hFi h.2.2)]
     clear c0 c1 c4 l0 T hw hn2 hFi
     go_wp2_with fail
     refine wp_region_bk (by kernel_rfl) (by kernel_rfl) ?_
     repeat (go_big_quiet_step ((first | rfl)))
     refine wpQuiet_nil ?_
     intro wE hw'
     obtain ⟨⟨w11,hb11⟩,hw''⟩ := hw'
     have hwe : wE = w11 := hw''
     clear hw''
     subst hwe
     have HE4 : Hid (Mw X3 wE B o { m with rows := m.rows.set i (mo3 m),sung := moS m } fp7 g off c) := by rw [Hid,HE.out];exact HMx.out.step hb11
     clear p0 pl hb11
     go_wp2
     go_meet
     case rel => exact ⟨rfl,HE4.out⟩
  case rest =>
  obtain ⟨rfl,hcut⟩ := hcut
  have HMy : Hid (Mw X3 wc B o { m with rows := m.rows.set i (mo3 m),sung := moS m } fp7 g off c) := hcut
  clear hcut HMx c0 c1 c4 HD1
  generalize wc = X4 at *
  -- another one leads
  obtain ⟨_,_,w4,_,⟨rfl,_⟩,_⟩ := HMy.out.at (k := i) (by simp only [HLS.out];exact hil) (j := 4) (cl := .v (.bool (mo3 m).wed)) (by simp only [HSL.out];rfl)
  obtain ⟨c0,c1,c4⟩ := HMy.out.id'
  simp only at c0
  rw [ok.hid] at c0
  have l0 := HL1.out X4 _ HMy.out
  obtain ⟨b3,hb3⟩ : ∃ b : Bool,Hid ((mo3 m).wed = b) := ⟨_,rfl⟩
  rw [hb3.out] at w4
  have T : ∀ {x v},X4.cell? x = some v → ∀ q : Bk X4,q.w.cell? x = some v := fun h q => (q.h.cell (World.block_lt_of_cell? _ _ h)).trans h
  have p0 := T c0
  have pl := T l0
  have p4 := T w4
  clear c0 c1 c4 l0 w4 T
  go_upto_region 14 with fail
  go_cut [110] from 97 to 110 (fun v wx => v = .bool (b3 && ((F : Int) != (i : Int))) ∧ Below X4.heap.size X4 wx)
  case first =>
   cases b3 with
   | true =>
    refine wp_region_bk (by kernel_rfl) (by kernel_rfl) ?_
    repeat (go_big_quiet_step ((first | rfl)))
    refine wpQuiet_nil ?_
    intro wE hw'
    obtain ⟨⟨w11,hb11⟩,hw''⟩ := hw'
    have hwe : wE = w11 := hw''
    clear hw''
    subst hwe
    try go_wp2_with fail
    go_meet
    case rel => exact ⟨by simp,hb11⟩
   | false =>
    refine wp_region_bk (by kernel_rfl) (by kernel_rfl) ?_
    repeat (go_big_quiet_step ((first | rfl)))
    refine wpQuiet_nil ?_
    intro wE hw'
    obtain ⟨⟨w11,hb11⟩,hw''⟩ := hw'
    have hwe : wE = w11 := hw''
    clear hw''
    subst hwe
    try go_wp2_with fail
    go_meet
    case rel => exact ⟨by simp,hb11⟩
  case rest =>
  obtain ⟨rfl,hbc⟩ := hcut
  have HMz : Hid (Mw X3 wc B o { m with rows := m.rows.set i (mo3 m),sung := moS m } fp7 g off c) := HMy.out.step hbc
  clear hbc HMy p0 pl p4
  generalize wc = X5 at *
  generalize hd2 : (b3 && ((F : Int) != (i : Int))) = d2 at *
  have HD2 : Hid ((mo3 m).wed = true ∧ F ≠ i ↔ d2 = true) := by rw [Hid,hb3.out,← hd2,Bool.and_eq_true,bne_iff_ne];constructor <;> rintro ⟨h1,h2⟩ <;> exact ⟨h1,by omega⟩
  clear hd2
  go_upto_if 110 with fail
  go_cut [5] from 111 to 115 (fun v wx => v = .slice (some ⟨lb,lo,none⟩) L.length lc ∧ Mw X3 wx B o { m with rows := m.rows.set i (mo4 m),sung := moS m } fp7 g off c)
  case first =>
   cases d2 with
   | false =>
    have HE : Hid (mo4 m = mo3 m) := by
     rw [Hid,HH4.out,if_neg]
     intro h
     exact absurd (HD2.out.1 h) (by simp)
    go_wp2
    go_meet
    case rel => exact ⟨rfl,by rw [HE.out];exact HMz.out⟩
   | true =>
    obtain ⟨hw,hFi⟩ := HD2.out.2 rfl
    have HE : Hid (mo4 m = adopt (m.rows.set i (mo3 m)) i (mo3 m) F) := by rw [Hid,HH4.out,if_pos ⟨hw,hFi⟩]
    have l0 := HL1.out X5 _ HMz.out
    obtain ⟨fq,hpq,hsq,goq⟩ := HMz.out.call
    have hAd := adpSp_any B o _ i n F fq X5 hpq G.ok3 HLm.out hFi
    clear hpq hsq hw hFi
    go_wp2_with fail
    refine hAd.mono ?_
    rintro e X6 ⟨rfl,hk⟩
    have HE4 : Hid (Mw X3 X6 B o { m with rows := m.rows.set i (mo4 m),sung := moS m } fp7 g off c) := by
     have := goq X6 _ (by simp only [HLS.out,List.length_set]) hk
     simp only [HSL.out,List.set_set] at this
     rw [← HE.out] at this
     exact this
    clear hAd hk goq l0
    go_wp2
    go_meet
    case rel => exact ⟨rfl,HE4.out⟩
  case rest =>
  obtain ⟨rfl,hcut⟩ := hcut
  have HMu : Hid (Mw X3 wc B o { m with rows := m.rows.set i (mo4 m),sung := moS m } fp7 g off c) := hcut
  clear hcut HMz HD2
  generalize wc = X6 at *
  -- the end
  obtain ⟨_,_,w5,_,⟨rfl,_⟩,_⟩ := HMu.out.at (k := i) (by simp only [HLS.out];exact hil) (j := 5) (cl := .v (.bool (mo4 m).rdy)) (by simp only [HSL.out];rfl)
  obtain ⟨c0,c1,c4⟩ := HMu.out.id'
  simp only at c1
  rw [ok.hn] at c1
  obtain ⟨b4,hb4⟩ : ∃ b : Bool,Hid ((mo4 m).rdy = b) := ⟨_,rfl⟩
  rw [hb4.out] at w5
  clear c0 c4
  go_upto_region 16 with fail
  go_cut [129] from 116 to 129 (fun v wx => v = .bool (b4 && decide ((n : Int) < 2 * (L.length : Int))) ∧ wx = X6)
  case first =>
   cases b4 with
   | true =>
    go_wp2_with fail
    go_meet
    case rel => exact ⟨by simp,rfl⟩
   | false =>
    go_wp2_with fail
    go_meet
    case rel => exact ⟨by simp,rfl⟩
  case rest =>
  obtain ⟨rfl,hwx⟩ := hcut
  obtain rfl := hwx.symm
  clear w5 hwx c1
  generalize hd3 : (b4 && decide ((n : Int) < 2 * (L.length : Int))) = d3 at *
  have HD3 : Hid (moE m = (d3 && ends (m.rows.set i (mo4 m)) i (mo4 m) L)) := by
   rw [Hid,HeE.out,hb4.out,← hd3]
   simp only [Bool.and_assoc]
   congr 2
   rw [decide_eq_decide]
   omega
  have HD4 : Hid (d3 = true → (mo4 m).rdy = true) := fun h => by rw [← hd3,Bool.and_eq_true] at h;rw [hb4.out];exact h.1
  clear hd3
  go_upto_if 129 with fail
  go_cut [5] from 130 to 132 (fun _ wx => Mw X3 wx B o { m with rows := m.rows.set i (mo4 m),sung := if moE m = true then songT (moS m) (mo4 m).trm else moS m,done := moE m } fp7 g off c)
  case first =>
   cases d3 with
   | false =>
    have HE : Hid (Mw X3 X6 B o { m with rows := m.rows.set i (mo4 m),sung := if moE m = true then songT (moS m) (mo4 m).trm else moS m,done := moE m } fp7 g off c) := by
     have hE : moE m = false := by rw [HD3.out];rfl
     have := HMu.out
     rw [HDN.out] at this
     rw [Hid,hE,if_neg (by simp)]
     exact this
    go_wp2
    go_meet
    case rel => exact HE.out
   | true =>
    obtain ⟨fq,hpq,hsq,goq⟩ := HMu.out.call
    have hEd := endSp_any B o _ i n L (some ⟨lb,lo,none⟩) lc fl fq X6 hpq G.ok4 (by simp only [HSL.out];exact HD4.out rfl) (HLst.out X6 _ HMu.out) HLlt.out hLn
    clear hpq hsq
    go_wp2_with fail
    refine hEd.mono ?_
    rintro e X7 ⟨rfl,hk⟩
    have HE : Hid (Mw X3 X7 B o { m with rows := m.rows.set i (mo4 m),sung := if moE m = true then songT (moS m) (mo4 m).trm else moS m,done := moE m } fp7 g off c) := by
     have hE : moE m = ends (m.rows.set i (mo4 m)) i (mo4 m) L := by rw [HD3.out];rfl
     unfold endMb at hk
     simp only [HSL.out] at hk
     rw [← hE] at hk
     cases he : moE m with
     | true =>
      rw [he,if_pos rfl] at hk
      rw [Hid,if_pos rfl]
      exact goq X7 _ rfl hk
     | false =>
      rw [he,if_neg (by simp)] at hk
      have := goq X7 _ rfl hk
      rw [HDN.out] at this
      rw [Hid,if_neg (by simp)]
      exact this
    clear hEd hk goq
    go_wp2
    go_meet
    case rel => exact HE.out
  case rest =>
  have HM9 : Hid (Mw W5 wc B o { m with rows := m.rows.set i (mo4 m),sung := if moE m = true then songT (moS m) (mo4 m).trm else moS m,done := moE m } fp5 g off c) := HBk7.out _ _ hcut
  clear hcut HMu HD3 HD4 HBk7 HFLt HFL HLst HL1 HH3 HH4
  generalize wc = X7 at *
  obtain ⟨hxo,hro⟩ := HOld.out X7 _ HM9.out
  have hfit : FitM { m with rows := m.rows.set i (mo4 m),sung := if moE m = true then songT (moS m) (mo4 m).trm else moS m,done := moE m } := ⟨G.ok4.fit.1,by have := (stepM ok).ok.fit.2;rw [HZ.out] at this;exact this⟩
  obtain ⟨A9,⟨⟨d0,d1',d2',d3'⟩,d4,d5,d6,d7⟩,hrs⟩ := HM9.out.row hfit (k := i) (by simp only [HLS.out];exact hil)
  simp only [HSL.out] at d0 d1' d2' d3' d4 d5 d6 d7 hrs
  obtain ⟨⟨x0,x1,x2,x3⟩,x4,x5,x6,x7⟩ := Bx.r8 hxo
  obtain ⟨sb,hsb⟩ : ∃ b : Bool,Hid (sameRw (rowN m.rows i) (mo4 m) = b) := ⟨_,rfl⟩
  have CS : ∀ q : Bk X7,Calls Tryz.prog 98 #[rwV Ao (rowN m.rows i),rwV A9 (mo4 m)] q.w fun e w' => e = .returned (.bool sb) ∧ Below q.w.heap.size q.w w' := fun q => by
   have := samS_any Ao A9 (rowN m.rows i) (mo4 m) q.w (hro.below q.h) (hrs.below q.h)
   rw [hsb.out] at this
   exact this
  unfold rwV rwC at CS
  have T : ∀ {x v},X7.cell? x = some v → ∀ q : Bk X7,q.w.cell? x = some v := fun h q => (q.h.cell (World.block_lt_of_cell? _ _ h)).trans h
  have y0 := T x0
  have y1 := T x1
  have y2 := T x2
  have y3 := T x3
  have y4 := T x4
  have y5 := T x5
  have y6 := T x6
  have y7 := T x7
  have z0 := T d0
  have z1 := T d1'
  have z2 := T d2'
  have z3 := T d3'
  have z4 := T d4
  have z5 := T d5
  have z6 := T d6
  have z7 := T d7
  clear x0 x1 x2 x3 x4 x5 x6 x7 d0 d1' d2' d3' d4 d5 d6 d7 T hxo hro hrs hfit
  go_wp2_with fail
  refine wp_region_bk (by kernel_rfl) (by kernel_rfl) ?_
  repeat (go_big_quiet_step ((first | (go_at_call 98;exact bk_call _ (CS _)) | rfl)))
  refine wpQuiet_nil ?_
  intro wE hw'
  obtain ⟨⟨w11,hb11⟩,hw''⟩ := hw'
  have hwe : wE = w11 := hw''
  clear hw''
  subst hwe
  have HMf : Hid (Mw W5 wE B o { m with rows := m.rows.set i (mo4 m),sung := if moE m = true then songT (moS m) (mo4 m).trm else moS m,done := moE m } fp5 g off c) := HM9.out.step hb11
  clear y0 y1 y2 y3 y4 y5 y6 y7 z0 z1 z2 z3 z4 z5 z6 z7 CS hb11 HM9 HOld
  have He5 := G.e5
  rw [hsb.out] at He5
  cases sb with
  | true =>
   have HE : Hid (stepMb m = { m with rows := m.rows.set i (mo4 m),sung := if moE m = true then songT (moS m) (mo4 m).trm else moS m,done := moE m }) := by rw [Hid,HZ.out,He5,if_pos rfl]
   clear He5
   go_wp2
   go_end0
   rw [HE.out]
   exact ⟨rfl,(HBk5.out _ _ HMf.out).bcm⟩
  | false =>
   rw [if_neg (by simp)] at He5
   obtain ⟨v1,v2,hM5⟩ := HMf.out.put (k := i) (by simp only [HLS.out];exact hil) (j := 0) (x := .int .i64 (mo4 m).ver) (y := .int .i64 ((mo4 m).ver + 1)) (r' := { mo4 m with ver := (mo4 m).ver + 1 }) (by simp only [HSL.out];rfl) (by simp only [HSL.out];rfl)
   simp only [Nat.add_zero,List.set_set] at v1 v2 hM5
   have hwv : wrap64 ((mo4 m).ver + 1) = (mo4 m).ver + 1 := by rw [G.ver];have := HVR.out;unfold wrap64;omega
   have HE : Hid (Bcm w (wE.setCell ⟨g,off + i * 8,none⟩ (.int .i64 ((mo4 m).ver + 1))) B o (mb5 (stepMb m)) fp) := by
    rw [Hid,HZ.out,He5]
    exact (HBk5.out _ _ hM5).bcm
   clear hM5 He5 HMf
   go_wp2
   go_end0
   exact ⟨rfl,HE.out⟩
end Go.Proofs.YtidnfdobljihoaaGreat
namespace Go.Proofs.YtidnfdobljihoaaGreat
set_option linter.unusedVariables false
set_option linter.unusedSimpArgs false
open Go.RowKit Go.Sort
def stpM (m : Mb) : Mb := if okMb m = true then stepMb m else zeroMb
set_option maxRecDepth 100000 in
set_option maxHeartbeats 3200000 in
theorem stpS_any (A : Ma) (m : Mb) (w : World) (hv : MbS w A m) :
  Calls Tryz.prog 12 #[mbV A m] w fun e w' => AnsMb w w' e (stpM m) := by
 have hb0 : Below w.heap.size w ((w.alloc (.cells #[.int .i64 m.id,.int .i64 m.n,.slice A.ra m.rows.length A.rc,.slice A.sa m.sung.length A.sc,.bool m.done] 27)).alloc (.cells #[.int .i64 0,.int .i64 0,.slice none 0 0,.slice none 0 0,.bool false] 27)) := (oneA16 w _).trans ((oneA16 _ _).mono (oneA16 w _).size)
 have hx0 : Bx ((w.alloc (.cells #[.int .i64 m.id,.int .i64 m.n,.slice A.ra m.rows.length A.rc,.slice A.sa m.sung.length A.sc,.bool m.done] 27)).alloc (.cells #[.int .i64 0,.int .i64 0,.slice none 0 0,.slice none 0 0,.bool false] 27)) w.heap.size 27 #[.int .i64 m.id,.int .i64 m.n,.slice A.ra m.rows.length A.rc,.slice A.sa m.sung.length A.sc,.bool m.done] := (Bx.new w _ _).alloc _
 have hz0 : Bx ((w.alloc (.cells #[.int .i64 m.id,.int .i64 m.n,.slice A.ra m.rows.length A.rc,.slice A.sa m.sung.length A.sc,.bool m.done] 27)).alloc (.cells #[.int .i64 0,.int .i64 0,.slice none 0 0,.slice none 0 0,.bool false] 27)) (w.heap.size + 1) 27 #[.int .i64 0,.int .i64 0,.slice none 0 0,.slice none 0 0,.bool false] := by
  have := Bx.new (w.alloc (.cells #[.int .i64 m.id,.int .i64 m.n,.slice A.ra m.rows.length A.rc,.slice A.sa m.sung.length A.sc,.bool m.done] 27)) 27 #[.int .i64 0,.int .i64 0,.slice none 0 0,.slice none 0 0,.bool false]
  simp only [World.size_alloc] at this
  exact this
 have hv0 := hv.below hb0
 unfold mbV mbC
 generalize hWW : (w.alloc (.cells #[.int .i64 m.id,.int .i64 m.n,.slice A.ra m.rows.length A.rc,.slice A.sa m.sung.length A.sc,.bool m.done] 27)).alloc (.cells #[.int .i64 0,.int .i64 0,.slice none 0 0,.slice none 0 0,.bool false] 27) = W0 at *
 have hK := mbkS_any A m W0 hv0
 unfold mbV mbC at hK
 have HX0 : Hid (Bx W0 w.heap.size 27 #[.int .i64 m.id,.int .i64 m.n,.slice A.ra m.rows.length A.rc,.slice A.sa m.sung.length A.sc,.bool m.done]) := hx0
 have HZ0 : Hid (Bx W0 (w.heap.size + 1) 27 #[.int .i64 0,.int .i64 0,.slice none 0 0,.slice none 0 0,.bool false]) := hz0
 have HV0 : Hid (MbS W0 A m) := hv0
 have HB0 : Hid (Below w.heap.size w W0) := hb0
 obtain ⟨c0,c1,c2,c3,c4⟩ := Bx.r5 hx0
 clear hv hb0 hx0 hz0 hv0
 cases hok : okMb m with
 | false =>
  have HZ : Hid (stpM m = zeroMb) := by rw [Hid,stpM,hok];rfl
  rw [hok] at hK
  clear hok
  go_enter Tryz.func12,Tryz.ntmps12
  go_wp2_with fail
  refine hK.mono ?_
  rintro e w1 ⟨rfl,hb1⟩
  have hz1 := HZ0.out.below hb1
  have HB1 : Hid (Below w.heap.size w w1) := HB0.out.trans (hb1.mono HB0.out.size)
  obtain ⟨z0,z1,z2,z3,z4⟩ := Bx.r5 hz1
  obtain ⟨f0,f1,f2,f3,f4⟩ := hz1.f5
  clear hz1 hb1 c0 c1 c2 c3 c4 hK
  go_wp2
  refine bodyPost_ret (v := mbV ⟨none,0,none,0⟩ zeroMb) (by simp [results,Tryz.results12,go_sem,mbV,mbC,zeroMb, *]) rfl ?_
  rw [HZ.out]
  exact ⟨_,rfl,ansM_zero ((wrt5 w1 (w.heap.size + 1)).below HB1.out HB1.out.size (fun b h => by omega))⟩
 | true =>
  have HZ : Hid (stpM m = stepMb m) := by rw [Hid,stpM,hok];rfl
  obtain ⟨i,n,ok⟩ := okMb_iff.1 hok
  rw [hok] at hK
  clear hok
  go_enter Tryz.func12,Tryz.ntmps12
  go_wp2_with fail
  refine hK.mono ?_
  rintro e w1 ⟨rfl,hb1⟩
  have HB1 : Hid (Below w.heap.size w w1) := HB0.out.trans (hb1.mono HB0.out.size)
  have HZ1 : Hid (Bx w1 (w.heap.size + 1) 27 #[.int .i64 0,.int .i64 0,.slice none 0 0,.slice none 0 0,.bool false]) := HZ0.out.below hb1
  have hC := cpyMb_any A m w1 (HV0.out.below hb1) ok.ln
  unfold mbV mbC at hC
  clear c0 c1 c2 c3 c4 hK
  obtain ⟨c0,c1,c2,c3,c4⟩ := Bx.r5 (HX0.out.below hb1)
  clear hb1
  go_wp2_with fail
  refine hC.mono ?_
  rintro e w2 ⟨A2,rfl,fp,hl2,hf2,hb2⟩
  have hlt2 := owL_lt hl2
  have HB2 : Hid (Below w.heap.size w w2) := HB1.out.trans (hb2.mono HB1.out.size)
  have hba := oneA16 w2 (.cells #[.int .i64 m.id,.int .i64 m.n,.slice A2.ra m.rows.length A2.rc,.slice A2.sa m.sung.length A2.sc,.bool m.done] 27)
  have hxb := Bx.new w2 27 #[.int .i64 m.id,.int .i64 m.n,.slice A2.ra m.rows.length A2.rc,.slice A2.sa m.sung.length A2.sc,.bool m.done]
  have hP : Plc (w2.alloc (.cells #[.int .i64 m.id,.int .i64 m.n,.slice A2.ra m.rows.length A2.rc,.slice A2.sa m.sung.length A2.sc,.bool m.done] 27)) w2.heap.size 0 (mb5 m) fp := box_plc hxb (owL_below hl2 hba) (fun k => by have := hlt2 _ k;omega)
  have HZ3 : Hid (Bx (w2.alloc (.cells #[.int .i64 m.id,.int .i64 m.n,.slice A2.ra m.rows.length A2.rc,.slice A2.sa m.sung.length A2.sc,.bool m.done] 27)) (w.heap.size + 1) 27 #[.int .i64 0,.int .i64 0,.slice none 0 0,.slice none 0 0,.bool false]) := (HZ1.out.below hb2).below hba
  have HB3 : Hid (Below w.heap.size w (w2.alloc (.cells #[.int .i64 m.id,.int .i64 m.n,.slice A2.ra m.rows.length A2.rc,.slice A2.sa m.sung.length A2.sc,.bool m.done] 27))) := HB2.out.trans (hba.mono HB2.out.size)
  have hr1 : (w.heap.size + 1) < w1.heap.size := HZ1.out.lt
  have hs2 := hb2.size
  have hS := stpSp_any w2.heap.size 0 m i n fp _ hP ok
  unfold mbV mbC
  generalize hV3 : w2.alloc (.cells #[.int .i64 m.id,.int .i64 m.n,.slice A2.ra m.rows.length A2.rc,.slice A2.sa m.sung.length A2.sc,.bool m.done] 27) = V3 at *
  have HF2 : Hid (∀ b,fp b → w1.heap.size ≤ b) := hf2
  have hB3 : w2.heap.size < V3.heap.size := hxb.lt
  clear hxb hP hl2 hf2 hlt2 hb2 hba c0 c1 c2 c3 c4 hC
  go_wp2_with fail
  refine hS.mono ?_
  rintro e Y ⟨rfl,hBc⟩
  have hsw := HB1.out.size
  obtain ⟨A3,⟨y0,y1,y2,y3,y4⟩,hz3,HN⟩ := box_done (w := w) (r := (w.heap.size + 1)) hBc (fun b hb => by have := HF2.out b hb;exact ⟨by omega,by omega⟩) (by omega) (by omega) (by omega) (by have := HZ3.out.lt;omega) HB3.out HZ3.out
  simp only [Nat.zero_add] at y0 y1 y2 y3 y4
  obtain ⟨z0,z1,z2,z3,z4⟩ := Bx.r5 hz3
  obtain ⟨f0,f1,f2,f3,f4⟩ := hz3.f5
  have HNN : Hid (∀ {a b c d e : Value},NewL w (((((Y.setCell ⟨(w.heap.size + 1),0,none⟩ a).setCell ⟨(w.heap.size + 1),1,none⟩ b).setCell ⟨(w.heap.size + 1),2,none⟩ c).setCell ⟨(w.heap.size + 1),3,none⟩ d).setCell ⟨(w.heap.size + 1),4,none⟩ e) (mbCels (stepMb m)) (mbVals A3 (stepMb m))) := HN
  generalize hpm : stepMb m = pm at *
  clear hS hBc HN hz3 hpm
  go_wp2
  refine bodyPost_ret (v := mbV A3 pm) (by simp [results,Tryz.results12,go_sem,mbV,mbC, *]) rfl ?_
  rw [HZ.out]
  exact ⟨_,rfl,HNN.out⟩
end Go.Proofs.YtidnfdobljihoaaGreat
namespace Go.Proofs.YtidnfdobljihoaaGreat
set_option linter.unusedVariables false
set_option linter.unusedSimpArgs false
open Go.RowKit Go.Sort
def szP (R : List Rw) (k : Nat) : Nat := ((R.take k).map szRw).sum
def szRs (R : List Rw) : Nat := R.length + szP R R.length
def szMb (m : Mb) : Nat := szRs m.rows + m.sung.length
end Go.Proofs.YtidnfdobljihoaaGreat
namespace Go.Proofs.YtidnfdobljihoaaGreat
set_option linter.unusedVariables false
set_option linter.unusedSimpArgs false
open Go.RowKit Go.Sort
end Go.Proofs.YtidnfdobljihoaaGreat
namespace Go.Proofs.YtidnfdobljihoaaGreat
set_option linter.unusedVariables false
set_option linter.unusedSimpArgs false
open Go.RowKit Go.Sort
end Go.Proofs.YtidnfdobljihoaaGreat
namespace Go.Proofs.YtidnfdobljihoaaGreat
set_option linter.unusedVariables false
set_option linter.unusedSimpArgs false
open Go.RowKit Go.Sort
theorem Bcm.at {w X : World} {B o : Nat} {cs : List Cel} {fp : Fp} (h : Bcm w X B o cs fp) {j : Nat} {c : Cel} (hj : cs[j]? = some c) : ∃ u f,X.cell? ⟨B,o + j,none⟩ = some u ∧ X.frozen? ⟨B,o + j,none⟩ = false ∧ Cel.ow X c u f ∧
  ∀ (X1 : World) (c' : Cel) (u' : Value) (f' : Fp),Wrt f X X1 → Cel.ow X1 c' u' f' → (∀ b,f' b → f b ∨ X.heap.size ≤ b) → X1.cell? ⟨B,o + j,none⟩ = some u ∧ X1.frozen? ⟨B,o + j,none⟩ = false ∧ Bcm w (X1.setCell ⟨B,o + j,none⟩ u') B o (cs.set j c') fp ∧ (u' = u → Bcm w X1 B o (cs.set j c') fp) := by
 obtain ⟨fp1,hp,_,hgo⟩ := h.next
 obtain ⟨u,f,h1,h2,h3,h4,h5,h6⟩ := hp.at hj
 refine ⟨u,f,h1,h2,h3,fun X1 c' u' f' hw hc hf => ?_⟩
 obtain ⟨k1,k2,k3,k4⟩ := h6 X1 c' u' f' hw hc hf
 exact ⟨k1,k2,hgo _ _ (by simp) k3,fun e => hgo _ _ (by simp) (k4 e)⟩
theorem Bcm.put {w X : World} {B o : Nat} {cs : List Cel} {fp : Fp} (h : Bcm w X B o cs fp) {j : Nat} {x : Value} (hj : cs[j]? = some (.v x)) (y : Value) : X.cell? ⟨B,o + j,none⟩ = some x ∧ X.frozen? ⟨B,o + j,none⟩ = false ∧ Bcm w (X.setCell ⟨B,o + j,none⟩ y) B o (cs.set j (.v y)) fp := by
 obtain ⟨u,f,h1,h2,⟨rfl,_⟩,h4⟩ := h.at hj
 exact ⟨h1,h2,(h4 X (.v y) y (fun _ => False) (Wrt.refl _ _) ⟨rfl,fun _ h => h⟩ (fun b hb => hb.elim)).2.2.1⟩
def m3 (k : Int) : Bool := k % 3 == 0
def cnt8 (r : Rw) : Nat := 1 + r.txt.length + r.got.length + r.sus.length + 1 + 1 + 1 + r.trm.length
def cP (R : List Rw) (k : Nat) : Nat := ((R.take k).map cnt8).sum
end Go.Proofs.YtidnfdobljihoaaGreat
namespace Go.Proofs.YtidnfdobljihoaaGreat
set_option linter.unusedVariables false
set_option linter.unusedSimpArgs false
open Go.RowKit Go.Sort
end Go.Proofs.YtidnfdobljihoaaGreat
namespace Go.Proofs.YtidnfdobljihoaaGreat
set_option linter.unusedVariables false
set_option linter.unusedSimpArgs false
open Go.RowKit Go.Sort
theorem owL_two {w : World} {c1 c2 : Cel} {v1 v2 : Value} {f : Fp} (h : owL w [c1,c2] [v1,v2] f) : ∃ f1 f2,Cel.ow w c1 v1 f1 ∧ Cel.ow w c2 v2 f2 ∧ (∀ b,f1 b → ¬ f2 b) ∧ ∀ b,f b ↔ f1 b ∨ f2 b := by
 obtain ⟨u1,us1,f1,g1,e1,o1,h2,d1,i1⟩ := h
 cases e1
 obtain ⟨u2,us2,f2,g2,e2,o2,h3,d2,i2⟩ := h2
 cases e2
 have hg : ∀ b,¬ g2 b := h3.2
 refine ⟨f1,f2,o1,o2,fun b h1 h2 => d1 b h1 ((i2 b).2 (.inl h2)),fun b => ?_⟩
 rw [i1,i2]
 exact ⟨fun h => h.imp id (fun h => h.elim id (fun h => absurd h (hg b))),fun h => h.imp id .inl⟩
def cntMb (m : Mb) : Nat := cP m.rows m.rows.length + m.sung.length
end Go.Proofs.YtidnfdobljihoaaGreat
namespace Go.Proofs.YtidnfdobljihoaaGreat
set_option linter.unusedVariables false
set_option linter.unusedSimpArgs false
open Go.RowKit Go.Sort
end Go.Proofs.YtidnfdobljihoaaGreat
namespace Go.Proofs.YtidnfdobljihoaaGreat
set_option linter.unusedVariables false
set_option linter.unusedSimpArgs false
open Go.RowKit Go.Sort
def hadB (R : List Rw) (n : Nat) (q : Int) : Bool := decide (q.toNat / n < (rowN R (q.toNat % n)).txt.length)
def txtOf (R : List Rw) (n : Nat) (q : Int) : List UInt8 := (rowN R (q.toNat % n)).txt.getD (q.toNat / n) []
def voiL (m : Mb) : List (List UInt8) × Bool := if m.sung.all (hadB m.rows m.k) = true then (m.sung.map (txtOf m.rows m.k),true) else ([],false)
def voiM (m : Mb) : List (List UInt8) := if okMb m = true then (voiL m).1 else []
def AnsVf (w w' : World) (e : Ending) (T : List (List UInt8)) (b : Bool) : Prop := ∃ a c,e = .returned (.tuple #[.slice a T.length c,.bool b]) ∧ NewO w w' (scl T) (.slice a T.length c)
theorem map_next {α β : Type} {f : α → β} {l : List α} {k : Nat} {x : α} (h : l[k]? = some x) : (l.take (k + 1)).map f = (l.take k).map f ++ [f x] := by
 have hk : k < l.length := by
  rcases Nat.lt_or_ge k l.length with h' | h'
  ·exact h'
  ·rw [List.getElem?_eq_none h'] at h;cases h
 rw [List.getElem?_eq_getElem hk] at h
 cases h
 rw [List.take_succ_eq_append_getElem hk,List.map_append]
 rfl
attribute [local irreducible] sv
set_option maxRecDepth 100000 in
set_option maxHeartbeats 6400000 in
theorem voiSp_any (A : Ma) (m : Mb) (i n : Nat) (w : World) (hv : MbS w A m) (ok : OkM m i n) :
  Calls Tryz.prog 47 #[mbV A m] w fun e w' => AnsVf w w' e (voiL m).1 (voiL m).2 := by
 have hmix := mixed17
 have hB0 : Below w.heap.size w (w.alloc (.cells (mbC A m) 27)) := oneA16 w _
 have hx := Bx.new w 27 (mbC A m)
 have HV : Hid (MbS w A m) := hv
 have HK : Hid (m.k = n) := ok.k
 have HOk : Hid (OkM m i n) := ok
 obtain ⟨id,nn,rows,sung,done⟩ := m
 obtain ⟨ra,rc,sa,sc⟩ := A
 have hnn : nn = (n : Int) := ok.hn
 subst hnn
 have hlen : rows.length = n := ok.len
 have HLn : Hid (rows.length = n) := hlen
 have hsl : sung.length ≤ 60 := ok.sl
 have hn5 := ok.n5
 have HZ : Hid (voiL ⟨id,(n : Int),rows,sung,done⟩ = if sung.all (hadB rows n) = true then (sung.map (txtOf rows n),true) else ([],false)) := by rw [Hid,voiL,HK.out]
 unfold mbV
 unfold mbC at *
 simp only at *
 generalize hWW : w.alloc (.cells #[.int .i64 id,.int .i64 (n : Int),.slice ra rows.length rc,.slice sa sung.length sc,.bool done] 27) = W at *
 have hba := oneA16 W (.cells #[] 9)
 have HX : Hid (Bx (W.alloc (.cells #[] 9)) w.heap.size 27 #[.int .i64 id,.int .i64 (n : Int),.slice ra rows.length rc,.slice sa sung.length sc,.bool done]) := hx.below hba
 have HB : Hid (Below w.heap.size w (W.alloc (.cells #[] 9))) := hB0.trans (hba.mono hB0.size)
 have hWs : w.heap.size ≤ W.heap.size := hB0.size
 have HO0 : Hid (Cel.ow (W.alloc (.cells #[] 9)) (scl []) (.slice (some ⟨W.heap.size,0,none⟩) 0 0) (fun _ => False)) := ow_scl.2 ⟨_,0,none,rfl,OSo.nil _ _ (plainS _ _),fun b => by simp⟩
 clear hx hB0 hv hba ok hlen
 go_enter Tryz.func47,Tryz.ntmps47
 go_wp2_with fail
 generalize hW2 : W.alloc (.cells #[] 9) = W2 at *
 clear hW2
 go_loopw [4,5] (fun v kv wr => ∃ (k : Nat) (a : Option Addr) (cc : Nat) (Z : List (List UInt8)) (fz : Fp),k ≤ sung.length ∧ kv = .int .i64 (k : Int) ∧ v = .slice a Z.length cc ∧ Hid (Z = (sung.take k).map (txtOf rows n)) ∧ Hid (∀ x ∈ sung.take k,hadB rows n x = true) ∧ Cel.ow wr (scl Z) (.slice a Z.length cc) fz ∧ (∀ b,fz b → w.heap.size < b) ∧ Bx wr w.heap.size 27 #[.int .i64 id,.int .i64 (n : Int),.slice ra rows.length rc,.slice sa sung.length sc,.bool done] ∧ Below w.heap.size w wr) (fun _ kv _ => sung.length - (intOf kv).toNat)
 case atStart => exact ⟨0,some ⟨W.heap.size,0,none⟩,0,[],_,Nat.zero_le _,rfl,rfl,rfl,fun x hx => absurd hx List.not_mem_nil,HO0.out,fun b h => h.elim,HX.out,HB.out⟩
 case round =>
  obtain ⟨k,a,cc,Z,fz,hk,rfl,rfl,hZ,hAll,hO,hfz,hX,hb⟩ := hrel
  obtain ⟨c0,c1,c2,c3,c4⟩ := Bx.r5 hX
  by_cases hlt : k < sung.length
  ·have k1 : (k : Int) < (sung.length : Int) := by omega
   have k0 : (0 : Int) ≤ (k : Int) := by omega
   have hVw := HV.out.below hb
   rcases hVw.sung.2.2 with h0 | ⟨sb,so,hsa,hsc⟩
   ·simp only at h0;omega
   simp only at hsa
   subst hsa
   have hsk := hsc k hlt
   simp only at hsk
   have hsg := (HOk.out.sg k hlt).1
   simp only at hsg
   have hget : sung[k]? = some (el sung k) := by simp [el,hlt]
   have HMp := map_next (f := txtOf rows n) hget
   have HMem : Hid (∀ x ∈ sung.take (k + 1),x ∈ sung.take k ∨ x = el sung k) := fun x hx => by
    rw [List.take_succ_eq_append_getElem hlt] at hx
    rcases List.mem_append.1 hx with h | h
    ·exact .inl h
    ·exact .inr (by simp at h;rw [h];simp [el,hlt])
   have HIn : Hid (el sung k ∈ sung) := el_mem hlt
   obtain ⟨q,hq⟩ : ∃ q : Nat,el sung k = (q : Int) := ⟨(el sung k).toNat,by omega⟩
   rw [hq] at hsk HMp HMem HIn hsg
   have HMp2 : Hid ((sung.take (k + 1)).map (txtOf rows n) = Z ++ [txtOf rows n (q : Int)]) := by rw [Hid,HMp,hZ.out]
   clear HMp hq hget
   have tm : ((q : Int)).tmod (n : Int) = ((q % n : Nat) : Int) := by rw [Int.tmod_eq_emod_of_nonneg (by omega)];rfl
   have td : ((q : Int)).tdiv (n : Int) = ((q / n : Nat) : Int) := by rw [Int.tdiv_eq_ediv_of_nonneg (by omega)];rfl
   have hJn : q % n < n := Nat.mod_lt _ (by omega)
   have hyq := Nat.div_le_self q n
   have n0 : ((n : Int) == 0) = false := by simp;omega
   have n00 : ¬ n = 0 := by omega
   have HHad : Hid (hadB rows n (q : Int) = decide (q / n < (rowN rows (q % n)).txt.length)) := rfl
   have HTx : Hid (txtOf rows n (q : Int) = (rowN rows (q % n)).txt.getD (q / n) []) := rfl
   obtain ⟨J,hJ⟩ : ∃ J : Nat,Hid (q % n = J) := ⟨_,rfl⟩
   obtain ⟨y,hy⟩ : ∃ y : Nat,Hid (q / n = y) := ⟨_,rfl⟩
   rw [hJ.out] at tm hJn
   rw [hy.out] at td hyq
   rw [hJ.out,hy.out] at HHad HTx
   have hwy : wrap64 (y : Int) = (y : Int) := by unfold wrap64;omega
   have hJl : J < rows.length := by rw [HLn.out];exact hJn
   obtain ⟨g,off,AJ,hra,⟨⟨d0,d1,d2,d3⟩,d4,d5,d6,d7⟩,hrs⟩ := hVw.row (k := J) hJl
   simp only at hra hrs d0 d1 d2 d3 d4 d5 d6 d7
   subst hra
   have J0 : (0 : Int) ≤ (J : Int) := by omega
   have J1 : (J : Int) < (rows.length : Int) := by omega
   have hokJ : OkR (rowN rows J) n := HOk.out.ok J hJn
   have HXw : Hid (Bx wr w.heap.size 27 #[.int .i64 id,.int .i64 (n : Int),.slice (some ⟨g,off,none⟩) rows.length rc,.slice (some ⟨sb,so,none⟩) sung.length sc,.bool done]) := hX
   have HB3 : Hid (Below w.heap.size w wr) := hb
   have HO : Hid (Cel.ow wr (scl Z) (.slice a Z.length cc) fz) := hO
   have HRS : Hid (TxS wr AJ.ta (rowN rows J).txt) := hrs.txt
   have hZl : Z.length ≤ 1000000 := by rw [hZ.out,List.length_map,List.length_take];omega
   generalize hrr : rowN rows J = r at *
   have KS : ∀ X,Below wr.heap.size wr X → (X.cell? ⟨w.heap.size,2,none⟩ = some (.slice (some ⟨g,off,none⟩) rows.length rc) ∧ X.cell? ⟨w.heap.size,3,none⟩ = some (.slice (some ⟨sb,so,none⟩) sung.length sc) ∧ X.cell? ⟨sb,so + k,none⟩ = some (.int .i64 (q : Int)) ∧ X.cell? ⟨w.heap.size,1,none⟩ = some (.int .i64 (n : Int)) ∧ X.cell? ⟨g,off + J * 8,none⟩ = some (.int .i64 r.ver) ∧ X.cell? ⟨g,off + J * 8 + 1,none⟩ = some (.slice AJ.ta r.txt.length AJ.tc) ∧ X.cell? ⟨g,off + J * 8 + 2,none⟩ = some (.slice AJ.ga r.got.length AJ.gc) ∧ X.cell? ⟨g,off + J * 8 + 3,none⟩ = some (.slice AJ.sa r.sus.length AJ.sc) ∧ X.cell? ⟨g,off + J * 8 + 4,none⟩ = some (.bool r.wed) ∧ X.cell? ⟨g,off + J * 8 + 5,none⟩ = some (.bool r.rdy) ∧ X.cell? ⟨g,off + J * 8 + 6,none⟩ = some (.int .i64 r.by_) ∧ X.cell? ⟨g,off + J * 8 + 7,none⟩ = some (.slice AJ.ma r.trm.length AJ.mc)) := fun X hX => by
    have t : ∀ {x v},wr.cell? x = some v → X.cell? x = some v := fun h => (hX.cell (World.block_lt_of_cell? _ _ h)).trans h
    exact ⟨t c2,t c3,t hsk,t c1,t d0,t d1,t d2,t d3,t d4,t d5,t d6,t d7⟩
   have hbd : Below wr.heap.size wr wr.drew := (Same.drewN wr 1).below
   clear hrr c0 c1 c2 c4 d0 d1 d2 d3 d4 d5 d6 d7 hrs hO hX hb hVw hsc hsk
   go_wp2_with fail
   refine gt_begin (S := fun X : World => X.cell? ⟨w.heap.size,2,none⟩ = some (.slice (some ⟨g,off,none⟩) rows.length rc) ∧ X.cell? ⟨w.heap.size,3,none⟩ = some (.slice (some ⟨sb,so,none⟩) sung.length sc) ∧ X.cell? ⟨sb,so + k,none⟩ = some (.int .i64 (q : Int)) ∧ X.cell? ⟨w.heap.size,1,none⟩ = some (.int .i64 (n : Int)) ∧ X.cell? ⟨g,off + J * 8,none⟩ = some (.int .i64 r.ver) ∧ X.cell? ⟨g,off + J * 8 + 1,none⟩ = some (.slice AJ.ta r.txt.length AJ.tc) ∧ X.cell? ⟨g,off + J * 8 + 2,none⟩ = some (.slice AJ.ga r.got.length AJ.gc) ∧ X.cell? ⟨g,off + J * 8 + 3,none⟩ = some (.slice AJ.sa r.sus.length AJ.sc) ∧ X.cell? ⟨g,off + J * 8 + 4,none⟩ = some (.bool r.wed) ∧ X.cell? ⟨g,off + J * 8 + 5,none⟩ = some (.bool r.rdy) ∧ X.cell? ⟨g,off + J * 8 + 6,none⟩ = some (.int .i64 r.by_) ∧ X.cell? ⟨g,off + J * 8 + 7,none⟩ = some (.slice AJ.ma r.trm.length AJ.mc)) 13 hmix (by kernel_rfl) ?_
   have hHeld : (fun X : World => X.cell? ⟨w.heap.size,2,none⟩ = some (.slice (some ⟨g,off,none⟩) rows.length rc) ∧ X.cell? ⟨w.heap.size,3,none⟩ = some (.slice (some ⟨sb,so,none⟩) sung.length sc) ∧ X.cell? ⟨sb,so + k,none⟩ = some (.int .i64 (q : Int)) ∧ X.cell? ⟨w.heap.size,1,none⟩ = some (.int .i64 (n : Int)) ∧ X.cell? ⟨g,off + J * 8,none⟩ = some (.int .i64 r.ver) ∧ X.cell? ⟨g,off + J * 8 + 1,none⟩ = some (.slice AJ.ta r.txt.length AJ.tc) ∧ X.cell? ⟨g,off + J * 8 + 2,none⟩ = some (.slice AJ.ga r.got.length AJ.gc) ∧ X.cell? ⟨g,off + J * 8 + 3,none⟩ = some (.slice AJ.sa r.sus.length AJ.sc) ∧ X.cell? ⟨g,off + J * 8 + 4,none⟩ = some (.bool r.wed) ∧ X.cell? ⟨g,off + J * 8 + 5,none⟩ = some (.bool r.rdy) ∧ X.cell? ⟨g,off + J * 8 + 6,none⟩ = some (.int .i64 r.by_) ∧ X.cell? ⟨g,off + J * 8 + 7,none⟩ = some (.slice AJ.ma r.trm.length AJ.mc)) wr.drew := (KS _ hbd)
   refine gt_take (i := 0) (v := ?_) rfl (by kernel_rfl) (by kernel_rfl) (by kernel_rfl) (by kernel_rfl) (fun _ _ _ h => h) (Or.inl ⟨by rfl, ?_⟩) hHeld ?_
   rotate_left
   ·(intro X hSX;(try dsimp only at hSX);obtain ⟨g0,g1,g2,g3,g4,g5,g6,g7,g8,g9,g10,g11⟩ := hSX;go_simp;try with_reducible rfl)
   try simp only [Act.put,List.setIfInBounds_toArray,List.set_cons_zero,List.set_cons_succ]
   refine gt_take (i := 1) (v := ?_) rfl (by kernel_rfl) (by kernel_rfl) (by kernel_rfl) (by kernel_rfl) (fun _ _ _ h => h) (Or.inl ⟨by rfl, ?_⟩) hHeld ?_
   rotate_left
   ·(intro X hSX;(try dsimp only at hSX);obtain ⟨g0,g1,g2,g3,g4,g5,g6,g7,g8,g9,g10,g11⟩ := hSX;go_simp;try with_reducible rfl)
   try simp only [Act.put,List.setIfInBounds_toArray,List.set_cons_zero,List.set_cons_succ]
   refine gt_take (i := 2) (v := ?_) rfl (by kernel_rfl) (by kernel_rfl) (by kernel_rfl) (by kernel_rfl) (fun _ _ _ h => h) (Or.inl ⟨by rfl, ?_⟩) hHeld ?_
   rotate_left
   ·(intro X hSX;(try dsimp only at hSX);obtain ⟨g0,g1,g2,g3,g4,g5,g6,g7,g8,g9,g10,g11⟩ := hSX;go_simp;try with_reducible rfl)
   try simp only [Act.put,List.setIfInBounds_toArray,List.set_cons_zero,List.set_cons_succ]
   refine gt_take (i := 3) (v := ?_) rfl (by kernel_rfl) (by kernel_rfl) (by kernel_rfl) (by kernel_rfl) (fun _ _ _ h => h) (Or.inl ⟨by rfl, ?_⟩) hHeld ?_
   rotate_left
   ·(intro X hSX;(try dsimp only at hSX);obtain ⟨g0,g1,g2,g3,g4,g5,g6,g7,g8,g9,g10,g11⟩ := hSX;go_simp;try with_reducible rfl)
   try simp only [Act.put,List.setIfInBounds_toArray,List.set_cons_zero,List.set_cons_succ]
   refine gt_take (i := 4) (v := ?_) rfl (by kernel_rfl) (by kernel_rfl) (by kernel_rfl) (by kernel_rfl) (fun _ _ _ h => h) (Or.inl ⟨by rfl, ?_⟩) hHeld ?_
   rotate_left
   ·(intro X hSX;(try dsimp only at hSX);obtain ⟨g0,g1,g2,g3,g4,g5,g6,g7,g8,g9,g10,g11⟩ := hSX;go_simp;try with_reducible rfl)
   try simp only [Act.put,List.setIfInBounds_toArray,List.set_cons_zero,List.set_cons_succ]
   refine gt_take (i := 5) (v := ?_) rfl (by kernel_rfl) (by kernel_rfl) (by kernel_rfl) (by kernel_rfl) (fun _ _ _ h => h) (Or.inl ⟨by rfl, ?_⟩) hHeld ?_
   rotate_left
   ·(intro X hSX;(try dsimp only at hSX);obtain ⟨g0,g1,g2,g3,g4,g5,g6,g7,g8,g9,g10,g11⟩ := hSX;go_simp;try with_reducible rfl)
   try simp only [Act.put,List.setIfInBounds_toArray,List.set_cons_zero,List.set_cons_succ]
   refine gt_take (i := 6) (v := ?_) rfl (by kernel_rfl) (by kernel_rfl) (by kernel_rfl) (by kernel_rfl) (fun _ _ _ h => h) (Or.inl ⟨by rfl, ?_⟩) hHeld ?_
   rotate_left
   ·(intro X hSX;(try dsimp only at hSX);obtain ⟨g0,g1,g2,g3,g4,g5,g6,g7,g8,g9,g10,g11⟩ := hSX;go_simp;try with_reducible rfl)
   try simp only [Act.put,List.setIfInBounds_toArray,List.set_cons_zero,List.set_cons_succ]
   refine gt_take (i := 7) (v := ?_) rfl (by kernel_rfl) (by kernel_rfl) (by kernel_rfl) (by kernel_rfl) (fun _ _ _ h => h) (Or.inl ⟨by rfl, ?_⟩) hHeld ?_
   rotate_left
   ·(intro X hSX;(try dsimp only at hSX);obtain ⟨g0,g1,g2,g3,g4,g5,g6,g7,g8,g9,g10,g11⟩ := hSX;go_simp;try with_reducible rfl)
   try simp only [Act.put,List.setIfInBounds_toArray,List.set_cons_zero,List.set_cons_succ]
   refine gt_take (i := 8) (v := ?_) rfl (by kernel_rfl) (by kernel_rfl) (by kernel_rfl) (by kernel_rfl) (fun _ _ _ h => h) (Or.inl ⟨by rfl, ?_⟩) hHeld ?_
   rotate_left
   ·(intro X hSX;(try dsimp only at hSX);obtain ⟨g0,g1,g2,g3,g4,g5,g6,g7,g8,g9,g10,g11⟩ := hSX;go_simp;try with_reducible rfl)
   try simp only [Act.put,List.setIfInBounds_toArray,List.set_cons_zero,List.set_cons_succ]
   refine gt_take (i := 9) (v := ?_) rfl (by kernel_rfl) (by kernel_rfl) (by kernel_rfl) (by kernel_rfl) (fun _ _ _ h => h) (Or.inl ⟨by rfl, ?_⟩) hHeld ?_
   rotate_left
   ·(intro X hSX;(try dsimp only at hSX);obtain ⟨g0,g1,g2,g3,g4,g5,g6,g7,g8,g9,g10,g11⟩ := hSX;go_simp;try with_reducible rfl)
   try simp only [Act.put,List.setIfInBounds_toArray,List.set_cons_zero,List.set_cons_succ]
   refine gt_take (i := 10) (v := ?_) rfl (by kernel_rfl) (by kernel_rfl) (by kernel_rfl) (by kernel_rfl) (fun _ _ _ h => h) (Or.inl ⟨by rfl, ?_⟩) hHeld ?_
   rotate_left
   ·(intro X hSX;(try dsimp only at hSX);obtain ⟨g0,g1,g2,g3,g4,g5,g6,g7,g8,g9,g10,g11⟩ := hSX;go_simp;try with_reducible rfl)
   try simp only [Act.put,List.setIfInBounds_toArray,List.set_cons_zero,List.set_cons_succ]
   refine gt_take (i := 11) (v := ?_) rfl (by kernel_rfl) (by kernel_rfl) (by kernel_rfl) (by kernel_rfl) (fun _ _ _ h => h) (Or.inl ⟨by rfl, ?_⟩) hHeld ?_
   rotate_left
   ·(intro X hSX;(try dsimp only at hSX);obtain ⟨g0,g1,g2,g3,g4,g5,g6,g7,g8,g9,g10,g11⟩ := hSX;go_simp;try with_reducible rfl)
   try simp only [Act.put,List.setIfInBounds_toArray,List.set_cons_zero,List.set_cons_succ]
   refine gt_one (i := 12) rfl (by kernel_rfl) (by kernel_rfl) (fun K hK => ?_)
   go_simp
   have hb2 : Below wr.heap.size wr (wr.drew.alloc (.cells #[.int .i64 0,.slice none 0 0,.slice none 0 0,.slice none 0 0,.bool false,.bool false,.int .i64 0,.slice none 0 0] 37)) := hbd.trans ((oneA16 wr.drew _).mono hbd.size)
   refine hK.out _ _ (KS _ hb2) (fun hHeldN => ?_)
   clear hK hHeld
   have hHeld := hHeldN
   try simp only [Act.put,List.setIfInBounds_toArray,List.set_cons_zero,List.set_cons_succ]
   refine gt_last rfl (by kernel_rfl) (by kernel_rfl) (fun K hK => ?_)
   go_simp
   refine hK.out _ _ ?_
   have hb5 : Below wr.heap.size wr (wr.alloc (.cells #[.int .i64 r.ver,.slice AJ.ta r.txt.length AJ.tc,.slice AJ.ga r.got.length AJ.gc,.slice AJ.sa r.sus.length AJ.sc,.bool r.wed,.bool r.rdy,.int .i64 r.by_,.slice AJ.ma r.trm.length AJ.mc] 37)).drew := (oneA16 wr _).trans ((Same.drewN _ 1).below.mono (oneA16 wr _).size)
   have hx5 : Bx (wr.alloc (.cells #[.int .i64 r.ver,.slice AJ.ta r.txt.length AJ.tc,.slice AJ.ga r.got.length AJ.gc,.slice AJ.sa r.sus.length AJ.sc,.bool r.wed,.bool r.rdy,.int .i64 r.by_,.slice AJ.ma r.trm.length AJ.mc] 37)).drew wr.heap.size 37 #[.int .i64 r.ver,.slice AJ.ta r.txt.length AJ.tc,.slice AJ.ga r.got.length AJ.gc,.slice AJ.sa r.sus.length AJ.sc,.bool r.wed,.bool r.rdy,.int .i64 r.by_,.slice AJ.ma r.trm.length AJ.mc] := Bx.new wr _ _
   have p3 := KS _ hb5
   generalize (wr.alloc (.cells #[.int .i64 r.ver,.slice AJ.ta r.txt.length AJ.tc,.slice AJ.ga r.got.length AJ.gc,.slice AJ.sa r.sus.length AJ.sc,.bool r.wed,.bool r.rdy,.int .i64 r.by_,.slice AJ.ma r.trm.length AJ.mc] 37)).drew = W5 at *
   have HX5 : Hid (Bx W5 wr.heap.size 37 #[.int .i64 r.ver,.slice AJ.ta r.txt.length AJ.tc,.slice AJ.ga r.got.length AJ.gc,.slice AJ.sa r.sus.length AJ.sc,.bool r.wed,.bool r.rdy,.int .i64 r.by_,.slice AJ.ma r.trm.length AJ.mc]) := hx5
   have HB5 : Hid (Below wr.heap.size wr W5) := hb5
   have T5 : ∀ {x v},W5.cell? x = some v → ∀ q : Bk W5,q.w.cell? x = some v := fun h q => (q.h.cell (World.block_lt_of_cell? _ _ h)).trans h
   have ps := T5 p3.2.1
   have pe := T5 p3.2.2.1
   have pn := T5 p3.2.2.2.1
   clear hHeld KS hbd hb2 hK p3 hx5 hb5 T5 c3
   go_wp2_with fail
   refine wp_region_bk (by kernel_rfl) (by kernel_rfl) ?_
   repeat (go_big_quiet_step ((first | rfl)))
   refine wpQuiet_nil ?_
   intro wE hw'
   obtain ⟨⟨w11,hb11⟩,hw''⟩ := hw'
   have hwe : wE = w11 := hw''
   clear hw''
   subst hwe
   have hbE := HB5.out.trans (hb11.mono HB5.out.size)
   have HB6 : Hid (Below w.heap.size w wE) := HB3.out.trans (hbE.mono HB3.out.size)
   have HX6 : Hid (Bx wE w.heap.size 27 #[.int .i64 id,.int .i64 (n : Int),.slice (some ⟨g,off,none⟩) rows.length rc,.slice (some ⟨sb,so,none⟩) sung.length sc,.bool done]) := HXw.out.below hbE
   have hO6 := Cel.ow_below HO.out hbE
   have x1 := (HX5.out.below hb11).at 1 rfl
   simp only [List.getElem_toArray,List.getElem_cons_succ,List.getElem_cons_zero] at x1
   have hTx := HRS.out.below hbE
   have hsE := hbE.size
   have hsE2 := HB3.out.size
   clear ps pe pn hb11 hbE tm td
   by_cases hhad : y < r.txt.length
   ·have e1 : ¬ ((r.txt.length : Int) ≤ (y : Int)) := by omega
    have e2 : decide ((r.txt.length : Int) ≤ (y : Int)) = false := by simpa using hhad
    have y0 : (0 : Int) ≤ (y : Int) := by omega
    have y1 : (y : Int) < (r.txt.length : Int) := by omega
    have HAl2 : Hid (∀ x ∈ sung.take (k + 1),hadB rows n x = true) := fun x hx => by
     rcases HMem.out x hx with h | h
     ·exact hAll.out x h
     ·rw [h,HHad.out];simpa using hhad
    rcases hTx with h0 | ⟨tb,tof,hta,htc⟩
    ·omega
    have htx := htc y hhad
    rw [hta] at x1
    rw [← HTx.out] at htx
    generalize txtOf rows n (q : Int) = tt at *
    obtain ⟨a',c',ea,hA⟩ := ow_txt_app tt hO6 hZl
    cases ea
    clear htc hta
    go_wp2_with (at_builtin;refine wpList_append_of (by rfl) _ _ _ _ (by rfl) _ _ (by rfl) (by rfl) hA ⟨rfl,rfl,rfl,rfl⟩ ?_;rintro v1 w1 ⟨a1,e1,f1,rfl,q1,q2,q3⟩;have HQ1 : Hid (Cel.ow w1 (scl (Z ++ [tt])) (.slice a1 (Z.length + 1) e1) f1) := q1;have HQ2 : Hid (∀ b,f1 b → fz b ∨ wE.heap.size ≤ b) := q2;have HQ3 : Hid (Wrt fz wE w1) := q3;clear q1 q2 q3 hA)
    have HL : Hid ((Z ++ [tt]).length = Z.length + 1) := by rw [Hid,List.length_append];rfl
    have hbx := HX6.out.lt
    go_roundw
    case rel => exact ⟨k + 1,a1,e1,Z ++ [tt],f1,by omega,by go_num,by rw [HL.out],HMp2.out.symm,HAl2,by rw [HL.out];exact HQ1.out,fun b hb => (HQ2.out b hb).elim (hfz b) (fun h => by omega),HX6.out.wrt HQ3.out (fun k => by have := hfz _ k;omega),HQ3.out.below HB6.out (by omega) (fun b hb => by have := hfz b hb;omega)⟩
    case measure => simp [intOf];omega
   ·have e1 : (r.txt.length : Int) ≤ (y : Int) := by omega
    have e2 : decide ((r.txt.length : Int) ≤ (y : Int)) = true := by simpa using e1
    have HNo : Hid (voiL ⟨id,(n : Int),rows,sung,done⟩ = ([],false)) := by
     rw [Hid,HZ.out,if_neg]
     intro h
     have := (List.all_eq_true.1 h) _ HIn.out
     rw [HHad.out] at this
     simp at this
     omega
    have HN : Hid (NewO w (wE.alloc (.cells #[] 9)) (scl []) (.slice (some ⟨wE.heap.size,0,none⟩) 0 0)) := ⟨fun _ => False,ow_scl.2 ⟨_,0,none,rfl,OSo.nil _ _ (plainS _ _),fun b => by simp⟩,fun b h => h.elim,HB6.out.trans ((oneA16 wE _).mono HB6.out.size)⟩
    clear hO6 hTx
    go_wp2
    go_ret2
    rw [HNo.out]
    exact ⟨_,_,rfl,HN.out⟩
  ·have k1 : ¬ ((k : Int) < (sung.length : Int)) := by omega
   have HYes : Hid (voiL ⟨id,(n : Int),rows,sung,done⟩ = (Z,true)) := by
    rw [Hid,HZ.out,hZ.out,List.take_of_length_le (by omega),if_pos]
    rw [List.all_eq_true]
    intro x hx
    have := hAll.out x (by rw [List.take_of_length_le (by omega)];exact hx)
    exact this
   have HN : Hid (NewO w wr (scl Z) (.slice a Z.length cc)) := ⟨fz,hO,fun b hb => by have := hfz b hb;omega,hb⟩
   clear hO hX hb c0 c1 c2 c4
   go_wp2
   go_ret2
   rw [HYes.out]
   exact ⟨_,_,rfl,HN.out⟩
end Go.Proofs.YtidnfdobljihoaaGreat
namespace Go.Proofs.YtidnfdobljihoaaGreat
set_option linter.unusedVariables false
set_option linter.unusedSimpArgs false
open Go.RowKit Go.Sort
def AnsTx (w w' : World) (e : Ending) (T : List (List UInt8)) : Prop := ∃ a c,e = .returned (.slice a T.length c) ∧ NewO w w' (scl T) (.slice a T.length c)
theorem NewO.before {w w1 w2 : World} {c : Cel} {v : Value} (h : NewO w1 w2 c v) (hb : Below w.heap.size w w1) : NewO w w2 c v := by
 obtain ⟨f,h1,h2,h3⟩ := h
 exact ⟨f,h1,fun b hb' => Nat.le_trans hb.size (h2 b hb'),hb.trans (h3.mono hb.size)⟩
set_option maxRecDepth 100000 in
set_option maxHeartbeats 3200000 in
theorem voiS_any (A : Ma) (m : Mb) (w : World) (hv : MbS w A m) :
  Calls Tryz.prog 15 #[mbV A m] w fun e w' => AnsTx w w' e (voiM m) := by
 have hB0 := oneA16 w (.cells (mbC A m) 27)
 have hx := Bx.new w 27 (mbC A m)
 have hv0 := hv.below hB0
 have hK := mbkS_any A m _ hv0
 unfold mbV at *
 unfold mbC at *
 generalize hWW : w.alloc (.cells #[.int .i64 m.id,.int .i64 m.n,.slice A.ra m.rows.length A.rc,.slice A.sa m.sung.length A.sc,.bool m.done] 27) = W at *
 have HX : Hid (Bx W w.heap.size 27 #[.int .i64 m.id,.int .i64 m.n,.slice A.ra m.rows.length A.rc,.slice A.sa m.sung.length A.sc,.bool m.done]) := hx
 have HB : Hid (Below w.heap.size w W) := hB0
 have HV : Hid (MbS W A m) := hv0
 obtain ⟨c0,c1,c2,c3,c4⟩ := Bx.r5 hx
 clear hv hx hB0 hv0
 cases hok : okMb m with
 | false =>
  have HZ : Hid (voiM m = []) := by rw [Hid,voiM,hok];rfl
  rw [hok] at hK
  clear hok
  go_enter Tryz.func15,Tryz.ntmps15
  go_wp2_with fail
  refine hK.mono ?_
  rintro e w1 ⟨rfl,hb1⟩
  have HB1 : Hid (Below w.heap.size w w1) := HB.out.trans (hb1.mono HB.out.size)
  have HN : Hid (NewO w (w1.alloc (.cells #[] 9)) (scl []) (.slice (some ⟨w1.heap.size,0,none⟩) 0 0)) := ⟨fun _ => False,ow_scl.2 ⟨_,0,none,rfl,OSo.nil _ _ (plainS _ _),fun b => by simp⟩,fun b h => h.elim,HB1.out.trans ((oneA16 w1 _).mono HB1.out.size)⟩
  clear hb1 hK c0 c1 c2 c3 c4
  go_wp2
  go_ret
  rw [HZ.out]
  exact ⟨_,_,rfl,HN.out⟩
 | true =>
  have HZ : Hid (voiM m = (voiL m).1) := by rw [Hid,voiM,hok];rfl
  obtain ⟨i,n,ok⟩ := okMb_iff.1 hok
  rw [hok] at hK
  clear hok
  go_enter Tryz.func15,Tryz.ntmps15
  go_wp2_with fail
  refine hK.mono ?_
  rintro e w1 ⟨rfl,hb1⟩
  have HB1 : Hid (Below w.heap.size w w1) := HB.out.trans (hb1.mono HB.out.size)
  have hC := voiSp_any A m i n w1 (HV.out.below hb1) ok
  unfold mbV mbC at hC
  clear c0 c1 c2 c3 c4 hK
  obtain ⟨c0,c1,c2,c3,c4⟩ := Bx.r5 (HX.out.below hb1)
  clear hb1
  go_wp2_with fail
  refine hC.mono ?_
  rintro e w2 ⟨a2,e2,rfl,hN⟩
  have HN : Hid (NewO w w2 (scl (voiL m).1) (.slice a2 (voiL m).1.length e2)) := hN.before HB1.out
  clear hN c0 c1 c2 c3 c4 hC
  generalize voiL m = vv at *
  go_wp2
  go_ret
  rw [HZ.out]
  exact ⟨_,_,rfl,HN.out⟩
end Go.Proofs.YtidnfdobljihoaaGreat
namespace Go.Proofs.YtidnfdobljihoaaGreat
set_option linter.unusedVariables false
set_option linter.unusedSimpArgs false
open Go.RowKit Go.Sort
def Mb64 (m : Mb) : Prop := I64v m.id ∧ I64v m.n ∧ ∀ r ∈ m.rows,Rw64 r
structure MbP (w : World) (A : Ma) (m : Mb) : Prop where
 own : ∃ f,owL w (mbCels m) (mbVals A m) f
 fit : FitM m
 i64 : Mb64 m
 sz : szMb m ≤ 1048576
theorem it_mbs {w : World} {A : Ma} {m : Mb} {lo hi : Nat} (h : It w (mbCels m) (mbVals A m) lo hi) (hf : FitM m) : MbS w A m := mbs_of h.vw hf
def ImplMemberOk : Prop := ∀ (A : Ma) (m : Mb) (w : World),MbP w A m → Calls Tryz.prog 17 #[mbV A m] w fun e w' => e = .returned (.bool (okMb m)) ∧ Below w.heap.size w w'
def ImplStep1 : Prop := ∀ (A : Ma) (m : Mb) (w : World),MbP w A m → (okMb m = true → m.own.ver < 1000000) → Calls Tryz.prog 9 #[mbV A m] w fun e w' => AnsMb w w' e (stpM m)
def ImplVoice : Prop := ∀ (A : Ma) (m : Mb) (w : World),MbP w A m → Calls Tryz.prog 14 #[mbV A m] w fun e w' => AnsTx w w' e (voiM m)
def SmM (m : Mb) : Prop := FitM m ∧ cntMb m ≤ 1000 ∧ m.rows.length ≤ 5 ∧ szMb m ≤ 100000
theorem sum_le (F : Rw → Nat) (c : Nat) : ∀ (R : List Rw),(∀ r ∈ R,F r ≤ c) → (R.map F).sum ≤ c * R.length
 | [],_ => by simp
 | r :: R,h => by
  have ih := sum_le F c R (fun x hx => h x (List.mem_cons_of_mem _ hx))
  have h1 := h r List.mem_cons_self
  rw [List.map_cons,List.sum_cons,List.length_cons,Nat.mul_succ]
  omega
theorem OkR.c8 {r : Rw} {n : Nat} (h : OkR r n) : cnt8 r ≤ 31 ∧ szRw r ≤ 300 := by
 have h5 := h.n5
 have h1 := h.gl
 have h2 := h.sl
 have h3 := h.ml
 have h4 := h.tl
 have h6 : totS r.txt r.txt.length ≤ r.txt.length * 20 := totS_le (fun i hi => h.ts _ (by rw [List.getD_eq_getElem?_getD,List.getElem?_eq_getElem hi];exact List.getElem_mem hi)) _ (Nat.le_refl _)
 unfold cnt8 szRw
 omega
theorem OkM.small {m : Mb} {i n : Nat} (h : OkM m i n) : SmM m := by
 have h5 := h.n5
 have hl := h.len
 have hs := h.sl
 have e1 : cP m.rows m.rows.length ≤ 31 * m.rows.length := by
  unfold cP
  rw [List.take_length]
  exact sum_le cnt8 31 m.rows (fun r hr => (h.rowOk r hr).c8.1)
 have e2 : szP m.rows m.rows.length ≤ 300 * m.rows.length := by
  unfold szP
  rw [List.take_length]
  exact sum_le szRw 300 m.rows (fun r hr => (h.rowOk r hr).c8.2)
 refine ⟨h.fit, ?_,by omega, ?_⟩
 ·unfold cntMb;omega
 ·unfold szMb szRs;omega
theorem zeroMb_small : SmM zeroMb := ⟨⟨fun r hr => absurd hr List.not_mem_nil,fun x hx => absurd hx List.not_mem_nil⟩,by simp [cntMb,cP,zeroMb],by simp [zeroMb],by simp [szMb,szRs,szP,zeroMb]⟩
theorem stpM_small (m : Mb) : SmM (stpM m) := by
 unfold stpM
 split
 ·rename_i h;obtain ⟨i,n,ok⟩ := okMb_iff.1 h;exact (stepM ok).ok.small
 ·exact zeroMb_small
theorem voiM_small (m : Mb) : (voiM m).length ≤ 60 := by
 unfold voiM
 split
 ·rename_i h
  obtain ⟨i,n,ok⟩ := okMb_iff.1 h
  have := ok.sl
  unfold voiL
  split
  ·simpa using this
  ·simp
 ·simp
attribute [local irreducible] sv
end Go.Proofs.YtidnfdobljihoaaGreat