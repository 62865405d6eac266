/-
  Texts in one: Nom Non Nmr.
-/
import Derived.Test.YtidnfdobljihoaaGreatJas
import Derived.Test.YtidnfdobljihoaaGreatJak
import Derived.Test.YtidnfdobljihoaaGreatJaq
namespace Go.Proofs.YtidnfdobljihoaaGreat
set_option linter.unusedVariables false
set_option linter.unusedSimpArgs false
open Go.RowKit Go.Sort
theorem Iw.rowP {w X : World} {B : Nat} {m : Mb} {fp : Fp} {g off c : Nat} (h : Iw w X B m fp g off c) {k : Nat} (hk : k < m.rows.length) (hf : FitR (rowN m.rows k)) (h6 : Rw64 (rowN m.rows k)) (hs : szRw (rowN m.rows k) ≤ 1048576) : ∃ Ak : Ra,C8 X g (off + k * 8) (.int .i64 (rowN m.rows k).ver) (.slice Ak.ta (rowN m.rows k).txt.length Ak.tc) (.slice Ak.ga (rowN m.rows k).got.length Ak.gc) (.slice Ak.sa (rowN m.rows k).sus.length Ak.sc) (.bool (rowN m.rows k).wed) (.bool (rowN m.rows k).rdy) (.int .i64 (rowN m.rows k).by_) (.slice Ak.ma (rowN m.rows k).trm.length Ak.mc) ∧ RwP X Ak (rowN m.rows k) := by
 obtain ⟨fp1,hp,hf1,hgo⟩ := h.bcm.next
 obtain ⟨g',off',c',f,h1,hgB,hfg,hfs,⟨vs,hpc,hov,_⟩,hput⟩ := hp.el (F := rw8) rw8_len (by omega) (j := 1) (L := m.rows) rfl (rowN_at hk)
 have e := Option.some.inj (h1.symm.trans h.rws)
 cases e
 obtain ⟨A,rfl,hl⟩ := rw8_ow hov
 have hl8 : (rwC A (rowN m.rows k)).toList.length = 8 := rfl
 have q := hpc.cell
 refine ⟨A,⟨⟨q 0 (by rw [hl8];omega),q 1 (by rw [hl8];omega),q 2 (by rw [hl8];omega),q 3 (by rw [hl8];omega)⟩,q 4 (by rw [hl8];omega),q 5 (by rw [hl8];omega),q 6 (by rw [hl8];omega),q 7 (by rw [hl8];omega)⟩, ?_⟩
 exact it_rwp (lo := 0) (hi := X.heap.size) ⟨f,hl,fun b hb => ⟨Nat.zero_le _,owL_lt hl b hb⟩⟩ hf h6 hs
theorem okR_64 {r : Rw} {n : Nat} (h : OkR r n) : Rw64 r ∧ szRw r ≤ 1000 := by
 have h5 := h.n5
 have hv := h.ver
 have hc := h.c8
 refine ⟨?_,by omega⟩
 unfold Rw64 I64v
 cases hr : r.rdy with
 | false => have := (h.not hr).1;exact ⟨by omega,by omega⟩
 | true => have := (h.rdy hr).2.1;exact ⟨by omega,by omega⟩
theorem mo4_txt (m : Mb) : (mo4 m).txt = m.own.txt := by
 have h1 : (mo1 m).txt = m.own.txt := (learn_lrn _ _ _ _).txt
 have h2 : (mo2 m).txt = m.own.txt := by
  unfold mo2
  split <;> exact h1
 have h3 : (mo3 m).txt = m.own.txt := by
  unfold mo3
  split
  ·rw [(lead_keep _ _ _ _).2.2.2.1];exact h2
  ·exact h2
 unfold mo4
 split
 ·rw [(adopt_keep _ _ _ _).2.2.2.1];exact h3
 ·exact h3
theorem mo4_sus (m : Mb) : (mo4 m).sus = (mo2 m).sus := by
 have h3 : (mo3 m).sus = (mo2 m).sus := by
  unfold mo3
  split
  ·rw [(lead_keep _ _ _ _).1]
  ·rfl
 unfold mo4
 split
 ·rw [(adopt_keep _ _ _ _).1];exact h3
 ·exact h3
theorem sameRw_comm (a b : Rw) : sameRw a b = sameRw b a := by
 unfold sameRw
 congr 1
 exact propext ⟨fun ⟨h1,h2,h3,h4,h5,h6⟩ => ⟨h1.symm,h2.symm,h3.symm,h4.symm,h5.symm,h6.symm⟩,fun ⟨h1,h2,h3,h4,h5,h6⟩ => ⟨h1.symm,h2.symm,h3.symm,h4.symm,h5.symm,h6.symm⟩⟩
theorem step_wed {m : Mb} {i n : Nat} (M : OkM m i n) (hd : m.done = false) (S : Stg m i n) (hw : (mo1 m).wed = true) :
  agreeR { m with rows := m.rows.set i (mo1 m) } i n = mo4 m ∧ endM { m with rows := m.rows.set i (mo4 m) } i n = { m with rows := m.rows.set i (mo4 m),sung := if moE m = true then songT (moS m) (mo4 m).trm else moS m,done := moE m } := by
 have hil : i < m.rows.length := by rw [M.len];exact M.lt
 obtain ⟨e2,eS⟩ := S.wd hw
 obtain ⟨hp,hh,hD,hm⟩ := head_getD S.mem
 have eL : moL m = leftN n (mo1 m).sus := by rw [S.eL,e2]
 have hw2 : (mo2 m).wed = true := by rw [e2];exact hw
 have hw3 : (mo3 m).wed = true := by rw [S.wed3];exact hw2
 constructor
 ·have h1 : agreeR { m with rows := m.rows.set i (mo1 m) } i n = if (moL m).getD 0 0 ≠ i then adopt (m.rows.set i (mo1 m)) i (mo1 m) ((moL m).getD 0 0) else if n < 2 * (moL m).length then lead (m.rows.set i (mo1 m)) i (mo1 m) (moL m) else mo1 m := by
   unfold agreeR
   simp only [rowN_self hil]
   rw [← eL]
  rw [h1]
  by_cases c : (moL m).getD 0 0 = i
  ·have e4 : mo4 m = mo3 m := by rw [S.e4,if_neg (fun h => h.2 (hh.2 c))]
   rw [if_neg (fun h => h c),e4]
   by_cases c2 : n < 2 * (moL m).length
   ·rw [if_pos c2,S.e3,if_pos ⟨hw2,c2,hh.2 c⟩,e2]
   ·rw [if_neg c2,S.e3,if_neg (fun h => c2 h.2.1),e2]
  ·have e3 : mo3 m = mo1 m := by rw [S.e3,if_neg (fun h => c (hh.1 h.2.2)),e2]
   rw [if_pos c,S.e4,if_pos ⟨hw3,fun h => c (hh.1 h)⟩,hD,e3]
 ·unfold endM
  simp only [rowN_self hil]
  have eL4 : leftN n (mo4 m).sus = moL m := by rw [mo4_sus,S.eL]
  rw [eL4]
  have hE := S.eE
  by_cases c : n < 2 * (moL m).length ∧ ends (m.rows.set i (mo4 m)) i (mo4 m) (moL m) = true
  ·have hr := ends_at c.2 S.mem
   rw [rowN_self hil] at hr
   have h1 : moE m = true := by rw [hE,hr,decide_eq_true c.1,c.2];rfl
   rw [if_pos c,h1,if_pos rfl,eS]
  ·have h1 : moE m = false := by
    rw [hE]
    cases h2 : decide (n < 2 * (moL m).length) with
    | false => simp
    | true =>
     cases h3 : ends (m.rows.set i (mo4 m)) i (mo4 m) (moL m) with
     | false => simp
     | true => exact absurd ⟨of_decide_eq_true h2,h3⟩ c
   rw [if_neg c,h1,if_neg (by decide),eS,← hd]
theorem step_unw {m : Mb} {i n : Nat} (M : OkM m i n) (hd : m.done = false) (S : Stg m i n) (hw : (mo1 m).wed = false) :
  ({ mo1 m with got := gotUp (m.rows.set i (mo1 m)) (mo1 m) n } : Rw) = mo2 m ∧ ({ m with rows := m.rows.set i (mo2 m),sung := sing (m.rows.set i (mo2 m)) n (60 - m.sung.length) m.sung } : Mb) = { m with rows := m.rows.set i (mo4 m),sung := if moE m = true then songT (moS m) (mo4 m).trm else moS m,done := moE m } := by
 have hil : i < m.rows.length := by rw [M.len];exact M.lt
 obtain ⟨e2,ok2,eS⟩ := S.uw hw
 have hw2 : (mo2 m).wed = false := by rw [e2];exact hw
 have hw3 : (mo3 m).wed = false := by rw [S.wed3];exact hw2
 have e3 : mo3 m = mo2 m := by rw [S.e3,if_neg (by rw [hw2];simp)]
 have e4 : mo4 m = mo2 m := by rw [S.e4,if_neg (by rw [hw3];simp),e3]
 constructor
 ·rw [e2]
  have : gotUp (m.rows.set i (mo1 m)) (mo1 m) n = gotUp m.rows (mo1 m) n := by
   unfold gotUp
   refine List.map_congr_left (fun j _ => ?_)
   rw [rowN_set hil]
   split
   ·rename_i h
    subst h
    rw [S.e1,(learn_lrn _ _ _ _).txt]
   ·rfl
  rw [this]
 ·have h2 := S.ok2
  have hr2 : OkR (mo2 m) n := by
   have := h2.ok i M.lt
   simp only [rowN_self hil] at this
   exact this
  have hr : (mo4 m).rdy = false := by
   rw [e4]
   cases h : (mo2 m).rdy with
   | false => rfl
   | true => have := (hr2.rdy h).1;rw [hw2] at this;cases this
  have h1 : moE m = false := by rw [S.eE,hr];rfl
  rw [e4,h1,if_neg (by decide),eS,← hd]
set_option maxHeartbeats 1600000 in
theorem step_fin {m : Mb} {i n : Nat} (M : OkM m i n) (hd : m.done = false) (hv : (rowN m.rows i).ver < 1000000) (S : Stg m i n) :
  (sameRw (mo4 m) (rowN m.rows i) = true → ({ m with rows := m.rows.set i (mo4 m),sung := if moE m = true then songT (moS m) (mo4 m).trm else moS m,done := moE m } : Mb) = stepMb m) ∧ (sameRw (mo4 m) (rowN m.rows i) = false → ({ ({ m with rows := m.rows.set i (mo4 m),sung := if moE m = true then songT (moS m) (mo4 m).trm else moS m,done := moE m } : Mb) with rows := (m.rows.set i (mo4 m)).set i { mo4 m with ver := (mo4 m).ver + 1 } } : Mb) = stepMb m) := by
 have hs : stepMb m = { m with rows := m.rows.set i (mo5 m),sung := if moE m = true then songT (moS m) (mo4 m).trm else moS m,done := moE m } := by
  have hn : ¬ (m.done = true ∨ m.own.ver = 1000000) := by
   rintro (h | h)
   ·rw [hd] at h;cases h
   ·rw [M.own] at h;omega
  rw [stepMb,if_neg hn,M.i]
 constructor
 ·intro h
  have e5 : mo5 m = mo4 m := by rw [S.e5,if_pos (by rw [sameRw_comm];exact h)]
  rw [hs,e5]
 ·intro h
  have e5 : mo5 m = { mo4 m with ver := (mo4 m).ver + 1 } := by rw [S.e5,if_neg (by rw [sameRw_comm,h];decide)]
  rw [hs,e5,List.set_set]
set_option maxRecDepth 100000 in
set_option maxHeartbeats 3200000 in
theorem stp_any (B : Nat) (m : Mb) (i n : Nat) (fp : Fp) (w : World) (h : Plc w B 0 (mb4 m) fp) (ok : OkM m i n) (hd : m.done = false) (hver : (rowN m.rows i).ver < 1000000) :
  Calls Tryz.prog 40 #[.pointer (some ⟨B,0,none⟩)] w fun e w' => e = .returned (.tuple #[]) ∧ Bcm w w' B 0 (mb4 (stepMb m)) fp := by
 have hmix := mixed17
 have hil : i < m.rows.length := by rw [ok.len];exact ok.lt
 have hn5 := ok.n5
 have S := step_stg ok hd
 obtain ⟨HFt0,HFf0⟩ := step_fin ok hd hver S
 have hokr := ok.ok i ok.lt
 have ho64 := okR_64 hokr
 obtain ⟨g,off,c,M0⟩ := Iw.start h (by omega)
 obtain ⟨c0,_⟩ := M0.id'
 have c1 := M0.rws
 rw [ok.hid] at c0
 have hOw0 := own_any B i m.rows.length g off c w c0 c1 hil
 have HM0 : Hid (Iw w w B m fp g off c) := M0
 clear c0 c1 M0 h
 go_enter Tryz.func40,Tryz.ntmps40
 go_wp2_with fail
 refine hOw0.mono ?_
 rintro e wA ⟨rfl,hbA⟩
 obtain ⟨Ai,⟨⟨d0,d1,d2,d3⟩,d4,d5,d6,d7⟩,hri⟩ := (HM0.out.step hbA).rowP hil (ok.fit.1 _ (rowN_mem hil)) ho64.1 (by omega)
 have hAn := anw_any Ai (rowN m.rows i) wA hri (by rw [hokr.gl];omega) ho64.2
 unfold rwV rwC at hAn
 have HbA : Hid (Below w.heap.size w wA) := hbA
 clear hri hOw0 hbA
 go_wp2_with fail
 refine hAn.mono ?_
 rintro e wB ⟨Ar,rfl,fr,hr1,hr2,hr3⟩
 have hba := oneA16 wB (.cells #[.int .i64 (rowN m.rows i).ver,.slice Ar.ta (rowN m.rows i).txt.length Ar.tc,.slice Ar.ga (rowN m.rows i).got.length Ar.gc,.slice Ar.sa (rowN m.rows i).sus.length Ar.sc,.bool (rowN m.rows i).wed,.bool (rowN m.rows i).rdy,.int .i64 (rowN m.rows i).by_,.slice Ar.ma (rowN m.rows i).trm.length Ar.mc] 37)
 have hxw := Bx.new wB 37 #[.int .i64 (rowN m.rows i).ver,.slice Ar.ta (rowN m.rows i).txt.length Ar.tc,.slice Ar.ga (rowN m.rows i).got.length Ar.gc,.slice Ar.sa (rowN m.rows i).sus.length Ar.sc,.bool (rowN m.rows i).wed,.bool (rowN m.rows i).rdy,.int .i64 (rowN m.rows i).by_,.slice Ar.ma (rowN m.rows i).trm.length Ar.mc]
 have hbw1 : Below w.heap.size w (wB.alloc (.cells #[.int .i64 (rowN m.rows i).ver,.slice Ar.ta (rowN m.rows i).txt.length Ar.tc,.slice Ar.ga (rowN m.rows i).got.length Ar.gc,.slice Ar.sa (rowN m.rows i).sus.length Ar.sc,.bool (rowN m.rows i).wed,.bool (rowN m.rows i).rdy,.int .i64 (rowN m.rows i).by_,.slice Ar.ma (rowN m.rows i).trm.length Ar.mc] 37)) := by
  have h1 := HbA.out.trans (hr3.mono HbA.out.size)
  exact h1.trans (hba.mono h1.size)
 have hr1' := owL_below hr1 hba
 unfold rwV rwC
 clear hAn d0 d1 d2 d3 d4 d5 d6 d7
 go_upto_region 1 with fail
 have hsz := hr3.size
 have hszA := HbA.out.size
 generalize hb0 : wB.heap.size = b0 at *
 generalize wB.alloc (.cells #[.int .i64 (rowN m.rows i).ver,.slice Ar.ta (rowN m.rows i).txt.length Ar.tc,.slice Ar.ga (rowN m.rows i).got.length Ar.gc,.slice Ar.sa (rowN m.rows i).sus.length Ar.sc,.bool (rowN m.rows i).wed,.bool (rowN m.rows i).rdy,.int .i64 (rowN m.rows i).by_,.slice Ar.ma (rowN m.rows i).trm.length Ar.mc] 37) = W1 at *
 obtain ⟨fp5,f1,f2,_,M5,f4⟩ := HM0.out.sub hbw1
 have HF4 : Hid (∀ (Y : World) (m' : Mb),Iw W1 Y B m' fp5 g off c → Bcm w Y B 0 (mb4 m') fp) := fun Y m' hY => (f4 Y m' hY).bcm
 have HB0 : Hid (¬ fp5 b0 ∧ b0 ≠ B) := ⟨fun k => by have := f1 _ k;omega,by omega⟩
 have HBx : Hid (Bx W1 b0 37 #[.int .i64 (rowN m.rows i).ver,.slice Ar.ta (rowN m.rows i).txt.length Ar.tc,.slice Ar.ga (rowN m.rows i).got.length Ar.gc,.slice Ar.sa (rowN m.rows i).sus.length Ar.sc,.bool (rowN m.rows i).wed,.bool (rowN m.rows i).rdy,.int .i64 (rowN m.rows i).by_,.slice Ar.ma (rowN m.rows i).trm.length Ar.mc]) := hxw
 have HM1 : Hid (Iw W1 W1 B m fp5 g off c) := M5
 have HRP : Hid (∀ (Y : World) (m' : Mb),Iw W1 Y B m' fp5 g off c → RwP Y Ar (rowN m.rows i)) := fun Y m' hY => by
  have hl := owL_wrt hr1' hY.bcm.wrt (fun b hb k => by
   have h1 := hr2 b hb
   rcases k with k | k
   ·have := f1 b k;omega
   ·omega)
  exact it_rwp (lo := 0) (hi := Y.heap.size) ⟨fr,hl,fun b hb => ⟨Nat.zero_le _,owL_lt hl b hb⟩⟩ (ok.fit.1 _ (rowN_mem hil)) ho64.1 (by omega)
 have hTd := tkd_any W1 B m i n fp5 g off c W1 HM1.out ok
 rw [← S.e1] at hTd
 clear hxw M5 f4 hr1 hr1' hr2 hr3 hba hbw1 f1 f2 hsz hszA HM0 HbA
 go_wp2_with fail
 refine hTd.mono ?_
 rintro e W2 ⟨rfl,hM2⟩
 have HM2 : Hid (Iw W1 W2 B { m with rows := m.rows.set i (mo1 m) } fp5 g off c) := hM2
 clear hTd HM1
 obtain ⟨c0,_⟩ := hM2.id'
 have c1 := hM2.rws
 simp only [List.length_set] at c0 c1
 rw [ok.hid] at c0
 have hOw1 := own_any B i m.rows.length g off c W2 c0 c1 hil
 clear c0 c1 hM2
 go_wp2_with fail
 refine hOw1.mono ?_
 rintro e W3 ⟨rfl,hb3⟩
 have HM3 : Hid (Iw W1 W3 B { m with rows := m.rows.set i (mo1 m) } fp5 g off c) := HM2.out.step hb3
 have hil1 : i < (m.rows.set i (mo1 m)).length := by rw [List.length_set];exact hil
 obtain ⟨A1,⟨⟨_,_,_,_⟩,d4,_,_,_⟩,_⟩ := HM3.out.row (k := i) S.ok1.fit hil1
 simp only [rowN_self hil] at d4
 have HId : Hid (m.id = (i : Int)) := ok.hid
 have HIn : Hid (i < n) := ok.lt
 have HVer : Hid ((mo4 m).ver = (rowN m.rows i).ver) := S.ver
 have HTxt : Hid ((mo4 m).txt = (rowN m.rows i).txt) := by rw [Hid,mo4_txt,ok.own]
 have HVb : Hid (0 ≤ (mo4 m).ver ∧ (mo4 m).ver < 1000000) := by rw [Hid,S.ver];exact ⟨hokr.ver.1,hver⟩
 have hok4 : OkR (mo4 m) n := by
  have := S.ok4.ok i ok.lt
  simp only [rowN_self hil] at this
  exact this
 have HFo : Hid (FitR (mo4 m)) := by
  have := S.ok4.fit.1 (mo4 m) (by
   have := rowN_mem (R := m.rows.set i (mo4 m)) (j := i) (by rw [List.length_set];exact hil)
   rw [rowN_self hil] at this
   exact this)
  exact this
 have HSz : Hid (Rw64 (mo4 m) ∧ szRw (mo4 m) ≤ 1048576) := ⟨(okR_64 hok4).1,by have := (okR_64 hok4).2;omega⟩
 have HLn : Hid (({ m with rows := m.rows.set i (mo4 m),sung := if moE m = true then songT (moS m) (mo4 m).trm else moS m,done := moE m } : Mb).rows.length = n) := by rw [Hid];simp only [List.length_set];exact ok.len
 have HRow : Hid (rowN ({ m with rows := m.rows.set i (mo4 m),sung := if moE m = true then songT (moS m) (mo4 m).trm else moS m,done := moE m } : Mb).rows i = mo4 m) := by rw [Hid];exact rowN_self hil
 have HIdF : Hid (({ m with rows := m.rows.set i (mo4 m),sung := if moE m = true then songT (moS m) (mo4 m).trm else moS m,done := moE m } : Mb).id = (i : Int)) := ok.hid
 have HFt : Hid (sameRw (mo4 m) (rowN m.rows i) = true → ({ m with rows := m.rows.set i (mo4 m),sung := if moE m = true then songT (moS m) (mo4 m).trm else moS m,done := moE m } : Mb) = stepMb m) := HFt0
 have HFf : Hid (sameRw (mo4 m) (rowN m.rows i) = false → ({ ({ m with rows := m.rows.set i (mo4 m),sung := if moE m = true then songT (moS m) (mo4 m).trm else moS m,done := moE m } : Mb) with rows := (m.rows.set i (mo4 m)).set i { mo4 m with ver := (mo4 m).ver + 1 } } : Mb) = stepMb m) := HFf0
 clear hOw1 hb3 HM2 HFt0 HFf0 hok4 hb0
 cases hwd : (mo1 m).wed with
 | true =>
  rw [hwd] at d4
  obtain ⟨eA,eE⟩ := step_wed ok hd S hwd
  have hAg := agr_any W1 B { m with rows := m.rows.set i (mo1 m) } i n fp5 g off c W3 HM3.out S.ok1
  rw [eA] at hAg
  simp only [List.set_set] at hAg
  have hEn : ∀ Y,Iw W1 Y B { m with rows := m.rows.set i (mo4 m) } fp5 g off c → Calls Tryz.prog 86 #[.pointer (some ⟨B,0,none⟩)] Y fun e w' => e = .returned (.tuple #[]) ∧ Iw W1 w' B { m with rows := m.rows.set i (mo4 m),sung := if moE m = true then songT (moS m) (mo4 m).trm else moS m,done := moE m } fp5 g off c := fun Y hY => by
   have h4 : OkM { m with rows := m.rows.set i (mo4 m) } i n := by
    have := S.ok4
    rw [(S.wd hwd).2] at this
    exact this
   have := enp_any W1 B { m with rows := m.rows.set i (mo4 m) } i n fp5 g off c Y hY h4 hd
   rw [eE] at this
   exact this
  have HEn : Hid (∀ Y,Iw W1 Y B { m with rows := m.rows.set i (mo4 m) } fp5 g off c → Calls Tryz.prog 86 #[.pointer (some ⟨B,0,none⟩)] Y fun e w' => e = .returned (.tuple #[]) ∧ Iw W1 w' B { m with rows := m.rows.set i (mo4 m),sung := if moE m = true then songT (moS m) (mo4 m).trm else moS m,done := moE m } fp5 g off c) := hEn
  clear eA eE hwd S hEn
  generalize hmF : ({ m with rows := m.rows.set i (mo4 m),sung := if moE m = true then songT (moS m) (mo4 m).trm else moS m,done := moE m } : Mb) = mF at *
  have HmR : Hid (mF.rows = m.rows.set i (mo4 m)) := by rw [Hid,← hmF]
  rw [← HmR.out] at HFf
  clear hmF
  generalize hmo : mo4 m = ow at *
  generalize rowN m.rows i = o at *
  go_wp2_with fail
  refine hAg.mono ?_
  rintro e W4 ⟨rfl,hM4⟩
  have hE4 := HEn.out W4 hM4
  clear hAg d4 hM4 HEn
  go_wp2_with fail
  refine hE4.mono ?_
  rintro e Y ⟨rfl,hMF⟩
  have HMF : Hid (Iw W1 Y B mF fp5 g off c) := hMF
  clear hE4 hMF HM3 hmo
  go_upto_region 7 with fail
  have HXw : Hid (Bx Y b0 37 #[.int .i64 o.ver,.slice Ar.ta o.txt.length Ar.tc,.slice Ar.ga o.got.length Ar.gc,.slice Ar.sa o.sus.length Ar.sc,.bool o.wed,.bool o.rdy,.int .i64 o.by_,.slice Ar.ma o.trm.length Ar.mc]) := HMF.out.bx HBx.out HB0.out.1 HB0.out.2
  have HRw : Hid (RwP Y Ar o) := HRP.out Y mF HMF.out
  obtain ⟨c0,_⟩ := HMF.out.id'
  have c1 := HMF.out.rws
  rw [HIdF.out] at c0
  rw [HLn.out] at c1
  have HIw : Hid (∃ Ak : Ra,C8 Y g (off + i * 8) (.int .i64 ow.ver) (.slice Ak.ta ow.txt.length Ak.tc) (.slice Ak.ga ow.got.length Ak.gc) (.slice Ak.sa ow.sus.length Ak.sc) (.bool ow.wed) (.bool ow.rdy) (.int .i64 ow.by_) (.slice Ak.ma ow.trm.length Ak.mc) ∧ RwP Y Ak ow) := by
   have := HMF.out.rowP (k := i) (by rw [HLn.out];exact HIn.out) (by rw [HRow.out];exact HFo.out) (by rw [HRow.out];exact HSz.out.1) (by rw [HRow.out];exact HSz.out.2)
   rw [HRow.out] at this
   exact this
  have HOw : Hid (∀ Z,Below Y.heap.size Y Z → Calls Tryz.prog 82 #[.pointer (some ⟨B,0,none⟩)] Z fun e w' => e = .returned (.pointer (some ⟨g,off + i * 8,none⟩)) ∧ Below Z.heap.size Z w') := fun Z hZ => own_any B i n g off c Z ((hZ.cell (World.block_lt_of_cell? _ _ c0)).trans c0) ((hZ.cell (World.block_lt_of_cell? _ _ c1)).trans c1) HIn.out
  have hbd : Below Y.heap.size Y Y.drew := (Same.drewN Y 1).below
  have KS : ∀ Z,Below Y.heap.size Y Z → Z.cell? ⟨b0,0,none⟩ = some (.int .i64 o.ver) ∧ Z.cell? ⟨b0,1,none⟩ = some (.slice Ar.ta o.txt.length Ar.tc) ∧ Z.cell? ⟨b0,2,none⟩ = some (.slice Ar.ga o.got.length Ar.gc) ∧ Z.cell? ⟨b0,3,none⟩ = some (.slice Ar.sa o.sus.length Ar.sc) ∧ Z.cell? ⟨b0,4,none⟩ = some (.bool o.wed) ∧ Z.cell? ⟨b0,5,none⟩ = some (.bool o.rdy) ∧ Z.cell? ⟨b0,6,none⟩ = some (.int .i64 o.by_) ∧ Z.cell? ⟨b0,7,none⟩ = some (.slice Ar.ma o.trm.length Ar.mc) := fun Z hZ => by
   obtain ⟨⟨x0,x1,x2,x3⟩,x4,x5,x6,x7⟩ := Bx.r8 (HXw.out.below hZ)
   exact ⟨x0,x1,x2,x3,x4,x5,x6,x7⟩
  clear c0 c1
  refine gt_begin (S := fun Z : World => Z.cell? ⟨b0,0,none⟩ = some (.int .i64 o.ver) ∧ Z.cell? ⟨b0,1,none⟩ = some (.slice Ar.ta o.txt.length Ar.tc) ∧ Z.cell? ⟨b0,2,none⟩ = some (.slice Ar.ga o.got.length Ar.gc) ∧ Z.cell? ⟨b0,3,none⟩ = some (.slice Ar.sa o.sus.length Ar.sc) ∧ Z.cell? ⟨b0,4,none⟩ = some (.bool o.wed) ∧ Z.cell? ⟨b0,5,none⟩ = some (.bool o.rdy) ∧ Z.cell? ⟨b0,6,none⟩ = some (.int .i64 o.by_) ∧ Z.cell? ⟨b0,7,none⟩ = some (.slice Ar.ma o.trm.length Ar.mc)) 9 hmix (by kernel_rfl) ?_
  have hHeld : (fun Z : World => Z.cell? ⟨b0,0,none⟩ = some (.int .i64 o.ver) ∧ Z.cell? ⟨b0,1,none⟩ = some (.slice Ar.ta o.txt.length Ar.tc) ∧ Z.cell? ⟨b0,2,none⟩ = some (.slice Ar.ga o.got.length Ar.gc) ∧ Z.cell? ⟨b0,3,none⟩ = some (.slice Ar.sa o.sus.length Ar.sc) ∧ Z.cell? ⟨b0,4,none⟩ = some (.bool o.wed) ∧ Z.cell? ⟨b0,5,none⟩ = some (.bool o.rdy) ∧ Z.cell? ⟨b0,6,none⟩ = some (.int .i64 o.by_) ∧ Z.cell? ⟨b0,7,none⟩ = some (.slice Ar.ma o.trm.length Ar.mc)) Y.drew := (KS _ hbd)
  refine gt_pure (i := 0) (v := ?_) rfl (by kernel_rfl) (by kernel_rfl) (by kernel_rfl) (fun _ _ _ h => h) (Or.inl ⟨by rfl, ?_⟩) ?_
  rotate_left
  ·(intro X;go_simp;try with_reducible rfl)
  try simp only [Act.put,List.setIfInBounds_toArray,List.set_cons_zero,List.set_cons_succ]
  refine gt_pure (i := 1) (v := ?_) rfl (by kernel_rfl) (by kernel_rfl) (by kernel_rfl) (fun _ _ _ h => h) (Or.inl ⟨by rfl, ?_⟩) ?_
  rotate_left
  ·(intro X;go_simp;try with_reducible rfl)
  try simp only [Act.put,List.setIfInBounds_toArray,List.set_cons_zero,List.set_cons_succ]
  refine gt_pure (i := 2) (v := ?_) rfl (by kernel_rfl) (by kernel_rfl) (by kernel_rfl) (fun _ _ _ h => h) (Or.inl ⟨by rfl, ?_⟩) ?_
  rotate_left
  ·(intro X;go_simp;try with_reducible rfl)
  try simp only [Act.put,List.setIfInBounds_toArray,List.set_cons_zero,List.set_cons_succ]
  refine gt_takeA (i := 6) (v := ?_) rfl (by kernel_rfl) (by kernel_rfl) (by kernel_rfl) (by kernel_rfl) (fun _ _ _ h => h) (Or.inl ⟨by rfl, ?_⟩) hHeld ?_
  rotate_left
  ·(intro X hSX;(try dsimp only at hSX);obtain ⟨g0,g1,g2,g3,g4,g5,g6,g7⟩ := hSX;go_simp;try with_reducible rfl)
  try simp only [Act.put,List.setIfInBounds_toArray,List.set_cons_zero,List.set_cons_succ]
  refine gt_one (i := 3) rfl (by kernel_rfl) (by kernel_rfl) (fun K hK => ?_)
  go_simp
  go_at_call 82
  refine (HOw.out _ hbd).mono ?_
  rintro e Y1 ⟨rfl,hb1⟩
  have hbY1 : Below Y.heap.size Y Y1 := hbd.trans (hb1.mono hbd.size)
  refine hK.out _ _ (KS _ hbY1) (fun hHeldN => ?_)
  clear hK hHeld
  have hHeld := hHeldN
  try simp only [Act.put,List.setIfInBounds_toArray,List.set_cons_zero,List.set_cons_succ]
  refine gt_pure (i := 4) (v := ?_) rfl (by kernel_rfl) (by kernel_rfl) (by kernel_rfl) (fun _ _ _ h => h) (Or.inl ⟨by rfl, ?_⟩) ?_
  rotate_left
  ·(intro X;go_simp;try with_reducible rfl)
  try simp only [Act.put,List.setIfInBounds_toArray,List.set_cons_zero,List.set_cons_succ]
  obtain ⟨Af,⟨⟨d0,d1,d2,d3⟩,d4,d5,d6,d7⟩,hrf⟩ := HIw.out
  have tt : ∀ {x v},Y.cell? x = some v → Y1.cell? x = some v := fun h => (hbY1.cell (World.block_lt_of_cell? _ _ h)).trans h
  replace d0 := tt d0
  replace d1 := tt d1
  replace d2 := tt d2
  replace d3 := tt d3
  replace d4 := tt d4
  replace d5 := tt d5
  replace d6 := tt d6
  replace d7 := tt d7
  have hAl := alk_any Af Ar ow o Y1 (hrf.below hbY1) (HRw.out.below hbY1) HVer.out HTxt.out
  unfold rwV rwC at hAl
  clear tt hrf
  refine gt_one (i := 5) rfl (by kernel_rfl) (by kernel_rfl) (fun K hK => ?_)
  go_simp
  refine hK.out _ _ (KS _ hbY1) (fun hHeldN => ?_)
  clear hK hHeld
  have hHeld := hHeldN
  try simp only [Act.put,List.setIfInBounds_toArray,List.set_cons_zero,List.set_cons_succ]
  refine gt_one (i := 7) rfl (by kernel_rfl) (by kernel_rfl) (fun K hK => ?_)
  go_simp
  go_at_call 89
  refine hAl.mono ?_
  rintro e Y2 ⟨rfl,hb2⟩
  have hbY2 : Below Y.heap.size Y Y2 := hbY1.trans (hb2.mono hbY1.size)
  refine hK.out _ _ (KS _ hbY2) (fun hHeldN => ?_)
  clear hK hHeld
  have hHeld := hHeldN
  try simp only [Act.put,List.setIfInBounds_toArray,List.set_cons_zero,List.set_cons_succ]
  refine gt_one (i := 8) rfl (by kernel_rfl) (by kernel_rfl) (fun K hK => ?_)
  go_simp
  refine hK.out _ _ (KS _ hbY2) (fun hHeldN => ?_)
  clear hK hHeld
  have hHeld := hHeldN
  try simp only [Act.put,List.setIfInBounds_toArray,List.set_cons_zero,List.set_cons_succ]
  refine gt_end (by kernel_rfl) ?_
  have HM2 : Hid (Iw W1 Y2 B mF fp5 g off c) := HMF.out.step hbY2
  have HOw2 : Hid (∀ Z,Below Y2.heap.size Y2 Z → Calls Tryz.prog 82 #[.pointer (some ⟨B,0,none⟩)] Z fun e w' => e = .returned (.pointer (some ⟨g,off + i * 8,none⟩)) ∧ Below Z.heap.size Z w') := fun Z hZ => HOw.out Z (hbY2.trans (hZ.mono hbY2.size))
  clear hHeld d0 d1 d2 d3 d4 d5 d6 d7 hAl hb1 hb2 hbY1 hbY2 hbd KS HOw HXw HRw HIw HMF
  cases hsm : sameRw ow o with
  | true =>
   have HF : Hid (mF = stepMb m) := HFt.out hsm
   clear hsm HFt HFf HOw2
   go_wp2
   first | go_end0 | go_ret
   exact ⟨rfl,by rw [← HF.out];exact HF4.out _ _ HM2.out⟩
  | false =>
   have HF : Hid (({ mF with rows := mF.rows.set i { ow with ver := ow.ver + 1 } } : Mb) = stepMb m) := HFf.out hsm
   have hO2 := HOw2.out Y2 (Below.refl _ _)
   clear hsm HFt HFf HOw2
   go_wp2_with fail
   refine hO2.mono ?_
   rintro e Y3 ⟨rfl,hb3⟩
   obtain ⟨v1,v2,hM5⟩ := (HM2.out.step hb3).put (k := i) (by rw [HLn.out];exact HIn.out) (j := 0) (x := .int .i64 ow.ver) (y := .int .i64 (ow.ver + 1)) (r' := { ow with ver := ow.ver + 1 }) (by rw [HRow.out];rfl) (by rw [HRow.out];rfl)
   simp only [Nat.add_zero] at v1 v2 hM5
   rw [HF.out] at hM5
   have HM5 : Hid (Iw W1 (Y3.setCell ⟨g,off + i * 8,none⟩ (.int .i64 (ow.ver + 1))) B (stepMb m) fp5 g off c) := hM5
   have hnv := nvT_any g (off + i * 8) ow.ver Y3 v1 v2 HVb.out.1 HVb.out.2
   clear hM5 hO2 hb3 v1 v2
   go_wp2_with fail
   refine hnv.mono ?_
   rintro e w' ⟨rfl,hw'⟩
   rw [hw']
   clear hw' hnv
   go_wp2
   first | go_end0 | go_ret
   exact ⟨rfl,HF4.out _ _ HM5.out⟩
 | false =>
  rw [hwd] at d4
  obtain ⟨eA,eE⟩ := step_unw ok hd S hwd
  have hTc := tkc_any W1 B { m with rows := m.rows.set i (mo1 m) } i n fp5 g off c W3 HM3.out S.ok1.okw
  simp only [rowN_self hil,List.set_set] at hTc
  rw [eA] at hTc
  have HSn : Hid (∀ Y,Iw W1 Y B { m with rows := m.rows.set i (mo2 m) } fp5 g off c → Calls Tryz.prog 88 #[.pointer (some ⟨B,0,none⟩)] Y fun e w' => e = .returned (.tuple #[]) ∧ Iw W1 w' B { m with rows := m.rows.set i (mo4 m),sung := if moE m = true then songT (moS m) (mo4 m).trm else moS m,done := moE m } fp5 g off c) := fun Y hY => by
   have := sng_any W1 B { m with rows := m.rows.set i (mo2 m) } i n fp5 g off c Y hY (S.uw hwd).2.1.okw ok.sl
   simp only at this
   rw [eE] at this
   exact this
  clear eA eE hwd S
  generalize hmF : ({ m with rows := m.rows.set i (mo4 m),sung := if moE m = true then songT (moS m) (mo4 m).trm else moS m,done := moE m } : Mb) = mF at *
  have HmR : Hid (mF.rows = m.rows.set i (mo4 m)) := by rw [Hid,← hmF]
  rw [← HmR.out] at HFf
  clear hmF
  generalize hmo : mo4 m = ow at *
  generalize rowN m.rows i = o at *
  go_wp2_with fail
  refine hTc.mono ?_
  rintro e W4 ⟨rfl,hM4⟩
  have hE4 := HSn.out W4 hM4
  clear hTc d4 hM4 HSn
  go_wp2_with fail
  refine hE4.mono ?_
  rintro e Y ⟨rfl,hMF⟩
  have HMF : Hid (Iw W1 Y B mF fp5 g off c) := hMF
  clear hE4 hMF HM3 hmo
  go_upto_region 7 with fail
  have HXw : Hid (Bx Y b0 37 #[.int .i64 o.ver,.slice Ar.ta o.txt.length Ar.tc,.slice Ar.ga o.got.length Ar.gc,.slice Ar.sa o.sus.length Ar.sc,.bool o.wed,.bool o.rdy,.int .i64 o.by_,.slice Ar.ma o.trm.length Ar.mc]) := HMF.out.bx HBx.out HB0.out.1 HB0.out.2
  have HRw : Hid (RwP Y Ar o) := HRP.out Y mF HMF.out
  obtain ⟨c0,_⟩ := HMF.out.id'
  have c1 := HMF.out.rws
  rw [HIdF.out] at c0
  rw [HLn.out] at c1
  have HIw : Hid (∃ Ak : Ra,C8 Y g (off + i * 8) (.int .i64 ow.ver) (.slice Ak.ta ow.txt.length Ak.tc) (.slice Ak.ga ow.got.length Ak.gc) (.slice Ak.sa ow.sus.length Ak.sc) (.bool ow.wed) (.bool ow.rdy) (.int .i64 ow.by_) (.slice Ak.ma ow.trm.length Ak.mc) ∧ RwP Y Ak ow) := by
   have := HMF.out.rowP (k := i) (by rw [HLn.out];exact HIn.out) (by rw [HRow.out];exact HFo.out) (by rw [HRow.out];exact HSz.out.1) (by rw [HRow.out];exact HSz.out.2)
   rw [HRow.out] at this
   exact this
  have HOw : Hid (∀ Z,Below Y.heap.size Y Z → Calls Tryz.prog 82 #[.pointer (some ⟨B,0,none⟩)] Z fun e w' => e = .returned (.pointer (some ⟨g,off + i * 8,none⟩)) ∧ Below Z.heap.size Z w') := fun Z hZ => own_any B i n g off c Z ((hZ.cell (World.block_lt_of_cell? _ _ c0)).trans c0) ((hZ.cell (World.block_lt_of_cell? _ _ c1)).trans c1) HIn.out
  have hbd : Below Y.heap.size Y Y.drew := (Same.drewN Y 1).below
  have KS : ∀ Z,Below Y.heap.size Y Z → Z.cell? ⟨b0,0,none⟩ = some (.int .i64 o.ver) ∧ Z.cell? ⟨b0,1,none⟩ = some (.slice Ar.ta o.txt.length Ar.tc) ∧ Z.cell? ⟨b0,2,none⟩ = some (.slice Ar.ga o.got.length Ar.gc) ∧ Z.cell? ⟨b0,3,none⟩ = some (.slice Ar.sa o.sus.length Ar.sc) ∧ Z.cell? ⟨b0,4,none⟩ = some (.bool o.wed) ∧ Z.cell? ⟨b0,5,none⟩ = some (.bool o.rdy) ∧ Z.cell? ⟨b0,6,none⟩ = some (.int .i64 o.by_) ∧ Z.cell? ⟨b0,7,none⟩ = some (.slice Ar.ma o.trm.length Ar.mc) := fun Z hZ => by
   obtain ⟨⟨x0,x1,x2,x3⟩,x4,x5,x6,x7⟩ := Bx.r8 (HXw.out.below hZ)
   exact ⟨x0,x1,x2,x3,x4,x5,x6,x7⟩
  clear c0 c1
  refine gt_begin (S := fun Z : World => Z.cell? ⟨b0,0,none⟩ = some (.int .i64 o.ver) ∧ Z.cell? ⟨b0,1,none⟩ = some (.slice Ar.ta o.txt.length Ar.tc) ∧ Z.cell? ⟨b0,2,none⟩ = some (.slice Ar.ga o.got.length Ar.gc) ∧ Z.cell? ⟨b0,3,none⟩ = some (.slice Ar.sa o.sus.length Ar.sc) ∧ Z.cell? ⟨b0,4,none⟩ = some (.bool o.wed) ∧ Z.cell? ⟨b0,5,none⟩ = some (.bool o.rdy) ∧ Z.cell? ⟨b0,6,none⟩ = some (.int .i64 o.by_) ∧ Z.cell? ⟨b0,7,none⟩ = some (.slice Ar.ma o.trm.length Ar.mc)) 9 hmix (by kernel_rfl) ?_
  have hHeld : (fun Z : World => Z.cell? ⟨b0,0,none⟩ = some (.int .i64 o.ver) ∧ Z.cell? ⟨b0,1,none⟩ = some (.slice Ar.ta o.txt.length Ar.tc) ∧ Z.cell? ⟨b0,2,none⟩ = some (.slice Ar.ga o.got.length Ar.gc) ∧ Z.cell? ⟨b0,3,none⟩ = some (.slice Ar.sa o.sus.length Ar.sc) ∧ Z.cell? ⟨b0,4,none⟩ = some (.bool o.wed) ∧ Z.cell? ⟨b0,5,none⟩ = some (.bool o.rdy) ∧ Z.cell? ⟨b0,6,none⟩ = some (.int .i64 o.by_) ∧ Z.cell? ⟨b0,7,none⟩ = some (.slice Ar.ma o.trm.length Ar.mc)) Y.drew := (KS _ hbd)
  refine gt_pure (i := 0) (v := ?_) rfl (by kernel_rfl) (by kernel_rfl) (by kernel_rfl) (fun _ _ _ h => h) (Or.inl ⟨by rfl, ?_⟩) ?_
  rotate_left
  ·(intro X;go_simp;try with_reducible rfl)
  try simp only [Act.put,List.setIfInBounds_toArray,List.set_cons_zero,List.set_cons_succ]
  refine gt_pure (i := 1) (v := ?_) rfl (by kernel_rfl) (by kernel_rfl) (by kernel_rfl) (fun _ _ _ h => h) (Or.inl ⟨by rfl, ?_⟩) ?_
  rotate_left
  ·(intro X;go_simp;try with_reducible rfl)
  try simp only [Act.put,List.setIfInBounds_toArray,List.set_cons_zero,List.set_cons_succ]
  refine gt_pure (i := 2) (v := ?_) rfl (by kernel_rfl) (by kernel_rfl) (by kernel_rfl) (fun _ _ _ h => h) (Or.inl ⟨by rfl, ?_⟩) ?_
  rotate_left
  ·(intro X;go_simp;try with_reducible rfl)
  try simp only [Act.put,List.setIfInBounds_toArray,List.set_cons_zero,List.set_cons_succ]
  refine gt_takeA (i := 6) (v := ?_) rfl (by kernel_rfl) (by kernel_rfl) (by kernel_rfl) (by kernel_rfl) (fun _ _ _ h => h) (Or.inl ⟨by rfl, ?_⟩) hHeld ?_
  rotate_left
  ·(intro X hSX;(try dsimp only at hSX);obtain ⟨g0,g1,g2,g3,g4,g5,g6,g7⟩ := hSX;go_simp;try with_reducible rfl)
  try simp only [Act.put,List.setIfInBounds_toArray,List.set_cons_zero,List.set_cons_succ]
  refine gt_one (i := 3) rfl (by kernel_rfl) (by kernel_rfl) (fun K hK => ?_)
  go_simp
  go_at_call 82
  refine (HOw.out _ hbd).mono ?_
  rintro e Y1 ⟨rfl,hb1⟩
  have hbY1 : Below Y.heap.size Y Y1 := hbd.trans (hb1.mono hbd.size)
  refine hK.out _ _ (KS _ hbY1) (fun hHeldN => ?_)
  clear hK hHeld
  have hHeld := hHeldN
  try simp only [Act.put,List.setIfInBounds_toArray,List.set_cons_zero,List.set_cons_succ]
  refine gt_pure (i := 4) (v := ?_) rfl (by kernel_rfl) (by kernel_rfl) (by kernel_rfl) (fun _ _ _ h => h) (Or.inl ⟨by rfl, ?_⟩) ?_
  rotate_left
  ·(intro X;go_simp;try with_reducible rfl)
  try simp only [Act.put,List.setIfInBounds_toArray,List.set_cons_zero,List.set_cons_succ]
  obtain ⟨Af,⟨⟨d0,d1,d2,d3⟩,d4,d5,d6,d7⟩,hrf⟩ := HIw.out
  have tt : ∀ {x v},Y.cell? x = some v → Y1.cell? x = some v := fun h => (hbY1.cell (World.block_lt_of_cell? _ _ h)).trans h
  replace d0 := tt d0
  replace d1 := tt d1
  replace d2 := tt d2
  replace d3 := tt d3
  replace d4 := tt d4
  replace d5 := tt d5
  replace d6 := tt d6
  replace d7 := tt d7
  have hAl := alk_any Af Ar ow o Y1 (hrf.below hbY1) (HRw.out.below hbY1) HVer.out HTxt.out
  unfold rwV rwC at hAl
  clear tt hrf
  refine gt_one (i := 5) rfl (by kernel_rfl) (by kernel_rfl) (fun K hK => ?_)
  go_simp
  refine hK.out _ _ (KS _ hbY1) (fun hHeldN => ?_)
  clear hK hHeld
  have hHeld := hHeldN
  try simp only [Act.put,List.setIfInBounds_toArray,List.set_cons_zero,List.set_cons_succ]
  refine gt_one (i := 7) rfl (by kernel_rfl) (by kernel_rfl) (fun K hK => ?_)
  go_simp
  go_at_call 89
  refine hAl.mono ?_
  rintro e Y2 ⟨rfl,hb2⟩
  have hbY2 : Below Y.heap.size Y Y2 := hbY1.trans (hb2.mono hbY1.size)
  refine hK.out _ _ (KS _ hbY2) (fun hHeldN => ?_)
  clear hK hHeld
  have hHeld := hHeldN
  try simp only [Act.put,List.setIfInBounds_toArray,List.set_cons_zero,List.set_cons_succ]
  refine gt_one (i := 8) rfl (by kernel_rfl) (by kernel_rfl) (fun K hK => ?_)
  go_simp
  refine hK.out _ _ (KS _ hbY2) (fun hHeldN => ?_)
  clear hK hHeld
  have hHeld := hHeldN
  try simp only [Act.put,List.setIfInBounds_toArray,List.set_cons_zero,List.set_cons_succ]
  refine gt_end (by kernel_rfl) ?_
  have HM2 : Hid (Iw W1 Y2 B mF fp5 g off c) := HMF.out.step hbY2
  have HOw2 : Hid (∀ Z,Below Y2.heap.size Y2 Z → Calls Tryz.prog 82 #[.pointer (some ⟨B,0,none⟩)] Z fun e w' => e = .returned (.pointer (some ⟨g,off + i * 8,none⟩)) ∧ Below Z.heap.size Z w') := fun Z hZ => HOw.out Z (hbY2.trans (hZ.mono hbY2.size))
  clear hHeld d0 d1 d2 d3 d4 d5 d6 d7 hAl hb1 hb2 hbY1 hbY2 hbd KS HOw HXw HRw HIw HMF
  cases hsm : sameRw ow o with
  | true =>
   have HF : Hid (mF = stepMb m) := HFt.out hsm
   clear hsm HFt HFf HOw2
   go_wp2
   first | go_end0 | go_ret
   exact ⟨rfl,by rw [← HF.out];exact HF4.out _ _ HM2.out⟩
  | false =>
   have HF : Hid (({ mF with rows := mF.rows.set i { ow with ver := ow.ver + 1 } } : Mb) = stepMb m) := HFf.out hsm
   have hO2 := HOw2.out Y2 (Below.refl _ _)
   clear hsm HFt HFf HOw2
   go_wp2_with fail
   refine hO2.mono ?_
   rintro e Y3 ⟨rfl,hb3⟩
   obtain ⟨v1,v2,hM5⟩ := (HM2.out.step hb3).put (k := i) (by rw [HLn.out];exact HIn.out) (j := 0) (x := .int .i64 ow.ver) (y := .int .i64 (ow.ver + 1)) (r' := { ow with ver := ow.ver + 1 }) (by rw [HRow.out];rfl) (by rw [HRow.out];rfl)
   simp only [Nat.add_zero] at v1 v2 hM5
   rw [HF.out] at hM5
   have HM5 : Hid (Iw W1 (Y3.setCell ⟨g,off + i * 8,none⟩ (.int .i64 (ow.ver + 1))) B (stepMb m) fp5 g off c) := hM5
   have hnv := nvT_any g (off + i * 8) ow.ver Y3 v1 v2 HVb.out.1 HVb.out.2
   clear hM5 hO2 hb3 v1 v2
   go_wp2_with fail
   refine hnv.mono ?_
   rintro e w' ⟨rfl,hw'⟩
   rw [hw']
   clear hw' hnv
   go_wp2
   first | go_end0 | go_ret
   exact ⟨rfl,HF4.out _ _ HM5.out⟩
end Go.Proofs.YtidnfdobljihoaaGreat
namespace Go.Proofs.YtidnfdobljihoaaGreat
set_option linter.unusedVariables false
set_option linter.unusedSimpArgs false
open Go.RowKit Go.Sort
theorem step_wkd (m : Mb) : stpM m = (wkdM m (stepMb m) true).1 := by
 unfold stpM wkdM
 by_cases h : okMb m = true
 ·rw [if_pos h,if_pos h]
  by_cases hd : m.done = true
  ·rw [if_pos hd,stepMb,if_pos (.inl hd)]
  ·rw [if_neg hd,if_pos rfl]
 ·rw [if_neg h,if_neg h]
theorem step_len {m : Mb} {i n : Nat} (ok : OkM m i n) : (stepMb m).n = ((stepMb m).rows.length : Int) := by
 unfold stepMb
 split
 ·rw [ok.hn,ok.len]
 ·simp only [List.length_set]
  rw [ok.hn,ok.len]
set_option maxRecDepth 100000 in
set_option maxHeartbeats 1600000 in
theorem implStep1 : ImplStep1 := by
 intro A m w hv hver
 have a0 := oneA16 w (.cells #[.int .i64 m.id,.int .i64 m.n,.slice A.ra m.rows.length A.rc,.slice A.sa m.sung.length A.sc,.bool m.done] 27)
 have a1 := oneA16 (w.alloc (.cells #[.int .i64 m.id,.int .i64 m.n,.slice A.ra m.rows.length A.rc,.slice A.sa m.sung.length A.sc,.bool m.done] 27)) (.cells #[.int .i64 0,.int .i64 0,.slice none 0 0,.slice none 0 0,.bool false] 27)
 have hb1 : Below w.heap.size w ((w.alloc (.cells #[.int .i64 m.id,.int .i64 m.n,.slice A.ra m.rows.length A.rc,.slice A.sa m.sung.length A.sc,.bool m.done] 27)).alloc (.cells #[.int .i64 0,.int .i64 0,.slice none 0 0,.slice none 0 0,.bool false] 27)) := a0.trans (a1.mono a0.size)
 have hx0 : Bx ((w.alloc (.cells #[.int .i64 m.id,.int .i64 m.n,.slice A.ra m.rows.length A.rc,.slice A.sa m.sung.length A.sc,.bool m.done] 27)).alloc (.cells #[.int .i64 0,.int .i64 0,.slice none 0 0,.slice none 0 0,.bool false] 27)) w.heap.size 27 #[.int .i64 m.id,.int .i64 m.n,.slice A.ra m.rows.length A.rc,.slice A.sa m.sung.length A.sc,.bool m.done] := (Bx.new w _ _).alloc _
 have hx1 : Bx ((w.alloc (.cells #[.int .i64 m.id,.int .i64 m.n,.slice A.ra m.rows.length A.rc,.slice A.sa m.sung.length A.sc,.bool m.done] 27)).alloc (.cells #[.int .i64 0,.int .i64 0,.slice none 0 0,.slice none 0 0,.bool false] 27)) (w.heap.size + 1) 27 #[.int .i64 0,.int .i64 0,.slice none 0 0,.slice none 0 0,.bool false] := by
  have := Bx.new (w.alloc (.cells #[.int .i64 m.id,.int .i64 m.n,.slice A.ra m.rows.length A.rc,.slice A.sa m.sung.length A.sc,.bool m.done] 27)) 27 #[.int .i64 0,.int .i64 0,.slice none 0 0,.slice none 0 0,.bool false]
  simp only [World.size_alloc] at this
  exact this
 have hWk := wkd_any 40 #[] A m (stepMb m) true ((w.alloc (.cells #[.int .i64 m.id,.int .i64 m.n,.slice A.ra m.rows.length A.rc,.slice A.sa m.sung.length A.sc,.bool m.done] 27)).alloc (.cells #[.int .i64 0,.int .i64 0,.slice none 0 0,.slice none 0 0,.bool false] 27)) (hv.below hb1) (fun _ _ => enters_of Tryz.func40 (by kernel_rfl) rfl _ _)
  (fun hok _ => by
   obtain ⟨i,n,ok⟩ := okMb_iff.1 hok
   exact step_len ok)
  (fun X B fp i n hX hpl ok hd => (stp_any B m i n fp X hpl ok hd (by have := hver (okMb_iff.2 ⟨i,n,ok⟩);rw [ok.own] at this;exact this)).mono (fun e w' h => .inl ⟨rfl,h.1,h.2⟩))
 have HZ : Hid (stpM m = (wkdM m (stepMb m) true).1) := step_wkd m
 unfold mbV mbC at hWk
 have HR0 : Hid (Bx ((w.alloc (.cells #[.int .i64 m.id,.int .i64 m.n,.slice A.ra m.rows.length A.rc,.slice A.sa m.sung.length A.sc,.bool m.done] 27)).alloc (.cells #[.int .i64 0,.int .i64 0,.slice none 0 0,.slice none 0 0,.bool false] 27)) (w.heap.size + 1) 27 #[.int .i64 0,.int .i64 0,.slice none 0 0,.slice none 0 0,.bool false]) := hx1
 have HB0 : Hid (Below w.heap.size w ((w.alloc (.cells #[.int .i64 m.id,.int .i64 m.n,.slice A.ra m.rows.length A.rc,.slice A.sa m.sung.length A.sc,.bool m.done] 27)).alloc (.cells #[.int .i64 0,.int .i64 0,.slice none 0 0,.slice none 0 0,.bool false] 27))) := hb1
 obtain ⟨c0,c1,c2,c3,c4⟩ := Bx.r5 hx0
 clear a0 a1 hb1 hx0 hx1 hv hver
 unfold mbV mbC
 generalize wkdM m (stepMb m) true = pp at *
 obtain ⟨pm,pf⟩ := pp
 simp only at hWk HZ
 go_enter Tryz.func9,Tryz.ntmps9
 go_wp2_with fail
 generalize (w.alloc (.cells #[.int .i64 m.id,.int .i64 m.n,.slice A.ra m.rows.length A.rc,.slice A.sa m.sung.length A.sc,.bool m.done] 27)).alloc (.cells #[.int .i64 0,.int .i64 0,.slice none 0 0,.slice none 0 0,.bool false] 27) = W0 at *
 refine hWk.mono ?_
 rintro e w1 ⟨A2,rfl,fp,hl,hf,hb⟩
 have hba := oneA16 w1 (.cells #[.int .i64 pm.id,.int .i64 pm.n,.slice A2.ra pm.rows.length A2.rc,.slice A2.sa pm.sung.length A2.sc,.bool pm.done] 27)
 have hx2 := Bx.new w1 27 #[.int .i64 pm.id,.int .i64 pm.n,.slice A2.ra pm.rows.length A2.rc,.slice A2.sa pm.sung.length A2.sc,.bool pm.done]
 have hR := (HR0.out.below hb).below hba
 have HN : Hid (∀ {z0 z1 z2 z3 z4 : Value},NewL w ((((((w1.alloc (.cells #[.int .i64 pm.id,.int .i64 pm.n,.slice A2.ra pm.rows.length A2.rc,.slice A2.sa pm.sung.length A2.sc,.bool pm.done] 27)).setCell ⟨w.heap.size + 1,0,none⟩ z0).setCell ⟨w.heap.size + 1,1,none⟩ z1).setCell ⟨w.heap.size + 1,2,none⟩ z2).setCell ⟨w.heap.size + 1,3,none⟩ z3).setCell ⟨w.heap.size + 1,4,none⟩ z4) (mbCels pm) (mbVals A2 pm)) := fun {z0 z1 z2 z3 z4} => by
  have hB1 : Below w.heap.size w w1 := HB0.out.trans (hb.mono HB0.out.size)
  have hB2 : Below w.heap.size w (w1.alloc (.cells #[.int .i64 pm.id,.int .i64 pm.n,.slice A2.ra pm.rows.length A2.rc,.slice A2.sa pm.sung.length A2.sc,.bool pm.done] 27)) := hB1.trans (hba.mono hB1.size)
  have h0 : w.heap.size + 1 < W0.heap.size := HR0.out.lt
  exact ⟨fp,owL_wrt (owL_below hl hba) (wrt5 _ (w.heap.size + 1)) (fun x hx e => by have := hf x hx;omega),fun x hx => by have := hf x hx;omega,(wrt5 _ (w.heap.size + 1)).below hB2 hB2.size (fun x e => by omega)⟩
 obtain ⟨z0,z1,z2,z3,z4⟩ := Bx.r5 hR
 obtain ⟨r0,r1,r2,r3,r4⟩ := hR.f5
 clear c0 c1 c2 c3 c4
 obtain ⟨c0,c1,c2,c3,c4⟩ := Bx.r5 hx2
 clear hWk hl hf hb hR hba hx2
 unfold mbV mbC
 go_upto_region 2 with fail
 generalize w1.alloc (.cells #[.int .i64 pm.id,.int .i64 pm.n,.slice A2.ra pm.rows.length A2.rc,.slice A2.sa pm.sung.length A2.sc,.bool pm.done] 27) = W2 at *
 go_wp2
 refine bodyPost_ret (v := mbV A2 pm) (by simp [results,Tryz.results9,go_sem,mbV,mbC, *]) rfl ?_
 rw [HZ.out]
 exact ⟨_,rfl,HN.out⟩
end Go.Proofs.YtidnfdobljihoaaGreat
namespace Go.Proofs.YtidnfdobljihoaaGreat
set_option linter.unusedVariables false
set_option linter.unusedSimpArgs false
open Go.RowKit Go.Sort
attribute [local irreducible] sv
def VoQ (m : Mb) (w0 X0 : World) (b1 b2 : Nat) (b : Bool) (w' : World) : Prop := (b = true → (okMb m = true ∧ m.sung.all (hadB m.rows m.k) = true) ∧ ∃ a c f,w'.cell? ⟨b1,0,none⟩ = some (.slice a (m.sung.map (txtOf m.rows m.k)).length c) ∧ Cel.ow w' (scl (m.sung.map (txtOf m.rows m.k))) (.slice a (m.sung.map (txtOf m.rows m.k)).length c) f ∧ ∀ b,f b → w0.heap.size ≤ b ∧ b ≠ b1 ∧ b ≠ b2) ∧ (b = false → ¬ (okMb m = true ∧ m.sung.all (hadB m.rows m.k) = true)) ∧ Wrt (fun x => x = b1) X0 w'
theorem voi_yes {m : Mb} (h : okMb m = true ∧ m.sung.all (hadB m.rows m.k) = true) : voiM m = (m.sung.map (txtOf m.rows m.k)) := by rw [voiM,if_pos h.1,voiL,if_pos h.2]
theorem voi_no {m : Mb} (h : ¬ (okMb m = true ∧ m.sung.all (hadB m.rows m.k) = true)) : voiM m = [] := by
 unfold voiM voiL
 split
 ·rename_i h1
  rw [if_neg (fun h2 => h ⟨h1,h2⟩)]
 ·rfl
set_option maxRecDepth 100000 in
set_option maxHeartbeats 1600000 in
theorem implVoice : ImplVoice := by
 intro A m w hv
 have hmf : ∀ (fn : Fn) (first cap : Array Value) (w : World),(Instr.makeFunc fn first cap).run Tryz.prog w = .ok (.func fn first cap) w := fun _ _ _ _ => rfl
 have a1 := oneA16 w (.cells #[.int .i64 m.id,.int .i64 m.n,.slice A.ra m.rows.length A.rc,.slice A.sa m.sung.length A.sc,.bool m.done] 27)
 have a2 := oneA16 (w.alloc (.cells #[.int .i64 m.id,.int .i64 m.n,.slice A.ra m.rows.length A.rc,.slice A.sa m.sung.length A.sc,.bool m.done] 27)) (.cells #[] 9)
 have a3 := oneA16 ((w.alloc (.cells #[.int .i64 m.id,.int .i64 m.n,.slice A.ra m.rows.length A.rc,.slice A.sa m.sung.length A.sc,.bool m.done] 27)).alloc (.cells #[] 9)) (.cells #[.slice (some ⟨w.heap.size + 1,0,none⟩) 0 0] 32)
 have hb1 : Below w.heap.size w (w.alloc (.cells #[.int .i64 m.id,.int .i64 m.n,.slice A.ra m.rows.length A.rc,.slice A.sa m.sung.length A.sc,.bool m.done] 27)) := a1
 have hb2 : Below w.heap.size w ((w.alloc (.cells #[.int .i64 m.id,.int .i64 m.n,.slice A.ra m.rows.length A.rc,.slice A.sa m.sung.length A.sc,.bool m.done] 27)).alloc (.cells #[] 9)) := hb1.trans (a2.mono hb1.size)
 have hb3 : Below w.heap.size w (((w.alloc (.cells #[.int .i64 m.id,.int .i64 m.n,.slice A.ra m.rows.length A.rc,.slice A.sa m.sung.length A.sc,.bool m.done] 27)).alloc (.cells #[] 9)).alloc (.cells #[.slice (some ⟨w.heap.size + 1,0,none⟩) 0 0] 32)) := hb2.trans (a3.mono hb2.size)
 have hx0 : Bx (((w.alloc (.cells #[.int .i64 m.id,.int .i64 m.n,.slice A.ra m.rows.length A.rc,.slice A.sa m.sung.length A.sc,.bool m.done] 27)).alloc (.cells #[] 9)).alloc (.cells #[.slice (some ⟨w.heap.size + 1,0,none⟩) 0 0] 32)) w.heap.size 27 #[.int .i64 m.id,.int .i64 m.n,.slice A.ra m.rows.length A.rc,.slice A.sa m.sung.length A.sc,.bool m.done] := ((Bx.new w 27 #[.int .i64 m.id,.int .i64 m.n,.slice A.ra m.rows.length A.rc,.slice A.sa m.sung.length A.sc,.bool m.done]).alloc (.cells #[] 9)).alloc (.cells #[.slice (some ⟨w.heap.size + 1,0,none⟩) 0 0] 32)
 have hx1 : Bx (((w.alloc (.cells #[.int .i64 m.id,.int .i64 m.n,.slice A.ra m.rows.length A.rc,.slice A.sa m.sung.length A.sc,.bool m.done] 27)).alloc (.cells #[] 9)).alloc (.cells #[.slice (some ⟨w.heap.size + 1,0,none⟩) 0 0] 32)) (w.heap.size + 1 + 1) 32 #[.slice (some ⟨w.heap.size + 1,0,none⟩) 0 0] := by
  have := Bx.new ((w.alloc (.cells #[.int .i64 m.id,.int .i64 m.n,.slice A.ra m.rows.length A.rc,.slice A.sa m.sung.length A.sc,.bool m.done] 27)).alloc (.cells #[] 9)) 32 #[.slice (some ⟨w.heap.size + 1,0,none⟩) 0 0]
  simp only [World.size_alloc] at this
  exact this
 have hsz : (((w.alloc (.cells #[.int .i64 m.id,.int .i64 m.n,.slice A.ra m.rows.length A.rc,.slice A.sa m.sung.length A.sc,.bool m.done] 27)).alloc (.cells #[] 9)).alloc (.cells #[.slice (some ⟨w.heap.size + 1,0,none⟩) 0 0] 32)).heap.size = w.heap.size + 1 + 1 + 1 := by simp only [World.size_alloc]
 have a4 := oneA16 (((w.alloc (.cells #[.int .i64 m.id,.int .i64 m.n,.slice A.ra m.rows.length A.rc,.slice A.sa m.sung.length A.sc,.bool m.done] 27)).alloc (.cells #[] 9)).alloc (.cells #[.slice (some ⟨w.heap.size + 1,0,none⟩) 0 0] 32)) (.cells #[.bool false] 4)
 have hb4 : Below w.heap.size w ((((w.alloc (.cells #[.int .i64 m.id,.int .i64 m.n,.slice A.ra m.rows.length A.rc,.slice A.sa m.sung.length A.sc,.bool m.done] 27)).alloc (.cells #[] 9)).alloc (.cells #[.slice (some ⟨w.heap.size + 1,0,none⟩) 0 0] 32)).alloc (.cells #[.bool false] 4)) := hb3.trans (a4.mono hb3.size)
 have hO0 : Cel.ow ((((w.alloc (.cells #[.int .i64 m.id,.int .i64 m.n,.slice A.ra m.rows.length A.rc,.slice A.sa m.sung.length A.sc,.bool m.done] 27)).alloc (.cells #[] 9)).alloc (.cells #[.slice (some ⟨w.heap.size + 1,0,none⟩) 0 0] 32)).alloc (.cells #[.bool false] 4)) (scl []) (.slice (some ⟨w.heap.size + 1,0,none⟩) 0 0) (fun _ => False) := ow_scl.2 ⟨_,0,none,rfl,OSo.nil _ _ (plainS _ _),fun b => by simp⟩
 have hT := told_any 44 #[] #[.pointer (some ⟨w.heap.size,0,none⟩),.pointer (some ⟨w.heap.size + 1 + 1,0,none⟩)] (((w.alloc (.cells #[.int .i64 m.id,.int .i64 m.n,.slice A.ra m.rows.length A.rc,.slice A.sa m.sung.length A.sc,.bool m.done] 27)).alloc (.cells #[] 9)).alloc (.cells #[.slice (some ⟨w.heap.size + 1,0,none⟩) 0 0] 32)) (fun b X => VoQ m w ((((w.alloc (.cells #[.int .i64 m.id,.int .i64 m.n,.slice A.ra m.rows.length A.rc,.slice A.sa m.sung.length A.sc,.bool m.done] 27)).alloc (.cells #[] 9)).alloc (.cells #[.slice (some ⟨w.heap.size + 1,0,none⟩) 0 0] 32)).alloc (.cells #[.bool false] 4)) (w.heap.size + 1 + 1) (((w.alloc (.cells #[.int .i64 m.id,.int .i64 m.n,.slice A.ra m.rows.length A.rc,.slice A.sa m.sung.length A.sc,.bool m.done] 27)).alloc (.cells #[] 9)).alloc (.cells #[.slice (some ⟨w.heap.size + 1,0,none⟩) 0 0] 32)).heap.size b X) (fun _ _ => enters_of Tryz.func44 (by kernel_rfl) rfl _ _)
  ((voi1_any A m w.heap.size (w.heap.size + 1 + 1) (((w.alloc (.cells #[.int .i64 m.id,.int .i64 m.n,.slice A.ra m.rows.length A.rc,.slice A.sa m.sung.length A.sc,.bool m.done] 27)).alloc (.cells #[] 9)).alloc (.cells #[.slice (some ⟨w.heap.size + 1,0,none⟩) 0 0] 32)).heap.size (some ⟨w.heap.size + 1,0,none⟩) 0 (fun _ => False) w _ hv hb4 (hx0.below a4) (hx1.below a4) hO0 (fun b h => h.elim) (by omega) (by omega) (fun h => h) (Bx.new (((w.alloc (.cells #[.int .i64 m.id,.int .i64 m.n,.slice A.ra m.rows.length A.rc,.slice A.sa m.sung.length A.sc,.bool m.done] 27)).alloc (.cells #[] 9)).alloc (.cells #[.slice (some ⟨w.heap.size + 1,0,none⟩) 0 0] 32)) 4 #[.bool false]).lt).mono (fun e w' ⟨h1,h2⟩ => by
   have h2' : Wrt (fun x => x = w.heap.size + 1 + 1) ((((w.alloc (.cells #[.int .i64 m.id,.int .i64 m.n,.slice A.ra m.rows.length A.rc,.slice A.sa m.sung.length A.sc,.bool m.done] 27)).alloc (.cells #[] 9)).alloc (.cells #[.slice (some ⟨w.heap.size + 1,0,none⟩) 0 0] 32)).alloc (.cells #[.bool false] 4)) w' := h2.mono (fun b _ h => h.elim id False.elim)
   rcases h1 with ⟨q1,q2,q3,q4⟩ | ⟨q1,q2⟩
   ·exact .inl ⟨q3,fun _ => ⟨⟨q1,q2⟩,q4⟩,(fun h => by cases h),h2'⟩
   ·exact .inr ⟨q2,(fun h => by cases h),fun _ => q1,h2'⟩)) (fun b X h => (Bx.new (((w.alloc (.cells #[.int .i64 m.id,.int .i64 m.n,.slice A.ra m.rows.length A.rc,.slice A.sa m.sung.length A.sc,.bool m.done] 27)).alloc (.cells #[] 9)).alloc (.cells #[.slice (some ⟨w.heap.size + 1,0,none⟩) 0 0] 32)) 4 #[.bool false]).wrt h.2.2 (fun k => by omega))
 have HB4 : Hid (Below w.heap.size w ((((w.alloc (.cells #[.int .i64 m.id,.int .i64 m.n,.slice A.ra m.rows.length A.rc,.slice A.sa m.sung.length A.sc,.bool m.done] 27)).alloc (.cells #[] 9)).alloc (.cells #[.slice (some ⟨w.heap.size + 1,0,none⟩) 0 0] 32)).alloc (.cells #[.bool false] 4))) := hb4
 have HSz : Hid ((((w.alloc (.cells #[.int .i64 m.id,.int .i64 m.n,.slice A.ra m.rows.length A.rc,.slice A.sa m.sung.length A.sc,.bool m.done] 27)).alloc (.cells #[] 9)).alloc (.cells #[.slice (some ⟨w.heap.size + 1,0,none⟩) 0 0] 32)).heap.size = w.heap.size + 1 + 1 + 1) := hsz
 clear a1 a2 a3 a4 hb1 hb2 hb3 hx0 hx1 hb4 hO0 hv hsz
 unfold mbV mbC
 go_enter Tryz.func14,Tryz.ntmps14
 go_wp2_with fail
 generalize (((w.alloc (.cells #[.int .i64 m.id,.int .i64 m.n,.slice A.ra m.rows.length A.rc,.slice A.sa m.sung.length A.sc,.bool m.done] 27)).alloc (.cells #[] 9)).alloc (.cells #[.slice (some ⟨w.heap.size + 1,0,none⟩) 0 0] 32)) = W0 at *
 refine hT.mono ?_
 rintro e Y ⟨b,X,rfl,⟨hQ1,hQ2,hWX⟩,hWt⟩
 have hs := HSz.out
 have hBX : Below w.heap.size w X := hWX.below HB4.out HB4.out.size (fun x e => by omega)
 have hBY : Below w.heap.size w Y := hWt.below hBX hBX.size (fun x e => by omega)
 have HBY : Hid (Below w.heap.size w Y) := hBY
 clear hT hWX hBX hBY
 cases b with
 | true =>
  obtain ⟨hy,a,c,f,hc,hO,hf⟩ := hQ1 rfl
  have HZ : Hid (voiM m = (m.sung.map (txtOf m.rows m.k))) := voi_yes hy
  have hbl := World.block_lt_of_cell? _ _ hc
  have hc2 : Y.cell? ⟨w.heap.size + 1 + 1,0,none⟩ = some (.slice a (m.sung.map (txtOf m.rows m.k)).length c) := (World.cell?_of_block (hWt.block _ hbl (by show ¬ (w.heap.size + 1 + 1 = W0.heap.size);omega))).trans hc
  have HO : Hid (Cel.ow Y (scl (m.sung.map (txtOf m.rows m.k))) (.slice a (m.sung.map (txtOf m.rows m.k)).length c) f) := Cel.ow_wrt hO hWt (fun b hb e => (hf b hb).2.2 e)
  have HF : Hid (∀ b,f b → w.heap.size ≤ b) := fun b hb => (hf b hb).1
  clear hQ1 hQ2 hc hO hf hy hWt
  generalize (m.sung.map (txtOf m.rows m.k)) = TT at *
  go_wp2
  go_ret
  rw [HZ.out]
  exact ⟨a,c,rfl,f,HO.out,HF.out,HBY.out⟩
 | false =>
  have HZ : Hid (voiM m = []) := voi_no (hQ2 rfl)
  clear hQ1 hQ2 hWt
  go_wp2
  go_ret
  rw [HZ.out]
  exact ⟨some ⟨Y.heap.size,0,none⟩,0,rfl,fun _ => False,ow_scl.2 ⟨_,0,none,rfl,OSo.nil _ _ (plainS _ _),fun b => by simp⟩,fun b h => h.elim,HBY.out.trans ((oneA16 Y _).mono HBY.out.size)⟩
end Go.Proofs.YtidnfdobljihoaaGreat