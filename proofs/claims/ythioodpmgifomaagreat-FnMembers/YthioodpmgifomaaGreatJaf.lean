/-
  Texts in one: Mbg Mbd Mbh Mcc Mbl.
-/
import Derived.Test.YthioodpmgifomaaGreatJae
namespace Go.Proofs.YthioodpmgifomaaGreat
set_option linter.unusedVariables false
set_option linter.unusedSimpArgs false
open Go.RowKit Go.Sort
theorem rowN_self {R : List Rw} {i : Nat} {r : Rw} (h : i < R.length) : rowN (R.set i r) i = r := by rw [rowN_set h,if_pos rfl]
attribute [local irreducible] sv
set_option maxRecDepth 100000 in
set_option maxHeartbeats 3200000 in
theorem saySp_any (B o : Nat) (m : Mb) (i n : Nat) (t : List UInt8) (fp : Fp) (w : World) (h : Plc w B o (mb5 m) fp) (ok : OkM m i n) (ht : t.length ≤ 1000000000) :
  Calls Tryz.prog 70 #[.pointer (some ⟨B,o,none⟩),.string (sv t)] w fun e w' => e = .returned (.bool (sayMb m t).2) ∧ Bcm w w' B o (mb5 (sayMb m t).1) fp := by
 have hmix := mixed17
 have hil : i < m.rows.length := by rw [ok.len];exact ok.lt
 obtain ⟨g,off,c,M0⟩ := Mw.start h (by omega)
 obtain ⟨c0,c1,c4⟩ := M0.id'
 have c2 := M0.rws
 rw [ok.hid] at c0
 have i0 : (0 : Int) ≤ (i : Int) := by omega
 have i1 : (i : Int) < (m.rows.length : Int) := by omega
 have p0 : ∀ q : Bk w,q.w.cell? ⟨B,o,none⟩ = _ := fun q => (q.h.cell (World.block_lt_of_cell? _ _ c0)).trans c0
 have p2 : ∀ q : Bk w,q.w.cell? ⟨B,o + 2,none⟩ = _ := fun q => (q.h.cell (World.block_lt_of_cell? _ _ c2)).trans c2
 have HM0 : Hid (Mw w w B o m fp g off c) := M0
 clear c0 c1 c4 c2 M0 h
 go_enter Tryz.func70,Tryz.ntmps70
 go_wp2_with fail
 refine wp_region_bk (by kernel_rfl) (by kernel_rfl) ?_
 repeat (go_big_quiet_step ((first | rfl)))
 refine wpQuiet_nil ?_
 intro wE hw'
 obtain ⟨⟨w11,hb11⟩,hw''⟩ := hw'
 have hwe : wE = w11 := hw''
 clear hw''
 subst hwe
 clear p0 p2
 have M1 := HM0.out.step hb11
 have HM1 : Hid (Mw w wE B o m fp g off c) := M1
 obtain ⟨c0,c1,c4⟩ := M1.id'
 rw [ok.hid] at c0
 obtain ⟨Ak,⟨⟨d0,d1,d2,d3⟩,d4,d5,d6,d7⟩,hrs⟩ := M1.row ok.fit hil
 have hr := ok.ok i ok.lt
 have hszt := sv_size t
 have HSay : Hid (sayMb m t = if (rowN m.rows i).wed = true ∨ m.done = true ∨ (rowN m.rows i).txt.length = 12 ∨ 20 < t.length ∨ (rowN m.rows i).ver = 1000000 then (m,false) else ({ m with rows := m.rows.set i { rowN m.rows i with txt := (rowN m.rows i).txt ++ [t],got := (rowN m.rows i).got.set i (el (rowN m.rows i).got i + 1),ver := (rowN m.rows i).ver + 1 } },true)) := by
  have e : m.i = i := by unfold Mb.i;rw [ok.hid];rfl
  rw [Hid,sayMb,Mb.put,Mb.own,e]
 have HNo : Hid (((rowN m.rows i).wed = true ∨ m.done = true ∨ (rowN m.rows i).txt.length = 12 ∨ 20 < t.length ∨ (rowN m.rows i).ver = 1000000) → sayMb m t = (m,false)) := fun h => by rw [HSay.out,if_pos h]
 have HYes : Hid (¬ ((rowN m.rows i).wed = true ∨ m.done = true ∨ (rowN m.rows i).txt.length = 12 ∨ 20 < t.length ∨ (rowN m.rows i).ver = 1000000) → sayMb m t = ({ m with rows := m.rows.set i { rowN m.rows i with txt := (rowN m.rows i).txt ++ [t],got := (rowN m.rows i).got.set i (el (rowN m.rows i).got i + 1),ver := (rowN m.rows i).ver + 1 } },true)) := fun h => by rw [HSay.out,if_neg h]
 have htl := hr.tl
 clear HSay hrs d2 d3 d5 d6 d7 c1 hb11 HM0 M1
 cases hwd : (rowN m.rows i).wed with
 | true =>
  have HZ : Hid (sayMb m t = (m,false)) := HNo.out (.inl hwd)
  rw [hwd] at d4
  go_wp2
  go_ret
  exact ⟨ret_bool (by rw [HZ.out]),by rw [HZ.out];exact HM1.out.bcm⟩
 | false =>
 rw [hwd] at d4
 cases hdn : m.done with
 | true =>
  have HZ : Hid (sayMb m t = (m,false)) := HNo.out (.inr (.inl hdn))
  rw [hdn] at c4
  go_wp2
  go_ret
  exact ⟨ret_bool (by rw [HZ.out]),by rw [HZ.out];exact HM1.out.bcm⟩
 | false =>
 rw [hdn] at c4
 by_cases h12 : (rowN m.rows i).txt.length = 12
 ·have HZ : Hid (sayMb m t = (m,false)) := HNo.out (.inr (.inr (.inl h12)))
  have e12 : (((rowN m.rows i).txt.length : Int) == 12) = true := by rw [h12];rfl
  clear h12
  go_wp2
  go_ret
  exact ⟨ret_bool (by rw [HZ.out]),by rw [HZ.out];exact HM1.out.bcm⟩
 have e12 : (((rowN m.rows i).txt.length : Int) == 12) = false := by simp;omega
 by_cases h20 : 20 < t.length
 ·have HZ : Hid (sayMb m t = (m,false)) := HNo.out (.inr (.inr (.inr (.inl h20))))
  have e20 : (20 : Int) < (t.length : Int) := by omega
  go_wp2
  go_ret
  exact ⟨ret_bool (by rw [HZ.out]),by rw [HZ.out];exact HM1.out.bcm⟩
 have e20 : ¬ ((20 : Int) < (t.length : Int)) := by omega
 by_cases hver : (rowN m.rows i).ver = 1000000
 ·have HZ : Hid (sayMb m t = (m,false)) := HNo.out (.inr (.inr (.inr (.inr hver))))
  have ev : ((rowN m.rows i).ver == 1000000) = true := by rw [hver];rfl
  clear hver
  go_wp2
  go_ret
  exact ⟨ret_bool (by rw [HZ.out]),by rw [HZ.out];exact HM1.out.bcm⟩
 have ev : ((rowN m.rows i).ver == 1000000) = false := by simpa using hver
 have HZ : Hid (sayMb m t = _) := HYes.out (by rw [hwd,hdn];simp;omega)
 obtain ⟨u,f,hu,hfz,how,hlt,hset⟩ := HM1.out.at hil (j := 1) rfl
 obtain ⟨ta,tc,rfl,hA⟩ := ow_txt_app t how (by omega)
 have HS : Hid (∀ (X1 : World) (c' : Cel) (u' : Value) (f' : Fp) (r' : Rw),(rw8 (rowN m.rows i)).set 1 c' = rw8 r' → Wrt f wE X1 → Cel.ow X1 c' u' f' → (∀ b,f' b → f b ∨ wE.heap.size ≤ b) → X1.cell? ⟨g,off + i * 8 + 1,none⟩ = some (.slice ta (rowN m.rows i).txt.length tc) ∧ X1.frozen? ⟨g,off + i * 8 + 1,none⟩ = false ∧ Mw w (X1.setCell ⟨g,off + i * 8 + 1,none⟩ u') B o { m with rows := m.rows.set i r' } fp g off c ∧ (u' = .slice ta (rowN m.rows i).txt.length tc → Mw w X1 B o { m with rows := m.rows.set i r' } fp g off c)) := hset
 clear d1 hset HNo HYes how hlt
 go_wp2_with (at_builtin;refine wpList_append_of (by rfl) _ _ _ _ (by rfl) _ _ (by rfl) (by rfl) hA ⟨rfl,rfl,rfl,rfl⟩ ?_;rintro v1 w1 ⟨a1,e1,f1,rfl,k1,k2,k3⟩;obtain ⟨q1,q2,M2,_⟩ := HS.out w1 _ _ f1 { rowN m.rows i with txt := (rowN m.rows i).txt ++ [t] } rfl k3 k1 k2;have HM2 : Hid (Mw w (w1.setCell ⟨g,off + i * 8 + 1,none⟩ (.slice a1 ((rowN m.rows i).txt.length + 1) e1)) B o { m with rows := m.rows.set i { rowN m.rows i with txt := (rowN m.rows i).txt ++ [t] } } fp g off c) := M2;clear M2 k1 k2 k3 hA HS)
 clear q1 q2 hu hfz d0 d4 c0 c4
 generalize w1.setCell ⟨g,off + i * 8 + 1,none⟩ (.slice a1 ((rowN m.rows i).txt.length + 1) e1) = W5 at *
 generalize hr1 : ({ rowN m.rows i with txt := (rowN m.rows i).txt ++ [t] } : Rw) = r1 at *
 have hgl : r1.got = (rowN m.rows i).got := by rw [← hr1]
 have hvl : r1.ver = (rowN m.rows i).ver := by rw [← hr1]
 have hset1 : rowN (m.rows.set i r1) i = r1 := rowN_self hil
 have hil1 : i < (m.rows.set i r1).length := by rw [List.length_set];exact hil
 have hgi : i < r1.got.length := by rw [hgl,hr.gl];exact ok.lt
 obtain ⟨u,f,hu,hfz,how,hlt,hset⟩ := HM2.out.at hil1 (j := 2) (cl := icl r1.got) (by rw [hset1];rfl)
 obtain ⟨gb,go,gc,rfl,hfg,hge,hgz,hgs⟩ := ow_int_set how hgi
 obtain ⟨c0,c1,c4⟩ := HM2.out.id'
 simp only at c0
 rw [ok.hid] at c0
 have i2 : (i : Int) < (r1.got.length : Int) := by omega
 have p0 : ∀ q : Bk W5,q.w.cell? ⟨B,o,none⟩ = _ := fun q => (q.h.cell (World.block_lt_of_cell? _ _ c0)).trans c0
 have p2 : ∀ q : Bk W5,q.w.cell? ⟨g,off + i * 8 + 2,none⟩ = _ := fun q => (q.h.cell (World.block_lt_of_cell? _ _ hu)).trans hu
 have p3 : ∀ q : Bk W5,q.w.cell? ⟨gb,go + i,none⟩ = _ := fun q => (q.h.cell (World.block_lt_of_cell? _ _ hge)).trans hge
 have hx12 : -1000 ≤ el r1.got i ∧ el r1.got i ≤ 1000 := by
  have := hr.g12 (el r1.got i) (by rw [hgl];exact el_mem (by rw [← hgl];exact hgi))
  have h0 := hr.fit
  have hg := (small_iff hr.n5 hr.gl).1 ⟨hr.got,hr.g12⟩ i ok.lt
  rw [hgl]
  omega
 have hwx : wrap64 (el r1.got i + 1) = el r1.got i + 1 := by unfold wrap64;omega
 have HH : Hid (Cel.ow W5 (icl r1.got) (.slice (some ⟨gb,go,none⟩) r1.got.length gc) f) := how
 have HEL : Hid (el r1.got i = el (rowN m.rows i).got i) := by rw [Hid,hgl]
 have HGL : Hid (r1.got = (rowN m.rows i).got) := hgl
 have HVL : Hid (r1.ver = (rowN m.rows i).ver) := hvl
 have HS1 : Hid (rowN (m.rows.set i r1) i = r1) := hset1
 have HR1 : Hid (({ rowN m.rows i with txt := (rowN m.rows i).txt ++ [t] } : Rw) = r1) := hr1
 clear hu hfz hge hgz hgs how hset c0 c1 c4 hx12 hgl hvl hset1 hr1
 generalize el r1.got i = x at *
 refine wp_region_quiet_tail (C := fun w' => ∃ p : Bk W5,w' = p.w) 20 hmix (by kernel_rfl) ⟨⟨W5.drewN 1,belowN (Below.refl _ _)⟩,rfl⟩ ?_
 simp only [List.take_succ_cons,List.take_zero]
 repeat (go_big_quiet_step ((first | rfl)))
 refine wpQuiet_nil ?_
 intro wE hw'
 obtain ⟨⟨w11,hb11⟩,hw''⟩ := hw'
 have hwe : wE = w11 := hw''
 clear hw''
 subst hwe
 simp only [List.drop_succ_cons,List.drop_zero]
 have hu3 := p2 ⟨wE,hb11⟩
 simp only at hu3
 have M3 := HM2.out.step hb11
 obtain ⟨u,f3,hu,hfz,how,hlt3,hset⟩ := M3.at hil1 (j := 2) (cl := icl r1.got) (by rw [HS1.out];rfl)
 obtain rfl := Option.some.inj (hu.symm.trans hu3)
 obtain ⟨gb',go',gc',e4,hfg4,hge,hgz,hgs⟩ := ow_int_set how hgi
 cases e4
 obtain ⟨k1,k2⟩ := hgs (x + 1)
 obtain ⟨_,_,_,hM4⟩ := hset _ (icl (r1.got.set i (x + 1))) _ f3 { r1 with got := r1.got.set i (x + 1) } (by rw [HS1.out];rfl) k2 k1 (fun b hb => .inl hb)
 have HM4 : Hid (Mw w (wE.setCell ⟨gb,go + i,none⟩ (.int .i64 (x + 1))) B o { m with rows := (m.rows.set i r1).set i { r1 with got := r1.got.set i (x + 1) } } fp g off c) := hM4 rfl
 clear hM4 hgs k1 k2 hset M3 how hu hu3 hfz p0 p2 p3 hlt3 hlt
 go_upto_region 6 with fail
 generalize wE.setCell ⟨gb,go + i,none⟩ (.int .i64 (x + 1)) = W7 at *
 clear hge hgz
 rw [List.set_set] at HM4
 generalize hr2 : ({ r1 with got := r1.got.set i (x + 1) } : Rw) = r2 at *
 have hil2 : i < (m.rows.set i r2).length := by rw [List.length_set];exact hil
 have hv2 : r2.ver = (rowN m.rows i).ver := by rw [← hr2];exact HVL.out
 have hs2 : rowN (m.rows.set i r2) i = r2 := rowN_self hil
 obtain ⟨v1,v2,hM5⟩ := HM4.out.put hil2 (j := 0) (x := .int .i64 r2.ver) (y := .int .i64 (r2.ver + 1)) (r' := { r2 with ver := r2.ver + 1 }) (by rw [hs2];rfl) (by rw [hs2];rfl)
 have hvb := hr.ver
 have hwv : wrap64 (r2.ver + 1) = r2.ver + 1 := by rw [hv2];unfold wrap64;omega
 simp only [Nat.add_zero] at v1 v2 hM5
 rw [List.set_set] at hM5
 have HM5 : Hid (Mw w (W7.setCell ⟨g,off + i * 8,none⟩ (.int .i64 (r2.ver + 1))) B o { m with rows := m.rows.set i { r2 with ver := r2.ver + 1 } } fp g off c) := hM5
 have HFin : Hid (({ m with rows := m.rows.set i { r2 with ver := r2.ver + 1 } } : Mb) = (sayMb m t).1 ∧ (sayMb m t).2 = true) := by
  rw [Hid,HZ.out]
  refine ⟨?_,rfl⟩
  rw [← hr2,← HR1.out,HEL.out]
 clear hM5 hr2 hs2 hv2 HZ hvb
 go_wp2
 go_ret
 exact ⟨ret_bool (by rw [HFin.out.2]),by rw [← HFin.out.1];exact HM5.out.bcm⟩
end Go.Proofs.YthioodpmgifomaaGreat
namespace Go.Proofs.YthioodpmgifomaaGreat
set_option linter.unusedVariables false
set_option linter.unusedSimpArgs false
open Go.RowKit Go.Sort
set_option maxRecDepth 100000 in
set_option maxHeartbeats 3200000 in
theorem dbtSp_any (B o : Nat) (m : Mb) (i n : Nat) (who : Int) (fp : Fp) (w : World) (h : Plc w B o (mb5 m) fp) (ok : OkM m i n) :
  Calls Tryz.prog 77 #[.pointer (some ⟨B,o,none⟩),.int .i64 who] w fun e w' => e = .returned (.bool (doubtMb m who).2) ∧ Bcm w w' B o (mb5 (doubtMb m who).1) fp := by
 have hmix := mixed17
 have hil : i < m.rows.length := by rw [ok.len];exact ok.lt
 obtain ⟨g,off,c,M0⟩ := Mw.start h (by omega)
 obtain ⟨c0,c1,c4⟩ := M0.id'
 have c2 := M0.rws
 rw [ok.hid] at c0
 have i0 : (0 : Int) ≤ (i : Int) := by omega
 have i1 : (i : Int) < (m.rows.length : Int) := by omega
 have p0 : ∀ q : Bk w,q.w.cell? ⟨B,o,none⟩ = _ := fun q => (q.h.cell (World.block_lt_of_cell? _ _ c0)).trans c0
 have p2 : ∀ q : Bk w,q.w.cell? ⟨B,o + 2,none⟩ = _ := fun q => (q.h.cell (World.block_lt_of_cell? _ _ c2)).trans c2
 have HM0 : Hid (Mw w w B o m fp g off c) := M0
 clear c0 c1 c4 c2 M0 h
 go_enter Tryz.func77,Tryz.ntmps77
 go_wp2_with fail
 refine wp_region_bk (by kernel_rfl) (by kernel_rfl) ?_
 repeat (go_big_quiet_step ((first | rfl)))
 refine wpQuiet_nil ?_
 intro wE hw'
 obtain ⟨⟨w11,hb11⟩,hw''⟩ := hw'
 have hwe : wE = w11 := hw''
 clear hw''
 subst hwe
 clear p0 p2
 have M1 := HM0.out.step hb11
 have HM1 : Hid (Mw w wE B o m fp g off c) := M1
 obtain ⟨c0,c1,c4⟩ := M1.id'
 rw [ok.hid] at c0
 rw [ok.hn] at c1
 obtain ⟨Ak,⟨⟨d0,d1,d2,d3⟩,d4,d5,d6,d7⟩,hrs⟩ := M1.row ok.fit hil
 have hr := ok.ok i ok.lt
 have hH := l1Has_any Ak.sa (rowN m.rows i).sus.length Ak.sc who (rowN m.rows i).sus wE hrs.sus hrs.ms
 have HD : Hid (doubtMb m who = if inB who 0 ((n : Int) - 1) = false ∨ who = (i : Int) ∨ who ∈ (rowN m.rows i).sus ∨ m.done = true ∨ (rowN m.rows i).ver = 1000000 then (m,false) else ({ m with rows := m.rows.set i { rowN m.rows i with sus := putL (rowN m.rows i).sus who,wed := true,ver := (rowN m.rows i).ver + 1 } },true)) := by
  have e : m.i = i := by unfold Mb.i;rw [ok.hid];rfl
  rw [Hid,doubtMb,Mb.put,Mb.own,e,ok.hid,ok.hn]
 have HNo : Hid ((inB who 0 ((n : Int) - 1) = false ∨ who = (i : Int) ∨ who ∈ (rowN m.rows i).sus ∨ m.done = true ∨ (rowN m.rows i).ver = 1000000) → doubtMb m who = (m,false)) := fun h => by rw [HD.out,if_pos h]
 have HYes : Hid (¬ (inB who 0 ((n : Int) - 1) = false ∨ who = (i : Int) ∨ who ∈ (rowN m.rows i).sus ∨ m.done = true ∨ (rowN m.rows i).ver = 1000000) → doubtMb m who = ({ m with rows := m.rows.set i { rowN m.rows i with sus := putL (rowN m.rows i).sus who,wed := true,ver := (rowN m.rows i).ver + 1 } },true)) := fun h => by rw [HD.out,if_neg h]
 have hn5 := hr.n5
 have wn : wrap64 ((n : Int) - 1) = (n : Int) - 1 := by unfold wrap64;omega
 have hsl := hr.sl
 have hfs := hr.fit.2.1
 clear HD hrs d1 d2 d5 d6 d7 hb11 HM0 M1
 cases e1 : inB who 0 ((n : Int) - 1) with
 | false =>
  have HZ : Hid (doubtMb m who = (m,false)) := HNo.out (.inl e1)
  go_wp2_with (first | (go_at_call 73;refine (l1In_any _ _ _ _).mono ?_;rintro e w' ⟨rfl,hw'⟩;rw [hw'];clear hw'))
  go_ret
  exact ⟨ret_bool (by rw [HZ.out]),by rw [HZ.out];exact HM1.out.bcm⟩
 | true =>
 by_cases h2 : who = (i : Int)
 ·have HZ : Hid (doubtMb m who = (m,false)) := HNo.out (.inr (.inl h2))
  have e2 : (who == (i : Int)) = true := by rw [h2];simp
  clear h2
  go_wp2_with (first | (go_at_call 73;refine (l1In_any _ _ _ _).mono ?_;rintro e w' ⟨rfl,hw'⟩;rw [hw'];clear hw'))
  go_ret
  exact ⟨ret_bool (by rw [HZ.out]),by rw [HZ.out];exact HM1.out.bcm⟩
 have e2 : (who == (i : Int)) = false := by simpa using h2
 by_cases h3 : who ∈ (rowN m.rows i).sus
 ·have HZ : Hid (doubtMb m who = (m,false)) := HNo.out (.inr (.inr (.inl h3)))
  rw [decide_eq_true h3] at hH
  clear h3
  go_wp2_with (first | (go_at_call 73;refine (l1In_any _ _ _ _).mono ?_;rintro e w' ⟨rfl,hw'⟩;rw [hw'];clear hw') | (go_at_call 76;refine hH.mono ?_;rintro e w' ⟨rfl,hw'⟩;rw [hw'];clear hw'))
  go_ret
  exact ⟨ret_bool (by rw [HZ.out]),by rw [HZ.out];exact HM1.out.bcm⟩
 rw [decide_eq_false h3] at hH
 cases hdn : m.done with
 | true =>
  have HZ : Hid (doubtMb m who = (m,false)) := HNo.out (.inr (.inr (.inr (.inl hdn))))
  rw [hdn] at c4
  go_wp2_with (first | (go_at_call 73;refine (l1In_any _ _ _ _).mono ?_;rintro e w' ⟨rfl,hw'⟩;rw [hw'];clear hw') | (go_at_call 76;refine hH.mono ?_;rintro e w' ⟨rfl,hw'⟩;rw [hw'];clear hw'))
  go_ret
  exact ⟨ret_bool (by rw [HZ.out]),by rw [HZ.out];exact HM1.out.bcm⟩
 | false =>
 rw [hdn] at c4
 by_cases hver : (rowN m.rows i).ver = 1000000
 ·have HZ : Hid (doubtMb m who = (m,false)) := HNo.out (.inr (.inr (.inr (.inr hver))))
  have ev : ((rowN m.rows i).ver == 1000000) = true := by rw [hver];rfl
  clear hver
  go_wp2_with (first | (go_at_call 73;refine (l1In_any _ _ _ _).mono ?_;rintro e w' ⟨rfl,hw'⟩;rw [hw'];clear hw') | (go_at_call 76;refine hH.mono ?_;rintro e w' ⟨rfl,hw'⟩;rw [hw'];clear hw'))
  go_ret
  exact ⟨ret_bool (by rw [HZ.out]),by rw [HZ.out];exact HM1.out.bcm⟩
 have ev : ((rowN m.rows i).ver == 1000000) = false := by simpa using hver
 have HZ : Hid (doubtMb m who = _) := HYes.out (by rw [e1,hdn];simp;exact ⟨h2,h3,hver⟩)
 obtain ⟨u,f,hu,hfz,how,hlt,hset⟩ := HM1.out.at hil (j := 3) rfl
 have how' := how
 obtain ⟨sa,sc,G,rfl,_,_⟩ := ow_icl.1 how'
 have hP := put_ow sa sc (rowN m.rows i).sus who wE f how hfs (by omega)
 have HS : Hid (∀ (X1 : World) (c' : Cel) (u' : Value) (f' : Fp) (r' : Rw),(rw8 (rowN m.rows i)).set 3 c' = rw8 r' → Wrt f wE X1 → Cel.ow X1 c' u' f' → (∀ b,f' b → f b ∨ wE.heap.size ≤ b) → X1.cell? ⟨g,off + i * 8 + 3,none⟩ = some (.slice sa (rowN m.rows i).sus.length sc) ∧ X1.frozen? ⟨g,off + i * 8 + 3,none⟩ = false ∧ Mw w (X1.setCell ⟨g,off + i * 8 + 3,none⟩ u') B o { m with rows := m.rows.set i r' } fp g off c ∧ (u' = .slice sa (rowN m.rows i).sus.length sc → Mw w X1 B o { m with rows := m.rows.set i r' } fp g off c)) := hset
 have e3 := Option.some.inj (d3.symm.trans hu)
 rw [e3] at d3 hH
 clear e3
 clear hu hset HNo HYes how how' hlt h2 h3 hver
 go_wp2_with (first | (go_at_call 73;refine (l1In_any _ _ _ _).mono ?_;rintro e w' ⟨rfl,hw'⟩;rw [hw'];clear hw') | (go_at_call 76;refine hH.mono ?_;rintro e w' ⟨rfl,hw'⟩;rw [hw'];clear hw'))
 refine hP.mono ?_
 rintro e w1 ⟨a1,e1',f1,rfl,k1,k2,k3⟩
 obtain ⟨q1,q2,M2,_⟩ := HS.out w1 _ _ f1 { rowN m.rows i with sus := putL (rowN m.rows i).sus who } rfl (Wrt.of_below k3) k1 k2
 have HM2 : Hid (Mw w (w1.setCell ⟨g,off + i * 8 + 3,none⟩ (.slice a1 (putL (rowN m.rows i).sus who).length e1')) B o { m with rows := m.rows.set i { rowN m.rows i with sus := putL (rowN m.rows i).sus who } } fp g off c) := M2
 clear M2 k1 k2 k3 hP HS hH d0 d3 d4 c0 c1 c4 hfz
 go_upto_region 5 with fail
 generalize w1.setCell ⟨g,off + i * 8 + 3,none⟩ (.slice a1 (putL (rowN m.rows i).sus who).length e1') = W5 at *
 clear q1 q2
 generalize hr1 : ({ rowN m.rows i with sus := putL (rowN m.rows i).sus who } : Rw) = r1 at *
 have hs1 : rowN (m.rows.set i r1) i = r1 := rowN_self hil
 have hil1 : i < (m.rows.set i r1).length := by rw [List.length_set];exact hil
 obtain ⟨v1,v2,hM3⟩ := HM2.out.put hil1 (j := 4) (x := .bool r1.wed) (y := .bool true) (r' := { r1 with wed := true }) (by rw [hs1];rfl) (by rw [hs1];rfl)
 rw [List.set_set] at hM3
 have HM3 : Hid (Mw w (W5.setCell ⟨g,off + i * 8 + 4,none⟩ (.bool true)) B o { m with rows := m.rows.set i { r1 with wed := true } } fp g off c) := hM3
 have HR1 : Hid (({ rowN m.rows i with sus := putL (rowN m.rows i).sus who } : Rw) = r1) := hr1
 clear hM3 hs1 hr1
 go_upto_region 6 with fail
 generalize W5.setCell ⟨g,off + i * 8 + 4,none⟩ (.bool true) = W7 at *
 clear v1 v2
 generalize hr2 : ({ r1 with wed := true } : Rw) = r2 at *
 have hil2 : i < (m.rows.set i r2).length := by rw [List.length_set];exact hil
 have hv2 : r2.ver = (rowN m.rows i).ver := by rw [← hr2,← HR1.out]
 have hs2 : rowN (m.rows.set i r2) i = r2 := rowN_self hil
 obtain ⟨v1,v2,hM5⟩ := HM3.out.put hil2 (j := 0) (x := .int .i64 r2.ver) (y := .int .i64 (r2.ver + 1)) (r' := { r2 with ver := r2.ver + 1 }) (by rw [hs2];rfl) (by rw [hs2];rfl)
 have hvb := hr.ver
 have hwv : wrap64 (r2.ver + 1) = r2.ver + 1 := by rw [hv2];unfold wrap64;omega
 simp only [Nat.add_zero] at v1 v2 hM5
 rw [List.set_set] at hM5
 have HM5 : Hid (Mw w (W7.setCell ⟨g,off + i * 8,none⟩ (.int .i64 (r2.ver + 1))) B o { m with rows := m.rows.set i { r2 with ver := r2.ver + 1 } } fp g off c) := hM5
 have HFin : Hid (({ m with rows := m.rows.set i { r2 with ver := r2.ver + 1 } } : Mb) = (doubtMb m who).1 ∧ (doubtMb m who).2 = true) := by
  rw [Hid,HZ.out]
  refine ⟨?_,rfl⟩
  rw [← hr2,← HR1.out]
 clear hM5 hr2 hs2 hv2 HZ hvb
 go_wp2
 go_ret
 exact ⟨ret_bool (by rw [HFin.out.2]),by rw [← HFin.out.1];exact HM5.out.bcm⟩
end Go.Proofs.YthioodpmgifomaaGreat
namespace Go.Proofs.YthioodpmgifomaaGreat
set_option linter.unusedVariables false
set_option linter.unusedSimpArgs false
open Go.RowKit Go.Sort
theorem Wrt.setCells (g : Nat) : ∀ (vs : List Value) (o : Nat) (w : World),Wrt (fun b => b = g) w (w.setCells g o vs)
 | [],o,w => Wrt.refl _ _
 | v :: vs,o,w => (Wrt.set w g o v).trans (Wrt.setCells g vs (o + 1) _) (fun _ _ h => h)
theorem frz_setCells (g : Nat) : ∀ (vs : List Value) (o : Nat) (w : World) (x : Addr),(w.setCells g o vs).frozen? x = w.frozen? x
 | [],o,w,x => rfl
 | v :: vs,o,w,x => by rw [World.setCells,frz_setCells g vs (o + 1),World.frozen?_setCell]
theorem Plc.all {w w1 : World} {B o : Nat} {cs cs' : List Cel} {fp f' : Fp} {vs' : List Value} (h : Plc w B o cs fp) (hb : Below w.heap.size w w1) (h' : owL w1 cs' vs' f') (hl : cs'.length = cs.length) (hf : ∀ b,f' b → w.heap.size ≤ b) : Bcm w (w1.setCells B o vs') B o cs' fp := by
 obtain ⟨vs,h1,h2,h3⟩ := h
 have e := hb.block B h1.lt
 have hP1 := h1.of_block e hb.size
 have hlen := owL_len h2
 have hlen' := owL_len h'
 have hw := Wrt.setCells B vs' o w1
 have hlt := h1.lt
 have hf'B : ¬ f' B := fun k => by have := hf B k;omega
 have hsome : ∀ j,j < vs'.length → (w1.cell? ⟨B,o + j,none⟩).isSome = true := fun j hj => by
  rw [hP1.cell j (by omega),List.getElem?_eq_getElem (by omega)]
  rfl
 refine ⟨⟨f',⟨vs',⟨fun j hj => ?_,fun j hj => ?_,Nat.lt_of_lt_of_le hP1.lt hw.size⟩,owL_wrt h' hw (fun b hb' e' => hf'B (e' ▸ hb')),hf'B⟩,fun b hb' => .inr (hf b hb')⟩,fun j hj => ?_,fun j => ?_, ?_⟩
 ·rw [World.cell?_setCells_in B vs' o w1 hsome j hj,List.getElem?_eq_getElem hj]
 ·rw [frz_setCells];exact hP1.free j (by omega)
 ·rw [World.cell?_setCells_out B vs' o w1 _ (fun _ _ => by simp only;omega)]
  exact World.cell?_of_block e
 ·rw [frz_setCells];simp only [World.frozen?,e]
 ·exact (Wrt.of_below (f := fun b => fp b ∨ b = B) hb).trans hw (fun b _ k => .inr k)
theorem Mw.rowAll {w X X1 : World} {B o : Nat} {m : Mb} {fp : Fp} {g off c : Nat} (h : Mw w X B o m fp g off c) {k : Nat} (hk : k < m.rows.length) (hb : Below X.heap.size X X1) {r' : Rw} {Ar : Ra} {fr : Fp} (hr : owL X1 (rwCels r') (rwVals Ar r') fr) (hfr : ∀ b,fr b → X.heap.size ≤ b) :
  Mw w ((((((((X1.setCell ⟨g,off + k * 8,none⟩ (.int .i64 r'.ver)).setCell ⟨g,off + k * 8 + 1,none⟩ (.slice Ar.ta r'.txt.length Ar.tc)).setCell ⟨g,off + k * 8 + 2,none⟩ (.slice Ar.ga r'.got.length Ar.gc)).setCell ⟨g,off + k * 8 + 3,none⟩ (.slice Ar.sa r'.sus.length Ar.sc)).setCell ⟨g,off + k * 8 + 4,none⟩ (.bool r'.wed)).setCell ⟨g,off + k * 8 + 5,none⟩ (.bool r'.rdy)).setCell ⟨g,off + k * 8 + 6,none⟩ (.int .i64 r'.by_)).setCell ⟨g,off + k * 8 + 7,none⟩ (.slice Ar.ma r'.trm.length Ar.mc)) B o { m with rows := m.rows.set k r' } fp g off c := by
 obtain ⟨fp1,hp,hf1,hgo⟩ := h.bcm.next
 obtain ⟨g',off',c',f,h1,hgB,hfg,hfs,hpl,hput⟩ := hp.el (F := rw8) rw8_len (by omega) (j := 2) (L := m.rows) rfl (rowN_at hk)
 have e := Option.some.inj (h1.symm.trans h.rws)
 cases e
 have hA := hpl.all hb (ow_rw8 hr) rfl hfr
 have hB := hgo _ (mb5 { m with rows := m.rows.set k r' }) rfl (hput _ r' hA)
 refine ⟨hB, ?_⟩
 have hr1 : X1.cell? ⟨B,o + 2,none⟩ = some (.slice (some ⟨g,off,none⟩) m.rows.length c) := (World.cell?_of_block (hb.block B hp.lt)).trans h.rws
 have := World.cell?_setCells_out g (rwC Ar r').toList (off + k * 8) X1 ⟨B,o + 2,none⟩ (fun e _ => absurd e.symm hgB)
 have e2 := this.trans hr1
 simp only [List.length_set]
 exact e2
theorem Mw.free {w X : World} {B o : Nat} {m : Mb} {fp : Fp} {g off c : Nat} (h : Mw w X B o m fp g off c) {k : Nat} (hk : k < m.rows.length) : (X.frozen? ⟨g,off + k * 8,none⟩ = false ∧ X.frozen? ⟨g,off + k * 8 + 1,none⟩ = false ∧ X.frozen? ⟨g,off + k * 8 + 2,none⟩ = false ∧ X.frozen? ⟨g,off + k * 8 + 3,none⟩ = false) ∧ X.frozen? ⟨g,off + k * 8 + 4,none⟩ = false ∧ X.frozen? ⟨g,off + k * 8 + 5,none⟩ = false ∧ X.frozen? ⟨g,off + k * 8 + 6,none⟩ = false ∧ X.frozen? ⟨g,off + k * 8 + 7,none⟩ = false := by
 obtain ⟨fp1,hp,hf1,hgo⟩ := h.bcm.next
 obtain ⟨g',off',c',f,h1,hgB,hfg,hfs,⟨vs,hpc,hov,_⟩,hput⟩ := hp.el (F := rw8) rw8_len (by omega) (j := 2) (L := m.rows) rfl (rowN_at hk)
 have e := Option.some.inj (h1.symm.trans h.rws)
 cases e
 have hl : vs.length = 8 := owL_len hov
 exact ⟨⟨hpc.free 0 (by omega),hpc.free 1 (by omega),hpc.free 2 (by omega),hpc.free 3 (by omega)⟩,hpc.free 4 (by omega),hpc.free 5 (by omega),hpc.free 6 (by omega),hpc.free 7 (by omega)⟩
set_option maxRecDepth 100000 in
set_option maxHeartbeats 6400000 in
theorem hrdSp_any (B o : Nat) (m : Mb) (i n : Nat) (fr : Int) (Ar : Ra) (r : Rw) (fp : Fp) (w : World) (h : Plc w B o (mb5 m) fp) (ok : OkM m i n) (hrw : RwS w Ar r) (h6 : I64v fr) :
  Calls Tryz.prog 78 #[.pointer (some ⟨B,o,none⟩),.int .i64 fr,rwV Ar r] w fun e w' => e = .returned (.bool (heardMb m fr r).2) ∧ Bcm w w' B o (mb5 (heardMb m fr r).1) fp := by
 have hmix := mixed17
 have hil : i < m.rows.length := by rw [ok.len];exact ok.lt
 obtain ⟨g,off,c,M00⟩ := Mw.start h (by omega)
 have hB0 := oneA16 w (.cells (rwC Ar r) 37)
 have hx := Bx.new w 37 (rwC Ar r)
 have M0 := M00.step hB0
 have hrs0 := hrw.below hB0
 unfold rwV
 unfold rwC at *
 generalize hW : w.alloc (.cells #[.int .i64 r.ver,.slice Ar.ta r.txt.length Ar.tc,.slice Ar.ga r.got.length Ar.gc,.slice Ar.sa r.sus.length Ar.sc,.bool r.wed,.bool r.rdy,.int .i64 r.by_,.slice Ar.ma r.trm.length Ar.mc] 37) = W at *
 have HX : Hid (Bx W w.heap.size 37 #[.int .i64 r.ver,.slice Ar.ta r.txt.length Ar.tc,.slice Ar.ga r.got.length Ar.gc,.slice Ar.sa r.sus.length Ar.sc,.bool r.wed,.bool r.rdy,.int .i64 r.by_,.slice Ar.ma r.trm.length Ar.mc]) := hx
 have HM0 : Hid (Mw w W B o m fp g off c) := M0
 have HRS : Hid (RwS W Ar r) := hrs0
 obtain ⟨c0,c1,c4⟩ := M0.id'
 have c2 := M0.rws
 rw [ok.hid] at c0
 rw [ok.hn] at c1
 obtain ⟨Ak,⟨⟨d0,d1,d2,d3⟩,d4,d5,d6,d7⟩,hrs⟩ := M0.row ok.fit hil
 obtain ⟨⟨x0,x1,x2,x3⟩,x4,x5,x6,x7⟩ := Bx.r8 hx
 have hr := ok.ok i ok.lt
 have hn5 := hr.n5
 have wn : wrap64 ((n : Int) - 1) = (n : Int) - 1 := by unfold wrap64;omega
 have i0 : (0 : Int) ≤ (i : Int) := by omega
 have i1 : (i : Int) < (m.rows.length : Int) := by omega
 have HD : Hid (heardMb m fr r = if inB fr 0 ((n : Int) - 1) = false ∨ fr = (i : Int) ∨ fr ∈ (rowN m.rows i).sus ∨ m.done = true ∨ okRw r (n : Int) = false ∨ r.ver ≤ (rowN m.rows fr.toNat).ver then (m,false) else ({ m with rows := m.rows.set fr.toNat r },true)) := by
  have e : m.i = i := by unfold Mb.i;rw [ok.hid];rfl
  rw [Hid,heardMb,Mb.own,e,ok.hid,ok.hn]
 have KI : ∀ (q : Bk W) (a b d : Int),Calls Tryz.prog 73 #[.int .i64 a,.int .i64 b,.int .i64 d] q.w fun e w' => e = .returned (.bool (inB a b d)) ∧ Below q.w.heap.size q.w w' := fun q a b d => (l1In_any a b d q.w).mono (fun e w' h => ⟨h.1,by rw [h.2];exact Below.refl _ _⟩)
 have C1 : ∀ q : Bk W,Calls Tryz.prog 73 #[.int .i64 fr,.int .i64 0,.int .i64 ((n : Int) - 1)] q.w fun e w' => e = .returned (.bool (inB fr 0 ((n : Int) - 1))) ∧ Below q.w.heap.size q.w w' := fun q => KI q _ _ _
 have C2 : ∀ q : Bk W,Calls Tryz.prog 76 #[.slice Ak.sa (rowN m.rows i).sus.length Ak.sc,.int .i64 fr] q.w fun e w' => e = .returned (.bool (decide (fr ∈ (rowN m.rows i).sus))) ∧ Below q.w.heap.size q.w w' := fun q => (l1Has_any Ak.sa (rowN m.rows i).sus.length Ak.sc fr (rowN m.rows i).sus q.w (hrs.sus.below q.h (Nat.le_refl _)) hrs.ms).mono (fun e w' h => ⟨h.1,by rw [h.2];exact Below.refl _ _⟩)
 have C3 : ∀ q : Bk W,Calls Tryz.prog 75 #[.agg #[.int .i64 r.ver,.slice Ar.ta r.txt.length Ar.tc,.slice Ar.ga r.got.length Ar.gc,.slice Ar.sa r.sus.length Ar.sc,.bool r.wed,.bool r.rdy,.int .i64 r.by_,.slice Ar.ma r.trm.length Ar.mc],.int .i64 (n : Int)] q.w fun e w' => e = .returned (.bool (okRw r (n : Int))) ∧ Below q.w.heap.size q.w w' := fun q => rowS_any Ar r (n : Int) q.w (hrs0.below q.h)
 have T : ∀ {x v},W.cell? x = some v → ∀ q : Bk W,q.w.cell? x = some v := fun h q => (q.h.cell (World.block_lt_of_cell? _ _ h)).trans h
 have p0 := T c0
 have p1 := T c1
 have p2 := T c2
 have p4 := T c4
 have s3 := T d3
 have y0 := T x0
 have y1 := T x1
 have y2 := T x2
 have y3 := T x3
 have y4 := T x4
 have y5 := T x5
 have y6 := T x6
 have y7 := T x7
 by_cases e1 : inB fr 0 ((n : Int) - 1) = true
 rotate_left
 ·have e1' : inB fr 0 ((n : Int) - 1) = false := by simpa using e1
  have HZ : Hid (heardMb m fr r = (m,false)) := by rw [Hid,HD.out,if_pos (.inl e1')]
  rw [e1'] at C1
  clear c0 c1 c2 c4 d0 d1 d2 d3 d4 d5 d6 d7 x0 x1 x2 x3 x4 x5 x6 x7 T KI hrs hrs0 M0 M00 hB0 hx h hrw HD
  go_enter Tryz.func78,Tryz.ntmps78
  go_wp2_with fail
  refine wp_region_bk (by kernel_rfl) (by kernel_rfl) ?_
  repeat (go_big_quiet_step ((first | (go_at_call 73;exact bk_call _ (C1 _)) | (go_at_call 76;exact bk_call _ (C2 _)) | (go_at_call 75;exact bk_call _ (C3 _)) | rfl)))
  refine wpQuiet_nil ?_
  intro wE hw'
  obtain ⟨⟨w11,hb11⟩,hw''⟩ := hw'
  have hwe : wE = w11 := hw''
  clear hw''
  subst hwe
  have HMe : Hid (Mw w wE B o m fp g off c) := HM0.out.step hb11
  clear p0 p1 p2 p4 s3 y0 y1 y2 y3 y4 y5 y6 y7 C1 C2 C3
  go_wp2
  go_ret
  exact ⟨ret_bool (by rw [HZ.out]),by rw [HZ.out];exact HMe.out.bcm⟩
 rw [e1] at C1
 have hfr := inB7.1 e1
 obtain ⟨F,rfl⟩ : ∃ F : Nat,fr = (F : Int) := ⟨fr.toNat,by omega⟩
 have hFl : F < m.rows.length := by rw [ok.len];omega
 have F0 : (0 : Int) ≤ (F : Int) := by omega
 have F1 : (F : Int) < (m.rows.length : Int) := by omega
 obtain ⟨Af,⟨⟨f0,_,_,_⟩,_⟩,_⟩ := M0.row ok.fit hFl
 have s0 := T f0
 have HCl := f0
 clear f0
 have HD : Hid (heardMb m (F : Int) r = if (F : Int) = (i : Int) ∨ (F : Int) ∈ (rowN m.rows i).sus ∨ m.done = true ∨ okRw r (n : Int) = false ∨ r.ver ≤ (rowN m.rows F).ver then (m,false) else ({ m with rows := m.rows.set F r },true)) := by
  rw [Hid,HD.out,e1]
  simp
 clear e1
 by_cases h2 : (F : Int) = (i : Int)
 ·have HZ : Hid (heardMb m (F : Int) r = (m,false)) := by rw [Hid,HD.out,if_pos (.inl h2)]
  have g2 : ((F : Int) == (i : Int)) = true := by rw [h2];simp
  clear h2
  clear c0 c1 c2 c4 d0 d1 d2 d3 d4 d5 d6 d7 x0 x1 x2 x3 x4 x5 x6 x7 T KI hrs hrs0 M0 M00 hB0 hx h hrw HD HCl
  go_enter Tryz.func78,Tryz.ntmps78
  go_wp2_with fail
  refine wp_region_bk (by kernel_rfl) (by kernel_rfl) ?_
  repeat (go_big_quiet_step ((first | (go_at_call 73;exact bk_call _ (C1 _)) | (go_at_call 76;exact bk_call _ (C2 _)) | (go_at_call 75;exact bk_call _ (C3 _)) | rfl)))
  refine wpQuiet_nil ?_
  intro wE hw'
  obtain ⟨⟨w11,hb11⟩,hw''⟩ := hw'
  have hwe : wE = w11 := hw''
  clear hw''
  subst hwe
  have HMe : Hid (Mw w wE B o m fp g off c) := HM0.out.step hb11
  clear p0 p1 p2 p4 s3 y0 y1 y2 y3 y4 y5 y6 y7 C1 C2 C3 s0
  go_wp2
  go_ret
  exact ⟨ret_bool (by rw [HZ.out]),by rw [HZ.out];exact HMe.out.bcm⟩
 have g2 : ((F : Int) == (i : Int)) = false := by simpa using h2
 by_cases h3 : (F : Int) ∈ (rowN m.rows i).sus
 ·have HZ : Hid (heardMb m (F : Int) r = (m,false)) := by rw [Hid,HD.out,if_pos (.inr (.inl h3))]
  rw [decide_eq_true h3] at C2
  clear h3
  clear c0 c1 c2 c4 d0 d1 d2 d3 d4 d5 d6 d7 x0 x1 x2 x3 x4 x5 x6 x7 T KI hrs hrs0 M0 M00 hB0 hx h hrw HD HCl
  go_enter Tryz.func78,Tryz.ntmps78
  go_wp2_with fail
  refine wp_region_bk (by kernel_rfl) (by kernel_rfl) ?_
  repeat (go_big_quiet_step ((first | (go_at_call 73;exact bk_call _ (C1 _)) | (go_at_call 76;exact bk_call _ (C2 _)) | (go_at_call 75;exact bk_call _ (C3 _)) | rfl)))
  refine wpQuiet_nil ?_
  intro wE hw'
  obtain ⟨⟨w11,hb11⟩,hw''⟩ := hw'
  have hwe : wE = w11 := hw''
  clear hw''
  subst hwe
  have HMe : Hid (Mw w wE B o m fp g off c) := HM0.out.step hb11
  clear p0 p1 p2 p4 s3 y0 y1 y2 y3 y4 y5 y6 y7 C1 C2 C3 s0
  go_wp2
  go_ret
  exact ⟨ret_bool (by rw [HZ.out]),by rw [HZ.out];exact HMe.out.bcm⟩
 rw [decide_eq_false h3] at C2
 by_cases h4 : m.done = true
 ·have HZ : Hid (heardMb m (F : Int) r = (m,false)) := by rw [Hid,HD.out,if_pos (.inr (.inr (.inl h4)))]
  rw [h4] at p4
  clear h4
  clear c0 c1 c2 c4 d0 d1 d2 d3 d4 d5 d6 d7 x0 x1 x2 x3 x4 x5 x6 x7 T KI hrs hrs0 M0 M00 hB0 hx h hrw HD HCl
  go_enter Tryz.func78,Tryz.ntmps78
  go_wp2_with fail
  refine wp_region_bk (by kernel_rfl) (by kernel_rfl) ?_
  repeat (go_big_quiet_step ((first | (go_at_call 73;exact bk_call _ (C1 _)) | (go_at_call 76;exact bk_call _ (C2 _)) | (go_at_call 75;exact bk_call _ (C3 _)) | rfl)))
  refine wpQuiet_nil ?_
  intro wE hw'
  obtain ⟨⟨w11,hb11⟩,hw''⟩ := hw'
  have hwe : wE = w11 := hw''
  clear hw''
  subst hwe
  have HMe : Hid (Mw w wE B o m fp g off c) := HM0.out.step hb11
  clear p0 p1 p2 p4 s3 y0 y1 y2 y3 y4 y5 y6 y7 C1 C2 C3 s0
  go_wp2
  go_ret
  exact ⟨ret_bool (by rw [HZ.out]),by rw [HZ.out];exact HMe.out.bcm⟩
 rw [show m.done = false by simpa using h4] at p4
 by_cases h5 : okRw r (n : Int) = false
 ·have HZ : Hid (heardMb m (F : Int) r = (m,false)) := by rw [Hid,HD.out,if_pos (.inr (.inr (.inr (.inl h5))))]
  rw [h5] at C3
  clear h5
  clear c0 c1 c2 c4 d0 d1 d2 d3 d4 d5 d6 d7 x0 x1 x2 x3 x4 x5 x6 x7 T KI hrs hrs0 M0 M00 hB0 hx h hrw HD HCl
  go_enter Tryz.func78,Tryz.ntmps78
  go_wp2_with fail
  refine wp_region_bk (by kernel_rfl) (by kernel_rfl) ?_
  repeat (go_big_quiet_step ((first | (go_at_call 73;exact bk_call _ (C1 _)) | (go_at_call 76;exact bk_call _ (C2 _)) | (go_at_call 75;exact bk_call _ (C3 _)) | rfl)))
  refine wpQuiet_nil ?_
  intro wE hw'
  obtain ⟨⟨w11,hb11⟩,hw''⟩ := hw'
  have hwe : wE = w11 := hw''
  clear hw''
  subst hwe
  have HMe : Hid (Mw w wE B o m fp g off c) := HM0.out.step hb11
  clear p0 p1 p2 p4 s3 y0 y1 y2 y3 y4 y5 y6 y7 C1 C2 C3 s0
  go_wp2
  go_ret
  exact ⟨ret_bool (by rw [HZ.out]),by rw [HZ.out];exact HMe.out.bcm⟩
 have h5' : okRw r (n : Int) = true := by simpa using h5
 rw [h5'] at C3
 by_cases h6' : r.ver ≤ (rowN m.rows F).ver
 ·have HZ : Hid (heardMb m (F : Int) r = (m,false)) := by rw [Hid,HD.out,if_pos (.inr (.inr (.inr (.inr h6'))))]
  have g6 : decide (r.ver ≤ (rowN m.rows F).ver) = true := by simpa using h6'
  clear c0 c1 c2 c4 d0 d1 d2 d3 d4 d5 d6 d7 x0 x1 x2 x3 x4 x5 x6 x7 T KI hrs hrs0 M0 M00 hB0 hx h hrw HD HCl
  go_enter Tryz.func78,Tryz.ntmps78
  go_wp2_with fail
  refine wp_region_bk (by kernel_rfl) (by kernel_rfl) ?_
  repeat (go_big_quiet_step ((first | (go_at_call 73;exact bk_call _ (C1 _)) | (go_at_call 76;exact bk_call _ (C2 _)) | (go_at_call 75;exact bk_call _ (C3 _)) | rfl)))
  refine wpQuiet_nil ?_
  intro wE hw'
  obtain ⟨⟨w11,hb11⟩,hw''⟩ := hw'
  have hwe : wE = w11 := hw''
  clear hw''
  subst hwe
  have HMe : Hid (Mw w wE B o m fp g off c) := HM0.out.step hb11
  clear p0 p1 p2 p4 s3 y0 y1 y2 y3 y4 y5 y6 y7 C1 C2 C3 s0
  go_wp2
  go_ret
  exact ⟨ret_bool (by rw [HZ.out]),by rw [HZ.out];exact HMe.out.bcm⟩
 have g6 : decide (r.ver ≤ (rowN m.rows F).ver) = false := by simpa using h6'
 have HZ : Hid (heardMb m (F : Int) r = ({ m with rows := m.rows.set F r },true)) := by rw [Hid,HD.out,if_neg];rintro (k | k | k | k | k) <;> contradiction
 have hln := (okRw_iff.1 h5').ln
 clear h2 h3 h4 h5
 clear c0 c1 c2 c4 d0 d1 d2 d3 d4 d5 d6 d7 x0 x1 x2 x3 x4 x5 x6 x7 T KI hrs hrs0 M0 M00 hB0 hx h hrw HD HCl
 go_enter Tryz.func78,Tryz.ntmps78
 go_wp2_with fail
 refine wp_region_bk (by kernel_rfl) (by kernel_rfl) ?_
 repeat (go_big_quiet_step ((first | (go_at_call 73;exact bk_call _ (C1 _)) | (go_at_call 76;exact bk_call _ (C2 _)) | (go_at_call 75;exact bk_call _ (C3 _)) | rfl)))
 refine wpQuiet_nil ?_
 intro wE hw'
 obtain ⟨⟨w11,hb11⟩,hw''⟩ := hw'
 have hwe : wE = w11 := hw''
 clear hw''
 subst hwe
 have M1 := HM0.out.step hb11
 have HMe : Hid (Mw w wE B o m fp g off c) := M1
 have HXe : Hid (Bx wE w.heap.size 37 #[.int .i64 r.ver,.slice Ar.ta r.txt.length Ar.tc,.slice Ar.ga r.got.length Ar.gc,.slice Ar.sa r.sus.length Ar.sc,.bool r.wed,.bool r.rdy,.int .i64 r.by_,.slice Ar.ma r.trm.length Ar.mc]) := HX.out.below hb11
 have HRe : Hid (RwS wE Ar r) := HRS.out.below hb11
 clear p0 p1 p2 p4 s3 y0 y1 y2 y3 y4 y5 y6 y7 C1 C2 C3 s0 M1
 go_wp2_with fail
 have KS : ∀ X,Below wE.heap.size wE X → (X.cell? ⟨B,o + 2,none⟩ = some (.slice (some ⟨g,off,none⟩) m.rows.length c) ∧ X.cell? ⟨w.heap.size,0,none⟩ = some (.int .i64 r.ver) ∧ X.cell? ⟨w.heap.size,1,none⟩ = some (.slice Ar.ta r.txt.length Ar.tc) ∧ X.cell? ⟨w.heap.size,2,none⟩ = some (.slice Ar.ga r.got.length Ar.gc) ∧ X.cell? ⟨w.heap.size,3,none⟩ = some (.slice Ar.sa r.sus.length Ar.sc) ∧ X.cell? ⟨w.heap.size,4,none⟩ = some (.bool r.wed) ∧ X.cell? ⟨w.heap.size,5,none⟩ = some (.bool r.rdy) ∧ X.cell? ⟨w.heap.size,6,none⟩ = some (.int .i64 r.by_) ∧ X.cell? ⟨w.heap.size,7,none⟩ = some (.slice Ar.ma r.trm.length Ar.mc)) := fun X hX => by
  obtain ⟨⟨x0,x1,x2,x3⟩,x4,x5,x6,x7⟩ := Bx.r8 (HXe.out.below hX)
  exact ⟨(HMe.out.step hX).rws,x0,x1,x2,x3,x4,x5,x6,x7⟩
 have hbd : Below wE.heap.size wE wE.drew := (Same.drewN wE 1).below
 refine gt_begin (S := fun X : World => X.cell? ⟨B,o + 2,none⟩ = some (.slice (some ⟨g,off,none⟩) m.rows.length c) ∧ X.cell? ⟨w.heap.size,0,none⟩ = some (.int .i64 r.ver) ∧ X.cell? ⟨w.heap.size,1,none⟩ = some (.slice Ar.ta r.txt.length Ar.tc) ∧ X.cell? ⟨w.heap.size,2,none⟩ = some (.slice Ar.ga r.got.length Ar.gc) ∧ X.cell? ⟨w.heap.size,3,none⟩ = some (.slice Ar.sa r.sus.length Ar.sc) ∧ X.cell? ⟨w.heap.size,4,none⟩ = some (.bool r.wed) ∧ X.cell? ⟨w.heap.size,5,none⟩ = some (.bool r.rdy) ∧ X.cell? ⟨w.heap.size,6,none⟩ = some (.int .i64 r.by_) ∧ X.cell? ⟨w.heap.size,7,none⟩ = some (.slice Ar.ma r.trm.length Ar.mc)) 8 hmix (by kernel_rfl) ?_
 have hHeld : (fun X : World => X.cell? ⟨B,o + 2,none⟩ = some (.slice (some ⟨g,off,none⟩) m.rows.length c) ∧ X.cell? ⟨w.heap.size,0,none⟩ = some (.int .i64 r.ver) ∧ X.cell? ⟨w.heap.size,1,none⟩ = some (.slice Ar.ta r.txt.length Ar.tc) ∧ X.cell? ⟨w.heap.size,2,none⟩ = some (.slice Ar.ga r.got.length Ar.gc) ∧ X.cell? ⟨w.heap.size,3,none⟩ = some (.slice Ar.sa r.sus.length Ar.sc) ∧ X.cell? ⟨w.heap.size,4,none⟩ = some (.bool r.wed) ∧ X.cell? ⟨w.heap.size,5,none⟩ = some (.bool r.rdy) ∧ X.cell? ⟨w.heap.size,6,none⟩ = some (.int .i64 r.by_) ∧ X.cell? ⟨w.heap.size,7,none⟩ = some (.slice Ar.ma r.trm.length Ar.mc)) wE.drew := (KS _ hbd)
 refine gt_take (i := 0) (v := ?_) rfl (by kernel_rfl) (by kernel_rfl) (by kernel_rfl) (by kernel_rfl) (fun _ _ _ h => h) (Or.inl ⟨by rfl, ?_⟩) hHeld ?_
 rotate_left
 ·(intro X hSX;(try dsimp only at hSX);obtain ⟨g0,g1,g2,g3,g4,g5,g6,g7,g8⟩ := hSX;go_simp;try with_reducible rfl)
 try simp only [Act.put,List.setIfInBounds_toArray,List.set_cons_zero,List.set_cons_succ]
 refine gt_take (i := 1) (v := ?_) rfl (by kernel_rfl) (by kernel_rfl) (by kernel_rfl) (by kernel_rfl) (fun _ _ _ h => h) (Or.inl ⟨by rfl, ?_⟩) hHeld ?_
 rotate_left
 ·(intro X hSX;(try dsimp only at hSX);obtain ⟨g0,g1,g2,g3,g4,g5,g6,g7,g8⟩ := hSX;go_simp;try with_reducible rfl)
 try simp only [Act.put,List.setIfInBounds_toArray,List.set_cons_zero,List.set_cons_succ]
 refine gt_take (i := 2) (v := ?_) rfl (by kernel_rfl) (by kernel_rfl) (by kernel_rfl) (by kernel_rfl) (fun _ _ _ h => h) (Or.inl ⟨by rfl, ?_⟩) hHeld ?_
 rotate_left
 ·(intro X hSX;(try dsimp only at hSX);obtain ⟨g0,g1,g2,g3,g4,g5,g6,g7,g8⟩ := hSX;go_simp;try with_reducible rfl)
 try simp only [Act.put,List.setIfInBounds_toArray,List.set_cons_zero,List.set_cons_succ]
 refine gt_take (i := 3) (v := ?_) rfl (by kernel_rfl) (by kernel_rfl) (by kernel_rfl) (by kernel_rfl) (fun _ _ _ h => h) (Or.inl ⟨by rfl, ?_⟩) hHeld ?_
 rotate_left
 ·(intro X hSX;(try dsimp only at hSX);obtain ⟨g0,g1,g2,g3,g4,g5,g6,g7,g8⟩ := hSX;go_simp;try with_reducible rfl)
 try simp only [Act.put,List.setIfInBounds_toArray,List.set_cons_zero,List.set_cons_succ]
 refine gt_take (i := 4) (v := ?_) rfl (by kernel_rfl) (by kernel_rfl) (by kernel_rfl) (by kernel_rfl) (fun _ _ _ h => h) (Or.inl ⟨by rfl, ?_⟩) hHeld ?_
 rotate_left
 ·(intro X hSX;(try dsimp only at hSX);obtain ⟨g0,g1,g2,g3,g4,g5,g6,g7,g8⟩ := hSX;go_simp;try with_reducible rfl)
 try simp only [Act.put,List.setIfInBounds_toArray,List.set_cons_zero,List.set_cons_succ]
 refine gt_take (i := 5) (v := ?_) rfl (by kernel_rfl) (by kernel_rfl) (by kernel_rfl) (by kernel_rfl) (fun _ _ _ h => h) (Or.inl ⟨by rfl, ?_⟩) hHeld ?_
 rotate_left
 ·(intro X hSX;(try dsimp only at hSX);obtain ⟨g0,g1,g2,g3,g4,g5,g6,g7,g8⟩ := hSX;go_simp;try with_reducible rfl)
 try simp only [Act.put,List.setIfInBounds_toArray,List.set_cons_zero,List.set_cons_succ]
 refine gt_one (i := 6) rfl (by kernel_rfl) (by kernel_rfl) (fun K hK => ?_)
 go_simp
 go_at_call 127
 refine (cpyRw_any Ar r wE.drew (HRe.out.below hbd) hln.1 hln.2.1 hln.2.2.1 hln.2.2.2).mono ?_
 rintro e w1 ⟨As,rfl,fr,hr1,hr2,hr3⟩
 have hb1 : Below wE.heap.size wE w1 := hbd.trans (hr3.mono hbd.size)
 have M2 := HMe.out.step hb1
 obtain ⟨Af2,⟨⟨f0,f1,f2,f3⟩,f4,f5,f6,f7⟩,_⟩ := M2.row ok.fit hFl
 obtain ⟨⟨z0,z1,z2,z3⟩,z4,z5,z6,z7⟩ := M2.free hFl
 have HM3 := HMe.out.rowAll hFl hb1 hr1 (fun b hb => hr2 b hb)
 refine hK.out _ _ (KS _ hb1) (fun hHeldN => ?_)
 clear hK hHeld
 have hHeld := hHeldN
 try simp only [Act.put,List.setIfInBounds_toArray,List.set_cons_zero,List.set_cons_succ]
 refine gt_take (i := 7) (v := ?_) rfl (by kernel_rfl) (by kernel_rfl) (by kernel_rfl) (by kernel_rfl) (fun _ _ _ h => h) (Or.inl ⟨by rfl, ?_⟩) hHeld ?_
 rotate_left
 ·(intro X hSX;(try dsimp only at hSX);obtain ⟨g0,g1,g2,g3,g4,g5,g6,g7,g8⟩ := hSX;go_simp;try with_reducible rfl)
 try simp only [Act.put,List.setIfInBounds_toArray,List.set_cons_zero,List.set_cons_succ]
 unfold rwV rwC
 refine gt_last rfl (by kernel_rfl) (by kernel_rfl) (fun K hK => ?_)
 go_simp
 refine hK.out _ _ ?_
 have HB3 := HM3.bcm
 have HB4 : Hid (Bcm w _ B o (mb5 { m with rows := m.rows.set F r }) fp) := HB3
 clear HM3 HB3 M2 f0 f1 f2 f3 f4 f5 f6 f7 z0 z1 z2 z3 z4 z5 z6 z7 KS hbd hr1 hr2 hr3 hb1
 go_wp2
 go_ret
 exact ⟨ret_bool (by rw [HZ.out]),by rw [HZ.out];exact HB4.out⟩
end Go.Proofs.YthioodpmgifomaaGreat
namespace Go.Proofs.YthioodpmgifomaaGreat
set_option linter.unusedVariables false
set_option linter.unusedSimpArgs false
open Go.RowKit Go.Sort
def sayM (m : Mb) (t : List UInt8) : Mb × Bool := if okMb m = true then sayMb m t else (zeroMb,false)
def dbtM (m : Mb) (who : Int) : Mb × Bool := if okMb m = true then doubtMb m who else (zeroMb,false)
def hrdM (m : Mb) (fr : Int) (r : Rw) : Mb × Bool := if okMb m = true then heardMb m fr r else (zeroMb,false)
theorem Bx.pc {w : World} {B : Nat} {T : TypeId} {cs : Array Value} (h : Bx w B T cs) : Pc w B 0 cs.toList :=
 ⟨fun j hj => by
  have hj' : j < cs.size := by simpa using hj
  rw [Nat.zero_add,h.at j (Array.getElem?_eq_getElem hj')]
  simp [hj'],fun j _ => by rw [Nat.zero_add];exact h.f j,h.lt⟩
theorem box_plc {w : World} {B : Nat} {T : TypeId} {A : Ma} {m : Mb} {fp : Fp} (h : Bx w B T (mbC A m)) (hl : owL w (mbCels m) (mbVals A m) fp) (hB : ¬ fp B) : Plc w B 0 (mb5 m) fp := ⟨_,h.pc,ow_mb5 hl,hB⟩
theorem box_done {w X Y : World} {B r : Nat} {m : Mb} {fp : Fp} (h : Bcm X Y B 0 (mb5 m) fp) (hf : ∀ b,fp b → w.heap.size ≤ b ∧ b ≠ r) (hB : w.heap.size ≤ B) (hrB : r ≠ B) (hr : w.heap.size ≤ r) (hrX : r < X.heap.size) (hw : Below w.heap.size w X) {T : TypeId} {Z : Array Value} (hz : Bx X r T Z) : ∃ A : Ma,C5 Y B 0 (.int .i64 m.id) (.int .i64 m.n) (.slice A.ra m.rows.length A.rc) (.slice A.sa m.sung.length A.sc) (.bool m.done) ∧ Bx Y r T Z ∧
  ∀ {a b c d e : Value},NewL w (((((Y.setCell ⟨r,0,none⟩ a).setCell ⟨r,1,none⟩ b).setCell ⟨r,2,none⟩ c).setCell ⟨r,3,none⟩ d).setCell ⟨r,4,none⟩ e) (mbCels m) (mbVals A m) := by
 obtain ⟨fp1,hp,hs,_⟩ := h.next
 obtain ⟨vs,hpc,hov,hnB⟩ := hp
 obtain ⟨A,rfl,hl⟩ := mb5_ow hov
 have hl5 : (mbC A m).toList.length = 5 := rfl
 have c := hpc.cell
 have hXs := hw.size
 have hfp : ∀ b,fp1 b → w.heap.size ≤ b ∧ b ≠ r := fun b hb => by
  rcases hs b hb with k | k
  ·exact hf b k
  ·exact ⟨by omega,by omega⟩
 have hbY : Below w.heap.size w Y := h.wrt.below hw hXs (fun b hb => by
  rcases hb with hb | hb
  ·exact (hf b hb).1
  ·omega)
 refine ⟨A,⟨c 0 (by rw [hl5];omega),c 1 (by rw [hl5];omega),c 2 (by rw [hl5];omega),c 3 (by rw [hl5];omega),c 4 (by rw [hl5];omega)⟩,hz.wrt h.wrt (fun k => by
  rcases k with k | k
  ·exact (hf r k).2 rfl
  ·exact hrB k),fun {a b c d e} => ⟨fp1,owL_wrt hl (wrt5 Y r) (fun b hb e => (hfp b hb).2 e),fun b hb => (hfp b hb).1,(wrt5 Y r).below hbY hbY.size (fun b e => by omega)⟩⟩
attribute [local irreducible] sv
set_option maxRecDepth 100000 in
set_option maxHeartbeats 3200000 in
theorem sayS_any (A : Ma) (m : Mb) (t : List UInt8) (w : World) (hv : MbS w A m) (ht : t.length ≤ 1000000000) :
  Calls Tryz.prog 18 #[mbV A m,.string (sv t)] w fun e w' => AnsMf w w' e (sayM m t).1 (sayM m t).2 := by
 have hb0 : Below w.heap.size w ((w.alloc (.cells #[.int .i64 m.id,.int .i64 m.n,.slice A.ra m.rows.length A.rc,.slice A.sa m.sung.length A.sc,.bool m.done] 27)).alloc (.cells #[.int .i64 0,.int .i64 0,.slice none 0 0,.slice none 0 0,.bool false] 27)) := (oneA16 w _).trans ((oneA16 _ _).mono (oneA16 w _).size)
 have hx0 : Bx ((w.alloc (.cells #[.int .i64 m.id,.int .i64 m.n,.slice A.ra m.rows.length A.rc,.slice A.sa m.sung.length A.sc,.bool m.done] 27)).alloc (.cells #[.int .i64 0,.int .i64 0,.slice none 0 0,.slice none 0 0,.bool false] 27)) w.heap.size 27 #[.int .i64 m.id,.int .i64 m.n,.slice A.ra m.rows.length A.rc,.slice A.sa m.sung.length A.sc,.bool m.done] := (Bx.new w _ _).alloc _
 have hz0 : Bx ((w.alloc (.cells #[.int .i64 m.id,.int .i64 m.n,.slice A.ra m.rows.length A.rc,.slice A.sa m.sung.length A.sc,.bool m.done] 27)).alloc (.cells #[.int .i64 0,.int .i64 0,.slice none 0 0,.slice none 0 0,.bool false] 27)) (w.heap.size + 1) 27 #[.int .i64 0,.int .i64 0,.slice none 0 0,.slice none 0 0,.bool false] := by
  have := Bx.new (w.alloc (.cells #[.int .i64 m.id,.int .i64 m.n,.slice A.ra m.rows.length A.rc,.slice A.sa m.sung.length A.sc,.bool m.done] 27)) 27 #[.int .i64 0,.int .i64 0,.slice none 0 0,.slice none 0 0,.bool false]
  simp only [World.size_alloc] at this
  exact this
 have hv0 := hv.below hb0
 unfold mbV mbC
 generalize hWW : (w.alloc (.cells #[.int .i64 m.id,.int .i64 m.n,.slice A.ra m.rows.length A.rc,.slice A.sa m.sung.length A.sc,.bool m.done] 27)).alloc (.cells #[.int .i64 0,.int .i64 0,.slice none 0 0,.slice none 0 0,.bool false] 27) = W0 at *
 have hK := mbkS_any A m W0 hv0
 unfold mbV mbC at hK
 have HX0 : Hid (Bx W0 w.heap.size 27 #[.int .i64 m.id,.int .i64 m.n,.slice A.ra m.rows.length A.rc,.slice A.sa m.sung.length A.sc,.bool m.done]) := hx0
 have HZ0 : Hid (Bx W0 (w.heap.size + 1) 27 #[.int .i64 0,.int .i64 0,.slice none 0 0,.slice none 0 0,.bool false]) := hz0
 have HV0 : Hid (MbS W0 A m) := hv0
 have HB0 : Hid (Below w.heap.size w W0) := hb0
 obtain ⟨c0,c1,c2,c3,c4⟩ := Bx.r5 hx0
 clear hv hb0 hx0 hz0 hv0
 cases hok : okMb m with
 | false =>
  have HZ : Hid (sayM m t = (zeroMb,false)) := by rw [Hid,sayM,hok];rfl
  rw [hok] at hK
  clear hok
  go_enter Tryz.func18,Tryz.ntmps18
  go_wp2_with fail
  refine hK.mono ?_
  rintro e w1 ⟨rfl,hb1⟩
  have hz1 := HZ0.out.below hb1
  have HB1 : Hid (Below w.heap.size w w1) := HB0.out.trans (hb1.mono HB0.out.size)
  obtain ⟨z0,z1,z2,z3,z4⟩ := Bx.r5 hz1
  obtain ⟨f0,f1,f2,f3,f4⟩ := hz1.f5
  clear hz1 hb1 c0 c1 c2 c3 c4 hK
  go_wp2
  refine bodyPost_ret (v := .tuple #[mbV ⟨none,0,none,0⟩ zeroMb,.bool false]) (by simp [results,Tryz.results18,go_sem,mbV,mbC,zeroMb, *]) rfl ?_
  rw [HZ.out]
  exact ⟨_,rfl,ansM_zero ((wrt5 w1 (w.heap.size + 1)).below HB1.out HB1.out.size (fun b h => by omega))⟩
 | true =>
  have HZ : Hid (sayM m t = sayMb m t) := by rw [Hid,sayM,hok];rfl
  obtain ⟨i,n,ok⟩ := okMb_iff.1 hok
  rw [hok] at hK
  clear hok
  go_enter Tryz.func18,Tryz.ntmps18
  go_wp2_with fail
  refine hK.mono ?_
  rintro e w1 ⟨rfl,hb1⟩
  have HB1 : Hid (Below w.heap.size w w1) := HB0.out.trans (hb1.mono HB0.out.size)
  have HZ1 : Hid (Bx w1 (w.heap.size + 1) 27 #[.int .i64 0,.int .i64 0,.slice none 0 0,.slice none 0 0,.bool false]) := HZ0.out.below hb1
  have hC := cpyMb_any A m w1 (HV0.out.below hb1) ok.ln
  unfold mbV mbC at hC
  clear c0 c1 c2 c3 c4 hK
  obtain ⟨c0,c1,c2,c3,c4⟩ := Bx.r5 (HX0.out.below hb1)
  clear hb1
  go_wp2_with fail
  refine hC.mono ?_
  rintro e w2 ⟨A2,rfl,fp,hl2,hf2,hb2⟩
  have hlt2 := owL_lt hl2
  have HB2 : Hid (Below w.heap.size w w2) := HB1.out.trans (hb2.mono HB1.out.size)
  have hba := oneA16 w2 (.cells #[.int .i64 m.id,.int .i64 m.n,.slice A2.ra m.rows.length A2.rc,.slice A2.sa m.sung.length A2.sc,.bool m.done] 27)
  have hxb := Bx.new w2 27 #[.int .i64 m.id,.int .i64 m.n,.slice A2.ra m.rows.length A2.rc,.slice A2.sa m.sung.length A2.sc,.bool m.done]
  have hP : Plc (w2.alloc (.cells #[.int .i64 m.id,.int .i64 m.n,.slice A2.ra m.rows.length A2.rc,.slice A2.sa m.sung.length A2.sc,.bool m.done] 27)) w2.heap.size 0 (mb5 m) fp := box_plc hxb (owL_below hl2 hba) (fun k => by have := hlt2 _ k;omega)
  have HZ3 : Hid (Bx (w2.alloc (.cells #[.int .i64 m.id,.int .i64 m.n,.slice A2.ra m.rows.length A2.rc,.slice A2.sa m.sung.length A2.sc,.bool m.done] 27)) (w.heap.size + 1) 27 #[.int .i64 0,.int .i64 0,.slice none 0 0,.slice none 0 0,.bool false]) := (HZ1.out.below hb2).below hba
  have HB3 : Hid (Below w.heap.size w (w2.alloc (.cells #[.int .i64 m.id,.int .i64 m.n,.slice A2.ra m.rows.length A2.rc,.slice A2.sa m.sung.length A2.sc,.bool m.done] 27))) := HB2.out.trans (hba.mono HB2.out.size)
  have hr1 : (w.heap.size + 1) < w1.heap.size := HZ1.out.lt
  have hs2 := hb2.size
  have hS := saySp_any w2.heap.size 0 m i n t fp _ hP ok ht
  unfold mbV mbC
  generalize hV3 : w2.alloc (.cells #[.int .i64 m.id,.int .i64 m.n,.slice A2.ra m.rows.length A2.rc,.slice A2.sa m.sung.length A2.sc,.bool m.done] 27) = V3 at *
  have HF2 : Hid (∀ b,fp b → w1.heap.size ≤ b) := hf2
  have hB3 : w2.heap.size < V3.heap.size := hxb.lt
  clear hxb hP hl2 hf2 hlt2 hb2 hba c0 c1 c2 c3 c4 hC
  go_wp2_with fail
  refine hS.mono ?_
  rintro e Y ⟨rfl,hBc⟩
  have hsw := HB1.out.size
  obtain ⟨A3,⟨y0,y1,y2,y3,y4⟩,hz3,HN⟩ := box_done (w := w) (r := (w.heap.size + 1)) hBc (fun b hb => by have := HF2.out b hb;exact ⟨by omega,by omega⟩) (by omega) (by omega) (by omega) (by have := HZ3.out.lt;omega) HB3.out HZ3.out
  simp only [Nat.zero_add] at y0 y1 y2 y3 y4
  obtain ⟨z0,z1,z2,z3,z4⟩ := Bx.r5 hz3
  obtain ⟨f0,f1,f2,f3,f4⟩ := hz3.f5
  have HNN : Hid (∀ {a b c d e : Value},NewL w (((((Y.setCell ⟨(w.heap.size + 1),0,none⟩ a).setCell ⟨(w.heap.size + 1),1,none⟩ b).setCell ⟨(w.heap.size + 1),2,none⟩ c).setCell ⟨(w.heap.size + 1),3,none⟩ d).setCell ⟨(w.heap.size + 1),4,none⟩ e) (mbCels (sayMb m t).1) (mbVals A3 (sayMb m t).1)) := HN
  generalize hpm : sayMb m t = pm at *
  clear hS hBc HN hz3 hpm
  go_wp2
  refine bodyPost_ret (v := .tuple #[mbV A3 pm.1,.bool pm.2]) (by simp [results,Tryz.results18,go_sem,mbV,mbC, *]) rfl ?_
  rw [HZ.out]
  exact ⟨_,rfl,HNN.out⟩
set_option maxRecDepth 100000 in
set_option maxHeartbeats 3200000 in
theorem dbtS_any (A : Ma) (m : Mb) (who : Int) (w : World) (hv : MbS w A m) :
  Calls Tryz.prog 22 #[mbV A m,.int .i64 who] w fun e w' => AnsMf w w' e (dbtM m who).1 (dbtM m who).2 := by
 have hb0 : Below w.heap.size w ((w.alloc (.cells #[.int .i64 m.id,.int .i64 m.n,.slice A.ra m.rows.length A.rc,.slice A.sa m.sung.length A.sc,.bool m.done] 27)).alloc (.cells #[.int .i64 0,.int .i64 0,.slice none 0 0,.slice none 0 0,.bool false] 27)) := (oneA16 w _).trans ((oneA16 _ _).mono (oneA16 w _).size)
 have hx0 : Bx ((w.alloc (.cells #[.int .i64 m.id,.int .i64 m.n,.slice A.ra m.rows.length A.rc,.slice A.sa m.sung.length A.sc,.bool m.done] 27)).alloc (.cells #[.int .i64 0,.int .i64 0,.slice none 0 0,.slice none 0 0,.bool false] 27)) w.heap.size 27 #[.int .i64 m.id,.int .i64 m.n,.slice A.ra m.rows.length A.rc,.slice A.sa m.sung.length A.sc,.bool m.done] := (Bx.new w _ _).alloc _
 have hz0 : Bx ((w.alloc (.cells #[.int .i64 m.id,.int .i64 m.n,.slice A.ra m.rows.length A.rc,.slice A.sa m.sung.length A.sc,.bool m.done] 27)).alloc (.cells #[.int .i64 0,.int .i64 0,.slice none 0 0,.slice none 0 0,.bool false] 27)) (w.heap.size + 1) 27 #[.int .i64 0,.int .i64 0,.slice none 0 0,.slice none 0 0,.bool false] := by
  have := Bx.new (w.alloc (.cells #[.int .i64 m.id,.int .i64 m.n,.slice A.ra m.rows.length A.rc,.slice A.sa m.sung.length A.sc,.bool m.done] 27)) 27 #[.int .i64 0,.int .i64 0,.slice none 0 0,.slice none 0 0,.bool false]
  simp only [World.size_alloc] at this
  exact this
 have hv0 := hv.below hb0
 unfold mbV mbC
 generalize hWW : (w.alloc (.cells #[.int .i64 m.id,.int .i64 m.n,.slice A.ra m.rows.length A.rc,.slice A.sa m.sung.length A.sc,.bool m.done] 27)).alloc (.cells #[.int .i64 0,.int .i64 0,.slice none 0 0,.slice none 0 0,.bool false] 27) = W0 at *
 have hK := mbkS_any A m W0 hv0
 unfold mbV mbC at hK
 have HX0 : Hid (Bx W0 w.heap.size 27 #[.int .i64 m.id,.int .i64 m.n,.slice A.ra m.rows.length A.rc,.slice A.sa m.sung.length A.sc,.bool m.done]) := hx0
 have HZ0 : Hid (Bx W0 (w.heap.size + 1) 27 #[.int .i64 0,.int .i64 0,.slice none 0 0,.slice none 0 0,.bool false]) := hz0
 have HV0 : Hid (MbS W0 A m) := hv0
 have HB0 : Hid (Below w.heap.size w W0) := hb0
 obtain ⟨c0,c1,c2,c3,c4⟩ := Bx.r5 hx0
 clear hv hb0 hx0 hz0 hv0
 cases hok : okMb m with
 | false =>
  have HZ : Hid (dbtM m who = (zeroMb,false)) := by rw [Hid,dbtM,hok];rfl
  rw [hok] at hK
  clear hok
  go_enter Tryz.func22,Tryz.ntmps22
  go_wp2_with fail
  refine hK.mono ?_
  rintro e w1 ⟨rfl,hb1⟩
  have hz1 := HZ0.out.below hb1
  have HB1 : Hid (Below w.heap.size w w1) := HB0.out.trans (hb1.mono HB0.out.size)
  obtain ⟨z0,z1,z2,z3,z4⟩ := Bx.r5 hz1
  obtain ⟨f0,f1,f2,f3,f4⟩ := hz1.f5
  clear hz1 hb1 c0 c1 c2 c3 c4 hK
  go_wp2
  refine bodyPost_ret (v := .tuple #[mbV ⟨none,0,none,0⟩ zeroMb,.bool false]) (by simp [results,Tryz.results22,go_sem,mbV,mbC,zeroMb, *]) rfl ?_
  rw [HZ.out]
  exact ⟨_,rfl,ansM_zero ((wrt5 w1 (w.heap.size + 1)).below HB1.out HB1.out.size (fun b h => by omega))⟩
 | true =>
  have HZ : Hid (dbtM m who = doubtMb m who) := by rw [Hid,dbtM,hok];rfl
  obtain ⟨i,n,ok⟩ := okMb_iff.1 hok
  rw [hok] at hK
  clear hok
  go_enter Tryz.func22,Tryz.ntmps22
  go_wp2_with fail
  refine hK.mono ?_
  rintro e w1 ⟨rfl,hb1⟩
  have HB1 : Hid (Below w.heap.size w w1) := HB0.out.trans (hb1.mono HB0.out.size)
  have HZ1 : Hid (Bx w1 (w.heap.size + 1) 27 #[.int .i64 0,.int .i64 0,.slice none 0 0,.slice none 0 0,.bool false]) := HZ0.out.below hb1
  have hC := cpyMb_any A m w1 (HV0.out.below hb1) ok.ln
  unfold mbV mbC at hC
  clear c0 c1 c2 c3 c4 hK
  obtain ⟨c0,c1,c2,c3,c4⟩ := Bx.r5 (HX0.out.below hb1)
  clear hb1
  go_wp2_with fail
  refine hC.mono ?_
  rintro e w2 ⟨A2,rfl,fp,hl2,hf2,hb2⟩
  have hlt2 := owL_lt hl2
  have HB2 : Hid (Below w.heap.size w w2) := HB1.out.trans (hb2.mono HB1.out.size)
  have hba := oneA16 w2 (.cells #[.int .i64 m.id,.int .i64 m.n,.slice A2.ra m.rows.length A2.rc,.slice A2.sa m.sung.length A2.sc,.bool m.done] 27)
  have hxb := Bx.new w2 27 #[.int .i64 m.id,.int .i64 m.n,.slice A2.ra m.rows.length A2.rc,.slice A2.sa m.sung.length A2.sc,.bool m.done]
  have hP : Plc (w2.alloc (.cells #[.int .i64 m.id,.int .i64 m.n,.slice A2.ra m.rows.length A2.rc,.slice A2.sa m.sung.length A2.sc,.bool m.done] 27)) w2.heap.size 0 (mb5 m) fp := box_plc hxb (owL_below hl2 hba) (fun k => by have := hlt2 _ k;omega)
  have HZ3 : Hid (Bx (w2.alloc (.cells #[.int .i64 m.id,.int .i64 m.n,.slice A2.ra m.rows.length A2.rc,.slice A2.sa m.sung.length A2.sc,.bool m.done] 27)) (w.heap.size + 1) 27 #[.int .i64 0,.int .i64 0,.slice none 0 0,.slice none 0 0,.bool false]) := (HZ1.out.below hb2).below hba
  have HB3 : Hid (Below w.heap.size w (w2.alloc (.cells #[.int .i64 m.id,.int .i64 m.n,.slice A2.ra m.rows.length A2.rc,.slice A2.sa m.sung.length A2.sc,.bool m.done] 27))) := HB2.out.trans (hba.mono HB2.out.size)
  have hr1 : (w.heap.size + 1) < w1.heap.size := HZ1.out.lt
  have hs2 := hb2.size
  have hS := dbtSp_any w2.heap.size 0 m i n who fp _ hP ok
  unfold mbV mbC
  generalize hV3 : w2.alloc (.cells #[.int .i64 m.id,.int .i64 m.n,.slice A2.ra m.rows.length A2.rc,.slice A2.sa m.sung.length A2.sc,.bool m.done] 27) = V3 at *
  have HF2 : Hid (∀ b,fp b → w1.heap.size ≤ b) := hf2
  have hB3 : w2.heap.size < V3.heap.size := hxb.lt
  clear hxb hP hl2 hf2 hlt2 hb2 hba c0 c1 c2 c3 c4 hC
  go_wp2_with fail
  refine hS.mono ?_
  rintro e Y ⟨rfl,hBc⟩
  have hsw := HB1.out.size
  obtain ⟨A3,⟨y0,y1,y2,y3,y4⟩,hz3,HN⟩ := box_done (w := w) (r := (w.heap.size + 1)) hBc (fun b hb => by have := HF2.out b hb;exact ⟨by omega,by omega⟩) (by omega) (by omega) (by omega) (by have := HZ3.out.lt;omega) HB3.out HZ3.out
  simp only [Nat.zero_add] at y0 y1 y2 y3 y4
  obtain ⟨z0,z1,z2,z3,z4⟩ := Bx.r5 hz3
  obtain ⟨f0,f1,f2,f3,f4⟩ := hz3.f5
  have HNN : Hid (∀ {a b c d e : Value},NewL w (((((Y.setCell ⟨(w.heap.size + 1),0,none⟩ a).setCell ⟨(w.heap.size + 1),1,none⟩ b).setCell ⟨(w.heap.size + 1),2,none⟩ c).setCell ⟨(w.heap.size + 1),3,none⟩ d).setCell ⟨(w.heap.size + 1),4,none⟩ e) (mbCels (doubtMb m who).1) (mbVals A3 (doubtMb m who).1)) := HN
  generalize hpm : doubtMb m who = pm at *
  clear hS hBc HN hz3 hpm
  go_wp2
  refine bodyPost_ret (v := .tuple #[mbV A3 pm.1,.bool pm.2]) (by simp [results,Tryz.results22,go_sem,mbV,mbC, *]) rfl ?_
  rw [HZ.out]
  exact ⟨_,rfl,HNN.out⟩
set_option maxRecDepth 100000 in
set_option maxHeartbeats 3200000 in
theorem hrdS_any (A : Ma) (m : Mb) (fr : Int) (Ar : Ra) (r : Rw) (w : World) (hv : MbS w A m) (hrw : RwS w Ar r) (h6 : I64v fr) :
  Calls Tryz.prog 23 #[mbV A m,.int .i64 fr,rwV Ar r] w fun e w' => AnsMf w w' e (hrdM m fr r).1 (hrdM m fr r).2 := by
 have hb0 : Below w.heap.size w (((w.alloc (.cells #[.int .i64 m.id,.int .i64 m.n,.slice A.ra m.rows.length A.rc,.slice A.sa m.sung.length A.sc,.bool m.done] 27)).alloc (.cells #[.int .i64 r.ver,.slice Ar.ta r.txt.length Ar.tc,.slice Ar.ga r.got.length Ar.gc,.slice Ar.sa r.sus.length Ar.sc,.bool r.wed,.bool r.rdy,.int .i64 r.by_,.slice Ar.ma r.trm.length Ar.mc] 37)).alloc (.cells #[.int .i64 0,.int .i64 0,.slice none 0 0,.slice none 0 0,.bool false] 27)) := ((oneA16 w _).trans ((oneA16 _ _).mono (oneA16 w _).size)).trans ((oneA16 _ _).mono ((oneA16 w _).trans ((oneA16 _ _).mono (oneA16 w _).size)).size)
 have hx0 : Bx (((w.alloc (.cells #[.int .i64 m.id,.int .i64 m.n,.slice A.ra m.rows.length A.rc,.slice A.sa m.sung.length A.sc,.bool m.done] 27)).alloc (.cells #[.int .i64 r.ver,.slice Ar.ta r.txt.length Ar.tc,.slice Ar.ga r.got.length Ar.gc,.slice Ar.sa r.sus.length Ar.sc,.bool r.wed,.bool r.rdy,.int .i64 r.by_,.slice Ar.ma r.trm.length Ar.mc] 37)).alloc (.cells #[.int .i64 0,.int .i64 0,.slice none 0 0,.slice none 0 0,.bool false] 27)) w.heap.size 27 #[.int .i64 m.id,.int .i64 m.n,.slice A.ra m.rows.length A.rc,.slice A.sa m.sung.length A.sc,.bool m.done] := ((Bx.new w _ _).alloc _).alloc _
 have hxr : Bx (((w.alloc (.cells #[.int .i64 m.id,.int .i64 m.n,.slice A.ra m.rows.length A.rc,.slice A.sa m.sung.length A.sc,.bool m.done] 27)).alloc (.cells #[.int .i64 r.ver,.slice Ar.ta r.txt.length Ar.tc,.slice Ar.ga r.got.length Ar.gc,.slice Ar.sa r.sus.length Ar.sc,.bool r.wed,.bool r.rdy,.int .i64 r.by_,.slice Ar.ma r.trm.length Ar.mc] 37)).alloc (.cells #[.int .i64 0,.int .i64 0,.slice none 0 0,.slice none 0 0,.bool false] 27)) (w.heap.size + 1) 37 #[.int .i64 r.ver,.slice Ar.ta r.txt.length Ar.tc,.slice Ar.ga r.got.length Ar.gc,.slice Ar.sa r.sus.length Ar.sc,.bool r.wed,.bool r.rdy,.int .i64 r.by_,.slice Ar.ma r.trm.length Ar.mc] := by
  have := (Bx.new (w.alloc (.cells #[.int .i64 m.id,.int .i64 m.n,.slice A.ra m.rows.length A.rc,.slice A.sa m.sung.length A.sc,.bool m.done] 27)) 37 #[.int .i64 r.ver,.slice Ar.ta r.txt.length Ar.tc,.slice Ar.ga r.got.length Ar.gc,.slice Ar.sa r.sus.length Ar.sc,.bool r.wed,.bool r.rdy,.int .i64 r.by_,.slice Ar.ma r.trm.length Ar.mc]).alloc (.cells #[.int .i64 0,.int .i64 0,.slice none 0 0,.slice none 0 0,.bool false] 27)
  rw [World.size_alloc] at this
  exact this
 have hz0 : Bx (((w.alloc (.cells #[.int .i64 m.id,.int .i64 m.n,.slice A.ra m.rows.length A.rc,.slice A.sa m.sung.length A.sc,.bool m.done] 27)).alloc (.cells #[.int .i64 r.ver,.slice Ar.ta r.txt.length Ar.tc,.slice Ar.ga r.got.length Ar.gc,.slice Ar.sa r.sus.length Ar.sc,.bool r.wed,.bool r.rdy,.int .i64 r.by_,.slice Ar.ma r.trm.length Ar.mc] 37)).alloc (.cells #[.int .i64 0,.int .i64 0,.slice none 0 0,.slice none 0 0,.bool false] 27)) (w.heap.size + 1 + 1) 27 #[.int .i64 0,.int .i64 0,.slice none 0 0,.slice none 0 0,.bool false] := by
  have := Bx.new ((w.alloc (.cells #[.int .i64 m.id,.int .i64 m.n,.slice A.ra m.rows.length A.rc,.slice A.sa m.sung.length A.sc,.bool m.done] 27)).alloc (.cells #[.int .i64 r.ver,.slice Ar.ta r.txt.length Ar.tc,.slice Ar.ga r.got.length Ar.gc,.slice Ar.sa r.sus.length Ar.sc,.bool r.wed,.bool r.rdy,.int .i64 r.by_,.slice Ar.ma r.trm.length Ar.mc] 37)) 27 #[.int .i64 0,.int .i64 0,.slice none 0 0,.slice none 0 0,.bool false]
  simp only [World.size_alloc] at this
  exact this
 have hv0 := hv.below hb0
 have hrw0 := hrw.below hb0
 unfold mbV mbC rwV rwC
 generalize hWW : ((w.alloc (.cells #[.int .i64 m.id,.int .i64 m.n,.slice A.ra m.rows.length A.rc,.slice A.sa m.sung.length A.sc,.bool m.done] 27)).alloc (.cells #[.int .i64 r.ver,.slice Ar.ta r.txt.length Ar.tc,.slice Ar.ga r.got.length Ar.gc,.slice Ar.sa r.sus.length Ar.sc,.bool r.wed,.bool r.rdy,.int .i64 r.by_,.slice Ar.ma r.trm.length Ar.mc] 37)).alloc (.cells #[.int .i64 0,.int .i64 0,.slice none 0 0,.slice none 0 0,.bool false] 27) = W0 at *
 have hK := mbkS_any A m W0 hv0
 unfold mbV mbC at hK
 have HX0 : Hid (Bx W0 w.heap.size 27 #[.int .i64 m.id,.int .i64 m.n,.slice A.ra m.rows.length A.rc,.slice A.sa m.sung.length A.sc,.bool m.done]) := hx0
 have HZ0 : Hid (Bx W0 (w.heap.size + 1 + 1) 27 #[.int .i64 0,.int .i64 0,.slice none 0 0,.slice none 0 0,.bool false]) := hz0
 have HXr : Hid (Bx W0 (w.heap.size + 1) 37 #[.int .i64 r.ver,.slice Ar.ta r.txt.length Ar.tc,.slice Ar.ga r.got.length Ar.gc,.slice Ar.sa r.sus.length Ar.sc,.bool r.wed,.bool r.rdy,.int .i64 r.by_,.slice Ar.ma r.trm.length Ar.mc]) := hxr
 have HRw : Hid (RwS W0 Ar r) := hrw0
 have HV0 : Hid (MbS W0 A m) := hv0
 have HB0 : Hid (Below w.heap.size w W0) := hb0
 obtain ⟨c0,c1,c2,c3,c4⟩ := Bx.r5 hx0
 clear hv hb0 hx0 hz0 hv0 hrw hrw0 hxr
 cases hok : okMb m with
 | false =>
  have HZ : Hid (hrdM m fr r = (zeroMb,false)) := by rw [Hid,hrdM,hok];rfl
  rw [hok] at hK
  clear hok
  go_enter Tryz.func23,Tryz.ntmps23
  go_wp2_with fail
  refine hK.mono ?_
  rintro e w1 ⟨rfl,hb1⟩
  have hz1 := HZ0.out.below hb1
  have HB1 : Hid (Below w.heap.size w w1) := HB0.out.trans (hb1.mono HB0.out.size)
  obtain ⟨z0,z1,z2,z3,z4⟩ := Bx.r5 hz1
  obtain ⟨f0,f1,f2,f3,f4⟩ := hz1.f5
  clear hz1 hb1 c0 c1 c2 c3 c4 hK
  go_wp2
  refine bodyPost_ret (v := .tuple #[mbV ⟨none,0,none,0⟩ zeroMb,.bool false]) (by simp [results,Tryz.results23,go_sem,mbV,mbC,zeroMb, *]) rfl ?_
  rw [HZ.out]
  exact ⟨_,rfl,ansM_zero ((wrt5 w1 (w.heap.size + 1 + 1)).below HB1.out HB1.out.size (fun b h => by omega))⟩
 | true =>
  have HZ : Hid (hrdM m fr r = heardMb m fr r) := by rw [Hid,hrdM,hok];rfl
  obtain ⟨i,n,ok⟩ := okMb_iff.1 hok
  rw [hok] at hK
  clear hok
  go_enter Tryz.func23,Tryz.ntmps23
  go_wp2_with fail
  refine hK.mono ?_
  rintro e w1 ⟨rfl,hb1⟩
  have HB1 : Hid (Below w.heap.size w w1) := HB0.out.trans (hb1.mono HB0.out.size)
  have HZ1 : Hid (Bx w1 (w.heap.size + 1 + 1) 27 #[.int .i64 0,.int .i64 0,.slice none 0 0,.slice none 0 0,.bool false]) := HZ0.out.below hb1
  have HXr1 : Hid (Bx w1 (w.heap.size + 1) 37 #[.int .i64 r.ver,.slice Ar.ta r.txt.length Ar.tc,.slice Ar.ga r.got.length Ar.gc,.slice Ar.sa r.sus.length Ar.sc,.bool r.wed,.bool r.rdy,.int .i64 r.by_,.slice Ar.ma r.trm.length Ar.mc]) := HXr.out.below hb1
  have HRw1 : Hid (RwS w1 Ar r) := HRw.out.below hb1
  have hC := cpyMb_any A m w1 (HV0.out.below hb1) ok.ln
  unfold mbV mbC at hC
  clear c0 c1 c2 c3 c4 hK
  obtain ⟨c0,c1,c2,c3,c4⟩ := Bx.r5 (HX0.out.below hb1)
  clear hb1
  go_wp2_with fail
  refine hC.mono ?_
  rintro e w2 ⟨A2,rfl,fp,hl2,hf2,hb2⟩
  have hlt2 := owL_lt hl2
  have HB2 : Hid (Below w.heap.size w w2) := HB1.out.trans (hb2.mono HB1.out.size)
  have hba := oneA16 w2 (.cells #[.int .i64 m.id,.int .i64 m.n,.slice A2.ra m.rows.length A2.rc,.slice A2.sa m.sung.length A2.sc,.bool m.done] 27)
  have hxb := Bx.new w2 27 #[.int .i64 m.id,.int .i64 m.n,.slice A2.ra m.rows.length A2.rc,.slice A2.sa m.sung.length A2.sc,.bool m.done]
  have hP : Plc (w2.alloc (.cells #[.int .i64 m.id,.int .i64 m.n,.slice A2.ra m.rows.length A2.rc,.slice A2.sa m.sung.length A2.sc,.bool m.done] 27)) w2.heap.size 0 (mb5 m) fp := box_plc hxb (owL_below hl2 hba) (fun k => by have := hlt2 _ k;omega)
  have HZ3 : Hid (Bx (w2.alloc (.cells #[.int .i64 m.id,.int .i64 m.n,.slice A2.ra m.rows.length A2.rc,.slice A2.sa m.sung.length A2.sc,.bool m.done] 27)) (w.heap.size + 1 + 1) 27 #[.int .i64 0,.int .i64 0,.slice none 0 0,.slice none 0 0,.bool false]) := (HZ1.out.below hb2).below hba
  have HB3 : Hid (Below w.heap.size w (w2.alloc (.cells #[.int .i64 m.id,.int .i64 m.n,.slice A2.ra m.rows.length A2.rc,.slice A2.sa m.sung.length A2.sc,.bool m.done] 27))) := HB2.out.trans (hba.mono HB2.out.size)
  have hr1 : (w.heap.size + 1 + 1) < w1.heap.size := HZ1.out.lt
  have hs2 := hb2.size
  have hxr3 := (HXr1.out.below hb2).below hba
  have hrw3 := (HRw1.out.below hb2).below hba
  obtain ⟨⟨x0,x1,x2,x3⟩,x4,x5,x6,x7⟩ := Bx.r8 hxr3
  have hS := hrdSp_any w2.heap.size 0 m i n fr Ar r fp _ hP ok hrw3 h6
  unfold rwV rwC at hS
  unfold mbV mbC
  generalize hV3 : w2.alloc (.cells #[.int .i64 m.id,.int .i64 m.n,.slice A2.ra m.rows.length A2.rc,.slice A2.sa m.sung.length A2.sc,.bool m.done] 27) = V3 at *
  have HF2 : Hid (∀ b,fp b → w1.heap.size ≤ b) := hf2
  have hB3 : w2.heap.size < V3.heap.size := hxb.lt
  clear hxb hP hl2 hf2 hlt2 hb2 hba c0 c1 c2 c3 c4 hC hxr3 hrw3
  go_wp2_with fail
  refine hS.mono ?_
  rintro e Y ⟨rfl,hBc⟩
  have hsw := HB1.out.size
  obtain ⟨A3,⟨y0,y1,y2,y3,y4⟩,hz3,HN⟩ := box_done (w := w) (r := (w.heap.size + 1 + 1)) hBc (fun b hb => by have := HF2.out b hb;exact ⟨by omega,by omega⟩) (by omega) (by omega) (by omega) (by have := HZ3.out.lt;omega) HB3.out HZ3.out
  simp only [Nat.zero_add] at y0 y1 y2 y3 y4
  obtain ⟨z0,z1,z2,z3,z4⟩ := Bx.r5 hz3
  obtain ⟨f0,f1,f2,f3,f4⟩ := hz3.f5
  have HNN : Hid (∀ {a b c d e : Value},NewL w (((((Y.setCell ⟨(w.heap.size + 1 + 1),0,none⟩ a).setCell ⟨(w.heap.size + 1 + 1),1,none⟩ b).setCell ⟨(w.heap.size + 1 + 1),2,none⟩ c).setCell ⟨(w.heap.size + 1 + 1),3,none⟩ d).setCell ⟨(w.heap.size + 1 + 1),4,none⟩ e) (mbCels (heardMb m fr r).1) (mbVals A3 (heardMb m fr r).1)) := HN
  generalize hpm : heardMb m fr r = pm at *
  clear hS hBc HN hz3 hpm
  go_wp2
  refine bodyPost_ret (v := .tuple #[mbV A3 pm.1,.bool pm.2]) (by simp [results,Tryz.results23,go_sem,mbV,mbC, *]) rfl ?_
  rw [HZ.out]
  exact ⟨_,rfl,HNN.out⟩
end Go.Proofs.YthioodpmgifomaaGreat
namespace Go.Proofs.YthioodpmgifomaaGreat
set_option linter.unusedVariables false
set_option linter.unusedSimpArgs false
open Go.RowKit Go.Sort
def lN (L : List Nat) : List Int := L.map (fun (j : Nat) => (j : Int))
theorem lN_len (L : List Nat) : (lN L).length = L.length := List.length_map _
theorem el_lN {L : List Nat} {k : Nat} (h : k < L.length) : el (lN L) k = ((L.getD k 0 : Nat) : Int) := by simp [lN,el,h,List.getD]
theorem leftN_len (n : Nat) (sus : List Int) : (leftN n sus).length ≤ n := by
 have := List.length_filter_le (fun (j : Nat) => decide ((j : Int) ∉ sus)) (List.range n)
 simpa [leftN] using this
theorem leftN_succ (k : Nat) (sus : List Int) : leftN (k + 1) sus = if (k : Int) ∈ sus then leftN k sus else leftN k sus ++ [k] := by
 unfold leftN
 rw [List.range_succ,List.filter_append]
 by_cases h : (k : Int) ∈ sus <;> simp [h]
def AnsL (w w' : World) (e : Ending) (Z : List Int) : Prop := ∃ a c,e = .returned (.slice a Z.length c) ∧ NewO w w' (icl Z) (.slice a Z.length c)
set_option maxRecDepth 100000 in
set_option maxHeartbeats 3200000 in
theorem lftSp_any (w0 : World) (B o : Nat) (m : Mb) (i n : Nat) (fp : Fp) (g off c : Nat) (w : World) (M : Mw w0 w B o m fp g off c) (ok : OkM m i n) :
  Calls Tryz.prog 144 #[.pointer (some ⟨B,o,none⟩)] w fun e w' => AnsL w w' e (lN (leftN n (rowN m.rows i).sus)) := by
 have hil : i < m.rows.length := by rw [ok.len];exact ok.lt
 have HM : Hid (Mw w0 w B o m fp g off c) := M
 have hr := ok.ok i ok.lt
 have hn5 := hr.n5
 have i0 : (0 : Int) ≤ (i : Int) := by omega
 have i1 : (i : Int) < (m.rows.length : Int) := by omega
 have hb0 := oneA16 w (.cells #[] 2)
 have HB0 : Hid (Below w.heap.size w (w.alloc (.cells #[] 2))) := hb0
 have HO0 : Hid (Cel.ow (w.alloc (.cells #[] 2)) (icl []) (.slice (some ⟨w.heap.size,0,none⟩) 0 0) (fun _ => False)) := ow_icl.2 ⟨_,0,none,rfl,OSo.nil _ _ (plainS _ _),fun b => by simp⟩
 clear M hb0
 go_enter Tryz.func144,Tryz.ntmps144
 go_wp2_with fail
 generalize w.alloc (.cells #[] 2) = W0 at *
 go_loopw [3,4] (fun v k wr => ∃ (j : Nat) (a : Option Addr) (cc : Nat) (Z : List Int) (fz : Fp),j ≤ n ∧ k = .int .i64 (j : Int) ∧ v = .slice a Z.length cc ∧ Hid (Z = lN (leftN j (rowN m.rows i).sus)) ∧ Cel.ow wr (icl Z) (.slice a Z.length cc) fz ∧ (∀ b,fz b → w.heap.size ≤ b) ∧ Below w.heap.size w wr) (fun _ k _ => n - (intOf k).toNat)
 case atStart => exact ⟨0,some ⟨w.heap.size,0,none⟩,0,[],_,Nat.zero_le _,rfl,rfl,rfl,HO0.out,fun b h => h.elim,HB0.out⟩
 case round =>
  obtain ⟨j,a,cc,Z,fz,hj,rfl,rfl,hZ,hO,hfz,hb⟩ := hrel
  have M1 := HM.out.step hb
  obtain ⟨c0,c1,c4⟩ := M1.id'
  have c2 := M1.rws
  rw [ok.hid] at c0
  rw [ok.hn] at c1
  by_cases hlt : j < n
  ·have k1 : (j : Int) < (n : Int) := by omega
   obtain ⟨Ak,⟨⟨d0,d1,d2,d3⟩,d4,d5,d6,d7⟩,hrs⟩ := M1.row ok.fit hil
   have C2 : ∀ q : Bk wr,Calls Tryz.prog 76 #[.slice Ak.sa (rowN m.rows i).sus.length Ak.sc,.int .i64 (j : Int)] q.w fun e w' => e = .returned (.bool (decide ((j : Int) ∈ (rowN m.rows i).sus))) ∧ Below q.w.heap.size q.w w' := fun q => (l1Has_any Ak.sa (rowN m.rows i).sus.length Ak.sc (j : Int) (rowN m.rows i).sus q.w (hrs.sus.below q.h (Nat.le_refl _)) hrs.ms).mono (fun e w' h => ⟨h.1,by rw [h.2];exact Below.refl _ _⟩)
   have T : ∀ {x v},wr.cell? x = some v → ∀ q : Bk wr,q.w.cell? x = some v := fun h q => (q.h.cell (World.block_lt_of_cell? _ _ h)).trans h
   have p0 := T c0
   have p2 := T c2
   have s3 := T d3
   have HO : Hid (Cel.ow wr (icl Z) (.slice a Z.length cc) fz) := hO
   have HB : Hid (Below w.heap.size w wr) := hb
   have hZl : Z.length ≤ 1000000 := by rw [hZ.out,lN_len];have := leftN_len j (rowN m.rows i).sus;omega
   have HN : Hid (lN (leftN (j + 1) (rowN m.rows i).sus) = if (j : Int) ∈ (rowN m.rows i).sus then Z else Z ++ [(j : Int)]) := by
    rw [Hid,hZ.out,leftN_succ]
    by_cases hm : (j : Int) ∈ (rowN m.rows i).sus <;> simp [hm,lN]
   have wj : wrap64 ((j : Int) + 1) = (j : Int) + 1 := by unfold wrap64;omega
   clear d0 d1 d2 d3 d4 d5 d6 d7 c0 c2 c4 hrs M1 hO hb T
   by_cases hm : (j : Int) ∈ (rowN m.rows i).sus
   ·rw [decide_eq_true hm] at C2
    rw [if_pos hm] at HN
    clear hm
    go_wp2_with fail
    refine wp_region_bk (by kernel_rfl) (by kernel_rfl) ?_
    repeat (go_big_quiet_step ((first | (go_at_call 76;exact bk_call _ (C2 _)) | rfl)))
    refine wpQuiet_nil ?_
    intro wE hw'
    obtain ⟨⟨w11,hb11⟩,hw''⟩ := hw'
    have hwe : wE = w11 := hw''
    clear hw''
    subst hwe
    have HO2 : Hid (Cel.ow wE (icl Z) (.slice a Z.length cc) fz) := Cel.ow_below HO.out hb11
    have HB2 : Hid (Below w.heap.size w wE) := HB.out.trans (hb11.mono HB.out.size)
    clear C2 p0 p2 s3 hb11 c1
    go_wp2
    go_roundw
    case rel => exact ⟨j + 1,a,cc,Z,fz,by omega,by go_num,rfl,HN.out.symm,HO2.out,hfz,HB2.out⟩
    case measure => simp [intOf];omega
   ·rw [decide_eq_false hm] at C2
    rw [if_neg hm] at HN
    clear hm
    go_wp2_with fail
    refine wp_region_bk (by kernel_rfl) (by kernel_rfl) ?_
    repeat (go_big_quiet_step ((first | (go_at_call 76;exact bk_call _ (C2 _)) | rfl)))
    refine wpQuiet_nil ?_
    intro wE hw'
    obtain ⟨⟨w11,hb11⟩,hw''⟩ := hw'
    have hwe : wE = w11 := hw''
    clear hw''
    subst hwe
    have HB2 : Hid (Below w.heap.size w wE) := HB.out.trans (hb11.mono HB.out.size)
    obtain ⟨a',c',ea,hA⟩ := ow_int_app (j : Int) (Cel.ow_below HO.out hb11) hZl
    cases ea
    clear C2 p0 p2 s3 c1
    go_wp2_with (at_builtin;refine wpList_append_of (by rfl) _ _ _ _ (by rfl) _ _ (by rfl) (by rfl) hA ⟨rfl,rfl,rfl,rfl⟩ ?_;rintro v1 w1 ⟨a1,e1,f1,rfl,q1,q2,q3⟩;have HQ1 : Hid (Cel.ow w1 (icl (Z ++ [(j : Int)])) (.slice a1 (Z.length + 1) e1) f1) := q1;have HQ2 : Hid (∀ b,f1 b → fz b ∨ wE.heap.size ≤ b) := q2;have HQ3 : Hid (Wrt fz wE w1) := q3;clear q1 q2 q3 hA)
    have hbs := hb11.size
    have hbs2 := HB.out.size
    have HL : Hid ((Z ++ [(j : Int)]).length = Z.length + 1) := by rw [Hid,List.length_append];rfl
    go_roundw
    case rel => exact ⟨j + 1,a1,e1,Z ++ [(j : Int)],f1,by omega,by go_num,by rw [HL.out],HN.out.symm,by rw [HL.out];exact HQ1.out,fun b hb => (HQ2.out b hb).elim (hfz b) (fun h => by omega),HQ3.out.below HB2.out (by omega) (fun b hb => hfz b hb)⟩
    case measure => simp [intOf];omega
  ·have k1 : ¬ ((j : Int) < (n : Int)) := by omega
   have ej : j = n := by omega
   have HZ : Hid (Z = lN (leftN n (rowN m.rows i).sus)) := by rw [Hid,hZ.out,ej]
   have HO : Hid (NewO w wr (icl Z) (.slice a Z.length cc)) := ⟨fz,hO,hfz,hb⟩
   clear ej hO hb M1 c0 c2 c4
   go_wp2
   go_ret
   rw [← HZ.out]
   exact ⟨a,cc,rfl,HO.out⟩
end Go.Proofs.YthioodpmgifomaaGreat