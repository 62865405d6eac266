/-
  Texts in one: Mbg Mbd Mbh Mcl Mcm Mcn Mco Mcp Mch Mbn Mcc Mbl Plo Mbi Mbj Mbz Mba Ear Mbr Mbb Mbe Rns Rwo Mca Sdk Dvo Rdk Drt Rdw Rdr Rds Mci Mcj Mck Mcd Mcf.
-/
import Derived.Test.YthioodpmgifomaaJad
import Derived.Test.YthioodpmgifomaaJac
import Derived.Test.YthioodpmgifomaaJaa
import Derived.Test.YthioodpmgifomaaJab
import Derived.BigQuiet
import Derived.Deep.LoopGhost
import Derived.Deep.CutRange
import Derived.Deep.Cut
import Derived.Deep.RegionHeld3
namespace Go.Proofs.Ythioodpmgifomaa
set_option linter.unusedVariables false
set_option linter.unusedSimpArgs false
open Go.RowKit Go.Sort
theorem rowN_self {R : List Rw} {i : Nat} {r : Rw} (h : i < R.length) : rowN (R.set i r) i = r := by rw [rowN_set h,if_pos rfl]
attribute [local irreducible] sv
set_option maxRecDepth 100000 in
set_option maxHeartbeats 3200000 in
theorem saySp_any (B o : Nat) (m : Mb) (i n : Nat) (t : List UInt8) (fp : Fp) (w : World) (h : Plc w B o (mb5 m) fp) (ok : OkM m i n) (ht : t.length ≤ 1000000000) :
  Calls Try.prog 71 #[.pointer (some ⟨B,o,none⟩),.string (sv t)] w fun e w' => e = .returned (.bool (sayMb m t).2) ∧ Bcm w w' B o (mb5 (sayMb m t).1) fp := by
 have hmix := mixed17
 have hil : i < m.rows.length := by rw [ok.len];exact ok.lt
 obtain ⟨g,off,c,M0⟩ := Mw.start h (by omega)
 obtain ⟨c0,c1,c4⟩ := M0.id'
 have c2 := M0.rws
 rw [ok.hid] at c0
 have i0 : (0 : Int) ≤ (i : Int) := by omega
 have i1 : (i : Int) < (m.rows.length : Int) := by omega
 have p0 : ∀ q : Bk w,q.w.cell? ⟨B,o,none⟩ = _ := fun q => (q.h.cell (World.block_lt_of_cell? _ _ c0)).trans c0
 have p2 : ∀ q : Bk w,q.w.cell? ⟨B,o + 2,none⟩ = _ := fun q => (q.h.cell (World.block_lt_of_cell? _ _ c2)).trans c2
 have HM0 : Hid (Mw w w B o m fp g off c) := M0
 clear c0 c1 c4 c2 M0 h
 go_enter Try.func71,Try.ntmps71
 go_wp2_with fail
 refine wp_region_bk (by kernel_rfl) (by kernel_rfl) ?_
 repeat (go_big_quiet_step ((first | rfl)))
 refine wpQuiet_nil ?_
 intro wE hw'
 obtain ⟨⟨w11,hb11⟩,hw''⟩ := hw'
 have hwe : wE = w11 := hw''
 clear hw''
 subst hwe
 clear p0 p2
 have M1 := HM0.out.step hb11
 have HM1 : Hid (Mw w wE B o m fp g off c) := M1
 obtain ⟨c0,c1,c4⟩ := M1.id'
 rw [ok.hid] at c0
 obtain ⟨Ak,⟨⟨d0,d1,d2,d3⟩,d4,d5,d6,d7⟩,hrs⟩ := M1.row ok.fit hil
 have hr := ok.ok i ok.lt
 have hszt := sv_size t
 have HSay : Hid (sayMb m t = if (rowN m.rows i).wed = true ∨ m.done = true ∨ (rowN m.rows i).txt.length = 12 ∨ 20 < t.length ∨ (rowN m.rows i).ver = 1000000 then (m,false) else ({ m with rows := m.rows.set i { rowN m.rows i with txt := (rowN m.rows i).txt ++ [t],got := (rowN m.rows i).got.set i (el (rowN m.rows i).got i + 1),ver := (rowN m.rows i).ver + 1 } },true)) := by
  have e : m.i = i := by unfold Mb.i;rw [ok.hid];rfl
  rw [Hid,sayMb,Mb.put,Mb.own,e]
 have HNo : Hid (((rowN m.rows i).wed = true ∨ m.done = true ∨ (rowN m.rows i).txt.length = 12 ∨ 20 < t.length ∨ (rowN m.rows i).ver = 1000000) → sayMb m t = (m,false)) := fun h => by rw [HSay.out,if_pos h]
 have HYes : Hid (¬ ((rowN m.rows i).wed = true ∨ m.done = true ∨ (rowN m.rows i).txt.length = 12 ∨ 20 < t.length ∨ (rowN m.rows i).ver = 1000000) → sayMb m t = ({ m with rows := m.rows.set i { rowN m.rows i with txt := (rowN m.rows i).txt ++ [t],got := (rowN m.rows i).got.set i (el (rowN m.rows i).got i + 1),ver := (rowN m.rows i).ver + 1 } },true)) := fun h => by rw [HSay.out,if_neg h]
 have htl := hr.tl
 clear HSay hrs d2 d3 d5 d6 d7 c1 hb11 HM0 M1
 cases hwd : (rowN m.rows i).wed with
 | true =>
  have HZ : Hid (sayMb m t = (m,false)) := HNo.out (.inl hwd)
  rw [hwd] at d4
  go_wp2
  go_ret
  exact ⟨ret_bool (by rw [HZ.out]),by rw [HZ.out];exact HM1.out.bcm⟩
 | false =>
 rw [hwd] at d4
 cases hdn : m.done with
 | true =>
  have HZ : Hid (sayMb m t = (m,false)) := HNo.out (.inr (.inl hdn))
  rw [hdn] at c4
  go_wp2
  go_ret
  exact ⟨ret_bool (by rw [HZ.out]),by rw [HZ.out];exact HM1.out.bcm⟩
 | false =>
 rw [hdn] at c4
 by_cases h12 : (rowN m.rows i).txt.length = 12
 ·have HZ : Hid (sayMb m t = (m,false)) := HNo.out (.inr (.inr (.inl h12)))
  have e12 : (((rowN m.rows i).txt.length : Int) == 12) = true := by rw [h12];rfl
  clear h12
  go_wp2
  go_ret
  exact ⟨ret_bool (by rw [HZ.out]),by rw [HZ.out];exact HM1.out.bcm⟩
 have e12 : (((rowN m.rows i).txt.length : Int) == 12) = false := by simp;omega
 by_cases h20 : 20 < t.length
 ·have HZ : Hid (sayMb m t = (m,false)) := HNo.out (.inr (.inr (.inr (.inl h20))))
  have e20 : (20 : Int) < (t.length : Int) := by omega
  go_wp2
  go_ret
  exact ⟨ret_bool (by rw [HZ.out]),by rw [HZ.out];exact HM1.out.bcm⟩
 have e20 : ¬ ((20 : Int) < (t.length : Int)) := by omega
 by_cases hver : (rowN m.rows i).ver = 1000000
 ·have HZ : Hid (sayMb m t = (m,false)) := HNo.out (.inr (.inr (.inr (.inr hver))))
  have ev : ((rowN m.rows i).ver == 1000000) = true := by rw [hver];rfl
  clear hver
  go_wp2
  go_ret
  exact ⟨ret_bool (by rw [HZ.out]),by rw [HZ.out];exact HM1.out.bcm⟩
 have ev : ((rowN m.rows i).ver == 1000000) = false := by simpa using hver
 have HZ : Hid (sayMb m t = _) := HYes.out (by rw [hwd,hdn];simp;omega)
 obtain ⟨u,f,hu,hfz,how,hlt,hset⟩ := HM1.out.at hil (j := 1) rfl
 obtain ⟨ta,tc,rfl,hA⟩ := ow_txt_app t how (by omega)
 have HS : Hid (∀ (X1 : World) (c' : Cel) (u' : Value) (f' : Fp) (r' : Rw),(rw8 (rowN m.rows i)).set 1 c' = rw8 r' → Wrt f wE X1 → Cel.ow X1 c' u' f' → (∀ b,f' b → f b ∨ wE.heap.size ≤ b) → X1.cell? ⟨g,off + i * 8 + 1,none⟩ = some (.slice ta (rowN m.rows i).txt.length tc) ∧ X1.frozen? ⟨g,off + i * 8 + 1,none⟩ = false ∧ Mw w (X1.setCell ⟨g,off + i * 8 + 1,none⟩ u') B o { m with rows := m.rows.set i r' } fp g off c ∧ (u' = .slice ta (rowN m.rows i).txt.length tc → Mw w X1 B o { m with rows := m.rows.set i r' } fp g off c)) := hset
 clear d1 hset HNo HYes how hlt
 go_wp2_with (at_builtin;refine wpList_append_of (by rfl) _ _ _ _ (by rfl) _ _ (by rfl) (by rfl) hA ⟨rfl,rfl,rfl,rfl⟩ ?_;rintro v1 w1 ⟨a1,e1,f1,rfl,k1,k2,k3⟩;obtain ⟨q1,q2,M2,_⟩ := HS.out w1 _ _ f1 { rowN m.rows i with txt := (rowN m.rows i).txt ++ [t] } rfl k3 k1 k2;have HM2 : Hid (Mw w (w1.setCell ⟨g,off + i * 8 + 1,none⟩ (.slice a1 ((rowN m.rows i).txt.length + 1) e1)) B o { m with rows := m.rows.set i { rowN m.rows i with txt := (rowN m.rows i).txt ++ [t] } } fp g off c) := M2;clear M2 k1 k2 k3 hA HS)
 clear q1 q2 hu hfz d0 d4 c0 c4
 generalize w1.setCell ⟨g,off + i * 8 + 1,none⟩ (.slice a1 ((rowN m.rows i).txt.length + 1) e1) = W5 at *
 generalize hr1 : ({ rowN m.rows i with txt := (rowN m.rows i).txt ++ [t] } : Rw) = r1 at *
 have hgl : r1.got = (rowN m.rows i).got := by rw [← hr1]
 have hvl : r1.ver = (rowN m.rows i).ver := by rw [← hr1]
 have hset1 : rowN (m.rows.set i r1) i = r1 := rowN_self hil
 have hil1 : i < (m.rows.set i r1).length := by rw [List.length_set];exact hil
 have hgi : i < r1.got.length := by rw [hgl,hr.gl];exact ok.lt
 obtain ⟨u,f,hu,hfz,how,hlt,hset⟩ := HM2.out.at hil1 (j := 2) (cl := icl r1.got) (by rw [hset1];rfl)
 obtain ⟨gb,go,gc,rfl,hfg,hge,hgz,hgs⟩ := ow_int_set how hgi
 obtain ⟨c0,c1,c4⟩ := HM2.out.id'
 simp only at c0
 rw [ok.hid] at c0
 have i2 : (i : Int) < (r1.got.length : Int) := by omega
 have p0 : ∀ q : Bk W5,q.w.cell? ⟨B,o,none⟩ = _ := fun q => (q.h.cell (World.block_lt_of_cell? _ _ c0)).trans c0
 have p2 : ∀ q : Bk W5,q.w.cell? ⟨g,off + i * 8 + 2,none⟩ = _ := fun q => (q.h.cell (World.block_lt_of_cell? _ _ hu)).trans hu
 have p3 : ∀ q : Bk W5,q.w.cell? ⟨gb,go + i,none⟩ = _ := fun q => (q.h.cell (World.block_lt_of_cell? _ _ hge)).trans hge
 have hx12 : -1000 ≤ el r1.got i ∧ el r1.got i ≤ 1000 := by
  have := hr.g12 (el r1.got i) (by rw [hgl];exact el_mem (by rw [← hgl];exact hgi))
  have h0 := hr.fit
  have hg := (small_iff hr.n5 hr.gl).1 ⟨hr.got,hr.g12⟩ i ok.lt
  rw [hgl]
  omega
 have hwx : wrap64 (el r1.got i + 1) = el r1.got i + 1 := by unfold wrap64;omega
 have HH : Hid (Cel.ow W5 (icl r1.got) (.slice (some ⟨gb,go,none⟩) r1.got.length gc) f) := how
 have HEL : Hid (el r1.got i = el (rowN m.rows i).got i) := by rw [Hid,hgl]
 have HGL : Hid (r1.got = (rowN m.rows i).got) := hgl
 have HVL : Hid (r1.ver = (rowN m.rows i).ver) := hvl
 have HS1 : Hid (rowN (m.rows.set i r1) i = r1) := hset1
 have HR1 : Hid (({ rowN m.rows i with txt := (rowN m.rows i).txt ++ [t] } : Rw) = r1) := hr1
 clear hu hfz hge hgz hgs how hset c0 c1 c4 hx12 hgl hvl hset1 hr1
 generalize el r1.got i = x at *
 refine wp_region_quiet_tail (C := fun w' => ∃ p : Bk W5,w' = p.w) 20 hmix (by kernel_rfl) ⟨⟨W5.drewN 1,belowN (Below.refl _ _)⟩,rfl⟩ ?_
 simp only [List.take_succ_cons,List.take_zero]
 repeat (go_big_quiet_step ((first | rfl)))
 refine wpQuiet_nil ?_
 intro wE hw'
 obtain ⟨⟨w11,hb11⟩,hw''⟩ := hw'
 have hwe : wE = w11 := hw''
 clear hw''
 subst hwe
 simp only [List.drop_succ_cons,List.drop_zero]
 have hu3 := p2 ⟨wE,hb11⟩
 simp only at hu3
 have M3 := HM2.out.step hb11
 obtain ⟨u,f3,hu,hfz,how,hlt3,hset⟩ := M3.at hil1 (j := 2) (cl := icl r1.got) (by rw [HS1.out];rfl)
 obtain rfl := Option.some.inj (hu.symm.trans hu3)
 obtain ⟨gb',go',gc',e4,hfg4,hge,hgz,hgs⟩ := ow_int_set how hgi
 cases e4
 obtain ⟨k1,k2⟩ := hgs (x + 1)
 obtain ⟨_,_,_,hM4⟩ := hset _ (icl (r1.got.set i (x + 1))) _ f3 { r1 with got := r1.got.set i (x + 1) } (by rw [HS1.out];rfl) k2 k1 (fun b hb => .inl hb)
 have HM4 : Hid (Mw w (wE.setCell ⟨gb,go + i,none⟩ (.int .i64 (x + 1))) B o { m with rows := (m.rows.set i r1).set i { r1 with got := r1.got.set i (x + 1) } } fp g off c) := hM4 rfl
 clear hM4 hgs k1 k2 hset M3 how hu hu3 hfz p0 p2 p3 hlt3 hlt
 go_upto_region 6 with fail
 generalize wE.setCell ⟨gb,go + i,none⟩ (.int .i64 (x + 1)) = W7 at *
 clear hge hgz
 rw [List.set_set] at HM4
 generalize hr2 : ({ r1 with got := r1.got.set i (x + 1) } : Rw) = r2 at *
 have hil2 : i < (m.rows.set i r2).length := by rw [List.length_set];exact hil
 have hv2 : r2.ver = (rowN m.rows i).ver := by rw [← hr2];exact HVL.out
 have hs2 : rowN (m.rows.set i r2) i = r2 := rowN_self hil
 obtain ⟨v1,v2,hM5⟩ := HM4.out.put hil2 (j := 0) (x := .int .i64 r2.ver) (y := .int .i64 (r2.ver + 1)) (r' := { r2 with ver := r2.ver + 1 }) (by rw [hs2];rfl) (by rw [hs2];rfl)
 have hvb := hr.ver
 have hwv : wrap64 (r2.ver + 1) = r2.ver + 1 := by rw [hv2];unfold wrap64;omega
 simp only [Nat.add_zero] at v1 v2 hM5
 rw [List.set_set] at hM5
 have HM5 : Hid (Mw w (W7.setCell ⟨g,off + i * 8,none⟩ (.int .i64 (r2.ver + 1))) B o { m with rows := m.rows.set i { r2 with ver := r2.ver + 1 } } fp g off c) := hM5
 have HFin : Hid (({ m with rows := m.rows.set i { r2 with ver := r2.ver + 1 } } : Mb) = (sayMb m t).1 ∧ (sayMb m t).2 = true) := by
  rw [Hid,HZ.out]
  refine ⟨?_,rfl⟩
  rw [← hr2,← HR1.out,HEL.out]
 clear hM5 hr2 hs2 hv2 HZ hvb
 go_wp2
 go_ret
 exact ⟨ret_bool (by rw [HFin.out.2]),by rw [← HFin.out.1];exact HM5.out.bcm⟩
end Go.Proofs.Ythioodpmgifomaa
namespace Go.Proofs.Ythioodpmgifomaa
set_option linter.unusedVariables false
set_option linter.unusedSimpArgs false
open Go.RowKit Go.Sort
end Go.Proofs.Ythioodpmgifomaa
namespace Go.Proofs.Ythioodpmgifomaa
set_option linter.unusedVariables false
set_option linter.unusedSimpArgs false
open Go.RowKit Go.Sort
theorem Wrt.setCells (g : Nat) : ∀ (vs : List Value) (o : Nat) (w : World),Wrt (fun b => b = g) w (w.setCells g o vs)
 | [],o,w => Wrt.refl _ _
 | v :: vs,o,w => (Wrt.set w g o v).trans (Wrt.setCells g vs (o + 1) _) (fun _ _ h => h)
theorem frz_setCells (g : Nat) : ∀ (vs : List Value) (o : Nat) (w : World) (x : Addr),(w.setCells g o vs).frozen? x = w.frozen? x
 | [],o,w,x => rfl
 | v :: vs,o,w,x => by rw [World.setCells,frz_setCells g vs (o + 1),World.frozen?_setCell]
theorem Plc.all {w w1 : World} {B o : Nat} {cs cs' : List Cel} {fp f' : Fp} {vs' : List Value} (h : Plc w B o cs fp) (hb : Below w.heap.size w w1) (h' : owL w1 cs' vs' f') (hl : cs'.length = cs.length) (hf : ∀ b,f' b → w.heap.size ≤ b) : Bcm w (w1.setCells B o vs') B o cs' fp := by
 obtain ⟨vs,h1,h2,h3⟩ := h
 have e := hb.block B h1.lt
 have hP1 := h1.of_block e hb.size
 have hlen := owL_len h2
 have hlen' := owL_len h'
 have hw := Wrt.setCells B vs' o w1
 have hlt := h1.lt
 have hf'B : ¬ f' B := fun k => by have := hf B k;omega
 have hsome : ∀ j,j < vs'.length → (w1.cell? ⟨B,o + j,none⟩).isSome = true := fun j hj => by
  rw [hP1.cell j (by omega),List.getElem?_eq_getElem (by omega)]
  rfl
 refine ⟨⟨f',⟨vs',⟨fun j hj => ?_,fun j hj => ?_,Nat.lt_of_lt_of_le hP1.lt hw.size⟩,owL_wrt h' hw (fun b hb' e' => hf'B (e' ▸ hb')),hf'B⟩,fun b hb' => .inr (hf b hb')⟩,fun j hj => ?_,fun j => ?_, ?_⟩
 ·rw [World.cell?_setCells_in B vs' o w1 hsome j hj,List.getElem?_eq_getElem hj]
 ·rw [frz_setCells];exact hP1.free j (by omega)
 ·rw [World.cell?_setCells_out B vs' o w1 _ (fun _ _ => by simp only;omega)]
  exact World.cell?_of_block e
 ·rw [frz_setCells];simp only [World.frozen?,e]
 ·exact (Wrt.of_below (f := fun b => fp b ∨ b = B) hb).trans hw (fun b _ k => .inr k)
end Go.Proofs.Ythioodpmgifomaa
namespace Go.Proofs.Ythioodpmgifomaa
set_option linter.unusedVariables false
set_option linter.unusedSimpArgs false
open Go.RowKit Go.Sort
theorem infoRow17 : (Try.prog.info? 51).map (fun i => (i.zero,i.size,i.bytes)) = some (some (.agg zero8),8,120) := by kernel_rfl
theorem make_rs (n : Nat) (hn : n ≤ 1048576) (w : World) :
  (Instr.makeSlice 37 (.int .i64 (n : Int)) (.int .i64 (n : Int))).run Try.prog w = .ok (.slice (some ⟨w.heap.size,0,none⟩) n n) (w.alloc (.cells (madeCells zero8 (n * 8)) 51)) := by
 obtain ⟨i,hi,hz,hs,hb⟩ := info_parts2n infoRow17
 have hr := run_make (P := Try.prog) w 37 51 i _ Try.underlying37 hi hz .i64 .i64 n n (by omega) (Int.le_refl _) (by rw [hb];omega) (by omega)
 simp only [Int.toNat_natCast,hs] at hr
 exact hr
theorem flat_rep {α : Type} (F : α → List Cel) (x : α) : ∀ n,(List.replicate n x).flatMap F = (List.replicate n (F x)).flatten
 | 0 => rfl
 | n + 1 => by rw [List.replicate_succ,List.replicate_succ,List.flatMap_cons,List.flatten_cons,flat_rep F x n]
theorem ow_zero8 (w : World) : owL w (rw8 zeroRw) zero8.toList (fun _ => False) := by
 have h : owL w (rwCels zeroRw) (rwVals ⟨none,0,none,0,none,0,none,0⟩ zeroRw) (fun _ => False) := owL_congr (owL4 (ow_none_s w) (ow_none_i w) (ow_none_i w) (ow_none_i w) (fun _ h => h.elim) (fun _ h => h.elim) (fun _ h => h.elim)) (fun b => by simp)
 exact ow_rw8 h
theorem rows_made (w : World) (n : Nat) (hn : n ≤ 1048576) : Cel.ow (w.alloc (.cells (madeCells zero8 (n * 8)) 51)) (lcl 8 rw8 (List.replicate n zeroRw)) (.slice (some ⟨w.heap.size,0,none⟩) n n) (fun b => b = w.heap.size) := by
 have h := osl_made w zero8 8 n 51 rfl (by omega) (by unfold maxLen;omega)
 unfold lcl
 rw [flat_rep,List.length_replicate]
 exact ⟨_,n,_,some w.heap.size,fun _ => False,rfl,OSo.of h,owL_zeros (ow_zero8 _) (fun b h => h) n,fun _ _ h => h,fun b => by simp [eq_comm]⟩
def prR (R : List Rw) (k : Nat) : List Rw := R.take k ++ List.replicate (R.length - k) zeroRw
theorem prR_len {R : List Rw} {k : Nat} (hk : k ≤ R.length) : (prR R k).length = R.length := by simp [prR];omega
theorem prR_at {R : List Rw} {k : Nat} (hk : k < R.length) : (prR R k)[k]? = some zeroRw := by
 have e2 : R.length - k = (R.length - (k + 1)) + 1 := by omega
 have e3 : (R.take k).length = k := by simp;omega
 rw [prR,List.getElem?_append_right (by omega),e2,List.replicate_succ,e3,Nat.sub_self]
 rfl
theorem prR_set {R : List Rw} {k : Nat} (hk : k < R.length) : (prR R k).set k (rowN R k) = prR R (k + 1) := by
 have e : rowN R k = R[k] := by simp [rowN,List.getD,hk]
 have e2 : R.length - k = (R.length - (k + 1)) + 1 := by omega
 have e3 : (R.take k).length = k := by simp;omega
 rw [prR,prR,e,e2,List.replicate_succ,List.set_append_right _ _ (by omega),List.take_succ_eq_append_getElem hk,e3,Nat.sub_self,List.set_cons_zero,List.append_assoc]
 rfl
theorem szP_mono (R : List Rw) {a b : Nat} (h : a ≤ b) : szP R a ≤ szP R b := by
 unfold szP
 obtain ⟨c,rfl⟩ := Nat.exists_eq_add_of_le h
 rw [List.take_add,List.map_append,List.sum_append]
 omega
theorem prR_all (R : List Rw) : prR R R.length = R := by simp [prR]
set_option maxRecDepth 100000 in
set_option maxHeartbeats 3200000 in
theorem toRs_any (a : Option Addr) (cap : Nat) (R : List Rw) (w : World) (hv : Cel.vw w (lcl 8 rw8 R) (.slice a R.length cap)) (hf : ∀ r ∈ R,FitR r) (hs : szRs R ≤ 1048576) :
  Calls Try.prog 72 #[.slice a R.length cap] w fun e w' => ∃ a' c',e = .returned (.slice a' R.length c') ∧ NewO w w' (lcl 8 rw8 R) (.slice a' R.length c') := by
 have HV : Hid (Cel.vw w (lcl 8 rw8 R) (.slice a R.length cap)) := hv
 have hl : R.length ≤ 1048576 := by unfold szRs at hs;omega
 have HSZ : Hid (∀ k,k < R.length → szRw (rowN R k) ≤ 1048576) := fun k hk => by
  have h1 : szP R (k + 1) ≤ szP R R.length := szP_mono R (by omega)
  rw [szP_next hk] at h1
  unfold szRs at hs
  omega
 have hmk := make_rs R.length hl
 have HS : Hid (Cel.ow (w.alloc (.cells (madeCells zero8 (R.length * 8)) 51)) (lcl 8 rw8 (prR R 0)) (.slice (some ⟨w.heap.size,0,none⟩) R.length R.length) (fun b => b = w.heap.size) ∧ Below w.heap.size w (w.alloc (.cells (madeCells zero8 (R.length * 8)) 51))) := by
  refine ⟨?_,oneA16 w _⟩
  have := rows_made w R.length hl
  have e : prR R 0 = List.replicate R.length zeroRw := by simp [prR]
  rw [e]
  exact this
 clear hv
 go_enter Try.func72,Try.ntmps72
 go_wp2_with fail
 clear hmk
 generalize w.alloc (.cells (madeCells zero8 (R.length * 8)) 51) = W0 at *
 go_loopw [4] (fun i wr => ∃ (k : Nat) (fp : Fp),k ≤ R.length ∧ i = .int .i64 k ∧ Cel.ow wr (lcl 8 rw8 (prR R k)) (.slice (some ⟨w.heap.size,0,none⟩) R.length R.length) fp ∧ (∀ b,fp b → w.heap.size ≤ b) ∧ Below w.heap.size w wr) (fun i _ => R.length - (intOf i).toNat)
 case atStart => exact ⟨0,_,Nat.zero_le _,rfl,HS.out.1,fun b h => by rw [h];exact Nat.le_refl _,HS.out.2⟩
 case round =>
  obtain ⟨k,fp,hk,rfl,ho,hfp,hb⟩ := hrel
  by_cases hlt : k < R.length
  ·have k1 : (k : Int) < (R.length : Int) := by omega
   have k0 : (0 : Int) ≤ (k : Int) := by omega
   have hmem : rowN R k ∈ R := rowN_mem hlt
   obtain ⟨g,off,hra,hpv⟩ := vw_elF rw8_len (Cel.vw_below HV.out hb) (k := k) (x := rowN R k) (by simp [rowN,List.getD,hlt])
   obtain ⟨Ak,⟨⟨d0,d1,d2,d3⟩,d4,d5,d6,d7⟩,hrs⟩ := hpv.row (hf _ hmem)
   subst hra
   have hz := HSZ.out k hlt
   unfold szRw at hz
   have hC := toRw_any Ak (rowN R k) wr hrs (by omega) (by omega) (by omega) (by omega)
   unfold rwV rwC at hC
   have hpl := prR_len hk
   rw [← hpl] at ho
   obtain ⟨g1,off1,f1,e1,hfg,hfs,hP,hglt,hput⟩ := ow_elF rw8_len (by omega) ho (prR_at hlt)
   cases e1
   have hput := fun w1 => hput w1 (rowN R k)
   rw [prR_set hlt,hpl] at hput
   simp only [Nat.zero_add] at hP hput
   have HPut : Hid (∀ w1 : World,Bcm wr w1 w.heap.size (k * 8) (rw8 (rowN R k)) f1 → ∃ fp',Cel.ow w1 (lcl 8 rw8 (prR R (k + 1))) (.slice (some ⟨w.heap.size,0,none⟩) R.length R.length) fp' ∧ (∀ b,fp' b → fp b ∨ wr.heap.size ≤ b) ∧ Wrt fp wr w1) := hput
   have HP : Hid (Plc wr w.heap.size (k * 8) (rw8 zeroRw) f1) := hP
   have HB : Hid (Below w.heap.size w wr) := hb
   have HFP : Hid (∀ b,fp b → w.heap.size ≤ b) := hfp
   generalize rowN R k = r at *
   clear hrs hpv hb ho hput hP hz hpl hfs hmem
   go_wp2_with fail
   refine hC.mono ?_
   rintro e w1 ⟨A1,rfl,fr,hl1,hfr,hb1⟩
   have HA := HP.out.all hb1 (ow_rw8 hl1) rfl hfr
   obtain ⟨vs0,hpc,hov,_⟩ := HP.out
   have hl8 : vs0.length = 8 := owL_len hov
   have hpc1 := hpc.of_block (hb1.block _ hpc.lt) hb1.size
   have cc : ∀ j,j < 8 → ∃ u,w1.cell? ⟨w.heap.size,k * 8 + j,none⟩ = some u ∧ w1.frozen? ⟨w.heap.size,k * 8 + j,none⟩ = false := fun j hj => ⟨_,(hpc1.cell j (by omega)).trans (List.getElem?_eq_getElem (by omega)),hpc1.free j (by omega)⟩
   obtain ⟨u0,e0,f0⟩ := cc 0 (by omega)
   obtain ⟨u1,e1,f1'⟩ := cc 1 (by omega)
   obtain ⟨u2,e2,f2⟩ := cc 2 (by omega)
   obtain ⟨u3,e3,f3⟩ := cc 3 (by omega)
   obtain ⟨u4,e4,f4⟩ := cc 4 (by omega)
   obtain ⟨u5,e5,f5⟩ := cc 5 (by omega)
   obtain ⟨u6,e6,f6⟩ := cc 6 (by omega)
   obtain ⟨u7,e7,f7⟩ := cc 7 (by omega)
   simp only [Nat.add_zero] at e0 f0
   obtain ⟨fp',hN1,hN2,hN3⟩ := HPut.out _ HA
   have HN1 : Hid (Cel.ow _ (lcl 8 rw8 (prR R (k + 1))) (.slice (some ⟨w.heap.size,0,none⟩) R.length R.length) fp') := hN1
   have HN3 : Hid (Wrt fp wr _) := hN3
   have HN2 : Hid (∀ b,fp' b → fp b ∨ wr.heap.size ≤ b) := hN2
   have hsz := HB.out.size
   clear d0 d1 d2 d3 d4 d5 d6 d7 hC hb1 hl1 hN1 hN2 hN3 HA cc hpc1 hov hpc
   unfold rwV rwC
   go_wp2
   go_roundw
   case rel => exact ⟨k + 1,fp',by omega,by go_num,HN1.out,fun b hb => by have := HFP.out b;rcases HN2.out b hb with h | h;exact this h;omega,HN3.out.below HB.out hsz HFP.out⟩
   case measure => simp [intOf];omega
  ·obtain rfl : k = R.length := by omega
   have k1 : ¬ ((R.length : Int) < (R.length : Int)) := by omega
   have HE : Hid (NewO w wr (lcl 8 rw8 R) (.slice (some ⟨w.heap.size,0,none⟩) R.length R.length)) := by rw [prR_all] at ho;exact ⟨fp,ho,hfp,hb⟩
   clear ho hb
   go_wp2
   go_ret
   exact ⟨_,_,rfl,HE.out⟩
end Go.Proofs.Ythioodpmgifomaa
namespace Go.Proofs.Ythioodpmgifomaa
set_option linter.unusedVariables false
set_option linter.unusedSimpArgs false
open Go.RowKit Go.Sort
structure TM (w X : World) (S O : Array Value) (cs : List Cel) (vs : List Value) (fp : Fp) : Prop where
 src : Bx X w.heap.size 35 S
 res : Bx X (w.heap.size + 1) 39 #[.int .i64 0,.int .i64 0,.slice none 0 0,.slice none 0 0,.bool false]
 out : Bx X (w.heap.size + 1 + 1) 39 O
 own : owL X cs vs fp
 fpl : ∀ b,fp b → w.heap.size + 1 + 1 < b
 below : Below w.heap.size w X
theorem TM.set {w X : World} {S O : Array Value} {cs : List Cel} {vs : List Value} {fp : Fp} (h : TM w X S O cs vs fp) (i : Nat) (v : Value) : TM w (X.setCell ⟨w.heap.size + 1 + 1,i,none⟩ v) S (O.setIfInBounds i v) cs vs fp :=
 ⟨h.src.far (by omega) v,h.res.far (by omega) v,h.out.setC i v,owL_wrt h.own (Wrt.set X (w.heap.size + 1 + 1) i v) (fun b hb e => by have := h.fpl b hb;omega),h.fpl,h.below.setCell (p := ⟨w.heap.size + 1 + 1,i,none⟩) (show w.heap.size ≤ w.heap.size + 1 + 1 by omega) v⟩
theorem TM.add {w X X' : World} {S O : Array Value} {cs : List Cel} {vs : List Value} {fp : Fp} (h : TM w X S O cs vs fp) {c : Cel} {v : Value} (hN : NewO X X' c v) : ∃ fp',TM w X' S O (cs ++ [c]) (vs ++ [v]) fp' := by
 obtain ⟨f,ho,hf,hb⟩ := hN
 have hol := h.out.lt
 refine ⟨fun b => fp b ∨ f b,h.src.below hb,h.res.below hb,h.out.below hb,owL_append (owL_below h.own hb) (owL_one.2 ho) (fun b h1 h2 => ?_),fun b hb => ?_,h.below.trans (hb.mono h.below.size)⟩
 ·have := owL_lt h.own b h1
  have := hf b h2
  omega
 ·rcases hb with hb | hb
  ·exact h.fpl b hb
  ·have := hf b hb;omega
set_option maxRecDepth 100000 in
set_option maxHeartbeats 3200000 in
theorem toMb_any (A : Ma) (m : Mb) (w : World) (hv : MbS w A m) (hs : szMb m ≤ 1048576) :
  Calls Try.prog 28 #[mbV A m] w fun e w' => AnsMb w w' e m := by
 have HR : Hid (∀ X,Below w.heap.size w X → Calls Try.prog 72 #[.slice A.ra m.rows.length A.rc] X fun e w' => ∃ a' c',e = .returned (.slice a' m.rows.length c') ∧ NewO X w' (lcl 8 rw8 m.rows) (.slice a' m.rows.length c')) := fun X h => toRs_any A.ra A.rc m.rows X (hv.below h).rows hv.fit (by unfold szMb at hs;omega)
 have HG : Hid (∀ X,Below w.heap.size w X → Calls Try.prog 73 #[.slice A.sa m.sung.length A.sc] X fun e w' => ∃ a' c',e = .returned (.slice a' m.sung.length c') ∧ NewO X w' (icl m.sung) (.slice a' m.sung.length c')) := fun X h => toI16 A.sa A.sc m.sung X (hv.below h).sung (by unfold szMb at hs;omega)
 obtain ⟨id,n,rows,sung,done⟩ := m
 obtain ⟨ra,rc,sa,sc⟩ := A
 simp only at HR HG
 have T0 : TM w (((w.alloc (.cells #[.int .i64 id,.int .i64 n,.slice ra rows.length rc,.slice sa sung.length sc,.bool done] 35)).alloc (.cells #[.int .i64 0,.int .i64 0,.slice none 0 0,.slice none 0 0,.bool false] 39)).alloc (.cells #[.int .i64 id,.int .i64 n,.slice none 0 0,.slice none 0 0,.bool false] 39)) #[.int .i64 id,.int .i64 n,.slice ra rows.length rc,.slice sa sung.length sc,.bool done] #[.int .i64 id,.int .i64 n,.slice none 0 0,.slice none 0 0,.bool false] [] [] (fun _ => False) := by
  have x0 := ((Bx.new w 35 #[.int .i64 id,.int .i64 n,.slice ra rows.length rc,.slice sa sung.length sc,.bool done]).alloc (.cells #[.int .i64 0,.int .i64 0,.slice none 0 0,.slice none 0 0,.bool false] 39)).alloc (.cells #[.int .i64 id,.int .i64 n,.slice none 0 0,.slice none 0 0,.bool false] 39)
  have x1 := (Bx.new (w.alloc (.cells #[.int .i64 id,.int .i64 n,.slice ra rows.length rc,.slice sa sung.length sc,.bool done] 35)) 39 #[.int .i64 0,.int .i64 0,.slice none 0 0,.slice none 0 0,.bool false]).alloc (.cells #[.int .i64 id,.int .i64 n,.slice none 0 0,.slice none 0 0,.bool false] 39)
  have x2 := Bx.new ((w.alloc (.cells #[.int .i64 id,.int .i64 n,.slice ra rows.length rc,.slice sa sung.length sc,.bool done] 35)).alloc (.cells #[.int .i64 0,.int .i64 0,.slice none 0 0,.slice none 0 0,.bool false] 39)) 39 #[.int .i64 id,.int .i64 n,.slice none 0 0,.slice none 0 0,.bool false]
  simp only [World.size_alloc] at x1 x2
  exact ⟨x0,x1,x2,⟨rfl,fun _ h => h⟩,fun b h => h.elim,((Below.refl _ _).alloc (Nat.le_refl _) _).alloc (by simp) _ |>.alloc (by simp only [World.size_alloc];omega) _⟩
 have hC1 := HR.out _ T0.below
 have HT0 : Hid (TM w (((w.alloc (.cells #[.int .i64 id,.int .i64 n,.slice ra rows.length rc,.slice sa sung.length sc,.bool done] 35)).alloc (.cells #[.int .i64 0,.int .i64 0,.slice none 0 0,.slice none 0 0,.bool false] 39)).alloc (.cells #[.int .i64 id,.int .i64 n,.slice none 0 0,.slice none 0 0,.bool false] 39)) #[.int .i64 id,.int .i64 n,.slice ra rows.length rc,.slice sa sung.length sc,.bool done] #[.int .i64 id,.int .i64 n,.slice none 0 0,.slice none 0 0,.bool false] [] [] (fun _ => False)) := T0
 unfold mbV mbC
 simp only
 clear hv T0
 go_enter Try.func28,Try.ntmps28
 go_wp2_with fail
 refine hC1.mono ?_
 rintro e w1 ⟨a1,c1,rfl,hN1⟩
 obtain ⟨fp1,T1⟩ := HT0.out.add hN1
 obtain ⟨s0,s1,s2,s3,s4⟩ := Bx.r5 T1.src
 obtain ⟨o0,o1,o2,o3,o4⟩ := Bx.r5 (show Bx _ _ _ #[.int .i64 id,.int .i64 n,.slice none 0 0,.slice none 0 0,.bool false] from T1.out)
 obtain ⟨f0,f1,f2,f3,f4⟩ := T1.out.f5
 have T1s := T1.set 2 (.slice a1 rows.length c1)
 have T1' : TM w (w1.setCell ⟨w.heap.size + 1 + 1,2,none⟩ (.slice a1 rows.length c1)) #[.int .i64 id,.int .i64 n,.slice ra rows.length rc,.slice sa sung.length sc,.bool done] #[.int .i64 id,.int .i64 n,.slice a1 rows.length c1,.slice none 0 0,.bool false] ([] ++ [lcl 8 rw8 rows]) ([] ++ [.slice a1 rows.length c1]) fp1 := by simpa using T1s
 have hC2 := HG.out _ T1'.below
 have HT1 : Hid (TM w (w1.setCell ⟨w.heap.size + 1 + 1,2,none⟩ (.slice a1 rows.length c1)) #[.int .i64 id,.int .i64 n,.slice ra rows.length rc,.slice sa sung.length sc,.bool done] #[.int .i64 id,.int .i64 n,.slice a1 rows.length c1,.slice none 0 0,.bool false] ([] ++ [lcl 8 rw8 rows]) ([] ++ [.slice a1 rows.length c1]) fp1) := T1'
 have x0 : (w1.setCell ⟨w.heap.size + 1 + 1,2,none⟩ (.slice a1 rows.length c1)).cell? ⟨w.heap.size,3,none⟩ = some (.slice sa sung.length sc) := T1'.src.at 3 rfl
 clear hN1 T1 T1s T1' hC1 HT0
 go_wp2_with fail
 refine hC2.mono ?_
 rintro e w2 ⟨a2,c2,rfl,hN2⟩
 clear s0 s1 s2 s3 s4 o0 o1 o2 o3 o4 f0 f1 f2 f3 f4 x0
 obtain ⟨fp2,T2⟩ := HT1.out.add hN2
 have p0 := (show Bx _ _ _ #[.int .i64 id,.int .i64 n,.slice a1 rows.length c1,.slice none 0 0,.bool false] from T2.out).at 3 rfl
 have q0 := T2.out.f 3
 have T2as := T2.set 3 (.slice a2 sung.length c2)
 have T2a : TM w (w2.setCell ⟨w.heap.size + 1 + 1,3,none⟩ (.slice a2 sung.length c2)) #[.int .i64 id,.int .i64 n,.slice ra rows.length rc,.slice sa sung.length sc,.bool done] #[.int .i64 id,.int .i64 n,.slice a1 rows.length c1,.slice a2 sung.length c2,.bool false] (([] ++ [lcl 8 rw8 rows]) ++ [icl sung]) (([] ++ [.slice a1 rows.length c1]) ++ [.slice a2 sung.length c2]) fp2 := by simpa using T2as
 have s4 : (w2.setCell ⟨w.heap.size + 1 + 1,3,none⟩ (.slice a2 sung.length c2)).cell? ⟨w.heap.size,4,none⟩ = _ := T2a.src.at 4 rfl
 have p4 := T2a.out.at 4 rfl
 have q4 := T2a.out.f 4
 have T2bs := T2a.set 4 (.bool done)
 have T2b : TM w ((w2.setCell ⟨w.heap.size + 1 + 1,3,none⟩ (.slice a2 sung.length c2)).setCell ⟨w.heap.size + 1 + 1,4,none⟩ (.bool done)) #[.int .i64 id,.int .i64 n,.slice ra rows.length rc,.slice sa sung.length sc,.bool done] #[.int .i64 id,.int .i64 n,.slice a1 rows.length c1,.slice a2 sung.length c2,.bool done] (([] ++ [lcl 8 rw8 rows]) ++ [icl sung]) (([] ++ [.slice a1 rows.length c1]) ++ [.slice a2 sung.length c2]) fp2 := by simpa using T2bs
 obtain ⟨o0,o1,o2,o3,o4⟩ := Bx.r5 (show Bx _ _ _ #[.int .i64 id,.int .i64 n,.slice a1 rows.length c1,.slice a2 sung.length c2,.bool done] from T2b.out)
 obtain ⟨r0,r1,r2,r3,r4⟩ := Bx.r5 T2b.res
 obtain ⟨f0,f1,f2,f3,f4⟩ := T2b.res.f5
 have HT3 : Hid (TM w ((w2.setCell ⟨w.heap.size + 1 + 1,3,none⟩ (.slice a2 sung.length c2)).setCell ⟨w.heap.size + 1 + 1,4,none⟩ (.bool done)) #[.int .i64 id,.int .i64 n,.slice ra rows.length rc,.slice sa sung.length sc,.bool done] #[.int .i64 id,.int .i64 n,.slice a1 rows.length c1,.slice a2 sung.length c2,.bool done] (([] ++ [lcl 8 rw8 rows]) ++ [icl sung]) (([] ++ [.slice a1 rows.length c1]) ++ [.slice a2 sung.length c2]) fp2) := T2b
 clear hN2 T2 T2as T2a T2bs T2b hC2 HT1
 go_wp2
 refine bodyPost_ret (v := .agg #[.int .i64 id,.int .i64 n,.slice a1 rows.length c1,.slice a2 sung.length c2,.bool done]) (by simp [results,Try.results28,go_sem, *]) rfl ?_
 refine ⟨⟨a1,c1,a2,c2⟩,rfl,fp2,owL_wrt HT3.out.own (wrt5 _ (w.heap.size + 1)) (fun b hb e => by have := HT3.out.fpl b hb;omega),fun b hb => by have := HT3.out.fpl b hb;omega,(wrt5 _ (w.heap.size + 1)).below HT3.out.below HT3.out.below.size (fun b e => by rw [e];omega)⟩
end Go.Proofs.Ythioodpmgifomaa
namespace Go.Proofs.Ythioodpmgifomaa
set_option linter.unusedVariables false
set_option linter.unusedSimpArgs false
open Go.RowKit Go.Sort
theorem Bcm.at {w X : World} {B o : Nat} {cs : List Cel} {fp : Fp} (h : Bcm w X B o cs fp) {j : Nat} {c : Cel} (hj : cs[j]? = some c) : ∃ u f,X.cell? ⟨B,o + j,none⟩ = some u ∧ X.frozen? ⟨B,o + j,none⟩ = false ∧ Cel.ow X c u f ∧
  ∀ (X1 : World) (c' : Cel) (u' : Value) (f' : Fp),Wrt f X X1 → Cel.ow X1 c' u' f' → (∀ b,f' b → f b ∨ X.heap.size ≤ b) → X1.cell? ⟨B,o + j,none⟩ = some u ∧ X1.frozen? ⟨B,o + j,none⟩ = false ∧ Bcm w (X1.setCell ⟨B,o + j,none⟩ u') B o (cs.set j c') fp ∧ (u' = u → Bcm w X1 B o (cs.set j c') fp) := by
 obtain ⟨fp1,hp,_,hgo⟩ := h.next
 obtain ⟨u,f,h1,h2,h3,h4,h5,h6⟩ := hp.at hj
 refine ⟨u,f,h1,h2,h3,fun X1 c' u' f' hw hc hf => ?_⟩
 obtain ⟨k1,k2,k3,k4⟩ := h6 X1 c' u' f' hw hc hf
 exact ⟨k1,k2,hgo _ _ (by simp) k3,fun e => hgo _ _ (by simp) (k4 e)⟩
theorem Bcm.put {w X : World} {B o : Nat} {cs : List Cel} {fp : Fp} (h : Bcm w X B o cs fp) {j : Nat} {x : Value} (hj : cs[j]? = some (.v x)) (y : Value) : X.cell? ⟨B,o + j,none⟩ = some x ∧ X.frozen? ⟨B,o + j,none⟩ = false ∧ Bcm w (X.setCell ⟨B,o + j,none⟩ y) B o (cs.set j (.v y)) fp := by
 obtain ⟨u,f,h1,h2,⟨rfl,_⟩,h4⟩ := h.at hj
 exact ⟨h1,h2,(h4 X (.v y) y (fun _ => False) (Wrt.refl _ _) ⟨rfl,fun _ h => h⟩ (fun b hb => hb.elim)).2.2.1⟩
def m3 (k : Int) : Bool := k % 3 == 0
def mk8 (r : Rw) (k : Nat) : Rw :=
 { ver := (k : Int),txt := marksS r.txt.length (k + 1),got := marks r.got.length (k + 1 + r.txt.length),sus := marks r.sus.length (k + 1 + r.txt.length + r.got.length),wed := m3 ((k + 1 + r.txt.length + r.got.length + r.sus.length : Nat) : Int),rdy := m3 (((k + 1 + r.txt.length + r.got.length + r.sus.length : Nat) : Int) + 1),by_ := ((k + 1 + r.txt.length + r.got.length + r.sus.length : Nat) : Int) + 1 + 1,trm := marks r.trm.length (k + 1 + r.txt.length + r.got.length + r.sus.length + 1 + 1 + 1) }
def cnt8 (r : Rw) : Nat := 1 + r.txt.length + r.got.length + r.sus.length + 1 + 1 + 1 + r.trm.length
def cP (R : List Rw) (k : Nat) : Nat := ((R.take k).map cnt8).sum
theorem cP_next {R : List Rw} {k : Nat} (hk : k < R.length) : cP R (k + 1) = cP R k + cnt8 (rowN R k) := by
 have e : rowN R k = R[k] := by simp [rowN,List.getD,hk]
 unfold cP
 rw [List.take_succ_eq_append_getElem hk,List.map_append,List.sum_append,e]
 simp
theorem cP_mono (R : List Rw) {a b : Nat} (h : a ≤ b) : cP R a ≤ cP R b := by
 unfold cP
 obtain ⟨c,rfl⟩ := Nat.exists_eq_add_of_le h
 rw [List.take_add,List.map_append,List.sum_append]
 omega
def mkP (R : List Rw) (k : Nat) : Nat → List Rw
 | 0 => R
 | j + 1 => (mkP R k j).set j (mk8 (rowN R j) (k + cP R j))
theorem mkP_len (R : List Rw) (k : Nat) : ∀ j,(mkP R k j).length = R.length
 | 0 => rfl
 | j + 1 => by rw [mkP,List.length_set,mkP_len R k j]
theorem mkP_row {R : List Rw} {k : Nat} : ∀ {j i : Nat},j ≤ R.length → rowN (mkP R k j) i = if i < j then mk8 (rowN R i) (k + cP R i) else rowN R i
 | 0,i,_ => by simp [mkP]
 | j + 1,i,h => by
  rw [mkP,rowN_set (by rw [mkP_len];omega),mkP_row (by omega)]
  by_cases e : i = j
  ·subst e;rw [if_pos rfl,if_pos (by omega)]
  ·rw [if_neg e]
   by_cases h2 : i < j
   ·rw [if_pos h2,if_pos (by omega)]
   ·rw [if_neg h2,if_neg (by omega)]
set_option maxRecDepth 100000 in
set_option maxHeartbeats 6400000 in
theorem markRs_ow (a : Option Addr) (cap k0 : Nat) (R : List Rw) (fp : Fp) (w : World) (h : Cel.ow w (lcl 8 rw8 R) (.slice a R.length cap) fp) (hk1 : 1 ≤ k0) (hk : k0 + cP R R.length ≤ 10000000) (hm : R.length ≤ maxLen) :
  Calls Try.prog 79 #[.slice a R.length cap,.int .i64 (k0 : Int)] w fun e w' => e = .returned (.int .i64 ((k0 + cP R R.length : Nat) : Int)) ∧ ∃ fp',Cel.ow w' (lcl 8 rw8 (mkP R k0 R.length)) (.slice a R.length cap) fp' ∧ (∀ b,fp' b → fp b ∨ w.heap.size ≤ b) ∧ Wrt fp w w' := by
 unfold maxLen at hm
 have HH : Hid (Cel.ow w (lcl 8 rw8 R) (.slice a R.length cap) fp) := h
 clear h
 go_enter Try.func79,Try.ntmps79
 go_wp2_with fail
 go_loopw [1,5] (fun kv v wr => ∃ (j K : Nat) (fpj : Fp),j ≤ R.length ∧ v = .int .i64 (j : Int) ∧ kv = .int .i64 (K : Int) ∧ Hid (K = k0 + cP R j) ∧ Cel.ow wr (lcl 8 rw8 (mkP R k0 j)) (.slice a R.length cap) fpj ∧ (∀ b,fpj b → fp b ∨ w.heap.size ≤ b) ∧ Wrt fp w wr) (fun _ v _ => R.length - (intOf v).toNat)
 case atStart => exact ⟨0,k0,fp,Nat.zero_le _,rfl,rfl,by simp [Hid,cP],HH.out,fun b hb => .inl hb,Wrt.refl _ _⟩
 case round =>
  obtain ⟨j,K0,fpj,hj,rfl,rfl,hK,ho,hfj,hwj⟩ := hrel
  have HWj : Hid (Wrt fp w wr) := hwj
  have HFj : Hid (∀ b,fpj b → fp b ∨ w.heap.size ≤ b) := hfj
  by_cases hlt : j < R.length
  ·have j1 : (j : Int) < (R.length : Int) := by omega
   have j0 : (0 : Int) ≤ (j : Int) := by omega
   have hlen := mkP_len R k0 j
   have hat : (mkP R k0 j)[j]? = some (rowN R j) := by
    have := mkP_row (k := k0) (i := j) hj
    rw [if_neg (Nat.lt_irrefl _)] at this
    rw [← this]
    simp [rowN,List.getD,hlen,hlt]
   rw [← hlen] at ho
   obtain ⟨g,off,f,rfl,hfg,hfs,hP,hglt,hput⟩ := ow_elF rw8_len (by omega) ho hat
   have hput := fun X => hput X (mk8 (rowN R j) (k0 + cP R j))
   rw [show (mkP R k0 j).set j (mk8 (rowN R j) (k0 + cP R j)) = mkP R k0 (j + 1) from rfl,hlen] at hput
   rw [← hK.out] at hput
   have hKb : K0 + cnt8 (rowN R j) ≤ 10000000 := by
    have h1 := cP_mono R (show j + 1 ≤ R.length from hlt)
    rw [cP_next hlt] at h1
    have := hK.out
    omega
   have HKn : Hid (K0 + cnt8 (rowN R j) = k0 + cP R (j + 1)) := by rw [Hid,cP_next hlt,hK.out];omega
   have hK1 : 1 ≤ K0 := by have := hK.out;omega
   have HPut : Hid (∀ X,Bcm wr X g (off + j * 8) (rw8 (mk8 (rowN R j) K0)) f → ∃ fp',Cel.ow X (lcl 8 rw8 (mkP R k0 (j + 1))) (.slice (some ⟨g,off,none⟩) R.length cap) fp' ∧ (∀ b,fp' b → fpj b ∨ wr.heap.size ≤ b) ∧ Wrt fpj wr X) := hput
   have B0 : Bcm wr wr g (off + j * 8) (rw8 (rowN R j)) f := Bcm.refl hP
   clear ho hput hP hat hlen hfj hwj hK hfs
   generalize rowN R j = r at *
   obtain ⟨v0,z0,B1⟩ := B0.put (j := 0) (x := .int .i64 r.ver) rfl (.int .i64 (K0 : Int))
   simp only [Nat.add_zero] at v0 z0 B1
   have HB1 : Hid (Bcm wr (wr.setCell ⟨g,off + j * 8,none⟩ (.int .i64 (K0 : Int))) g (off + j * 8) ((rw8 r).set 0 (.v (.int .i64 (K0 : Int)))) f) := B1
   unfold cnt8 at hKb
   obtain ⟨Ka,hKa⟩ : ∃ Ka : Nat,Hid (Ka = K0 + 1) := ⟨_,rfl⟩
   have eKa : (Ka : Int) = (K0 : Int) + 1 := by have := hKa.out;omega
   obtain ⟨u1,f1,t1,_,ho1,hp1⟩ := B1.at (j := 1) (c := scl r.txt) rfl
   have hM1 := markS_ow u1 Ka r.txt f1 _ ho1 (by have := hKa.out;omega) (by have := hKa.out;omega) (by omega)
   clear B0 B1 ho1
   obtain ⟨K2,hK2⟩ : ∃ K2 : Nat,Hid (K2 = Ka + r.txt.length) := ⟨_,rfl⟩
   have eK2 : (Ka : Int) + (r.txt.length : Int) = (K2 : Int) := by have := hK2.out;omega
   rw [eK2,eKa] at hM1
   go_wp2_with fail
   refine hM1.mono ?_
   rintro e X1 ⟨rfl,hm1,hw1⟩
   have B2 := (hp1 X1 _ u1 f1 hw1 hm1 (fun b hb => .inl hb)).2.2.2 rfl
   clear hM1 hp1 hm1 hw1 t1 v0 z0 eKa eK2
   obtain ⟨u2,f2,t2,_,ho2,hp2⟩ := B2.at (j := 2) (c := icl r.got) rfl
   have hM2 := markI_ow u2 K2 r.got f2 _ ho2 (by have := hKa.out;have := hK2.out;omega) (by omega)
   obtain ⟨K3,hK3⟩ : ∃ K3 : Nat,Hid (K3 = K2 + r.got.length) := ⟨_,rfl⟩
   have eK3 : (K2 : Int) + (r.got.length : Int) = (K3 : Int) := by have := hK3.out;omega
   rw [eK3] at hM2
   clear B2 ho2
   go_wp2_with fail
   refine hM2.mono ?_
   rintro e X2 ⟨rfl,hm2,hw2⟩
   have B3 := (hp2 X2 _ u2 f2 hw2 hm2 (fun b hb => .inl hb)).2.2.2 rfl
   clear hM2 hp2 hm2 hw2 t2 eK3
   obtain ⟨u3,f3,t3,_,ho3,hp3⟩ := B3.at (j := 3) (c := icl r.sus) rfl
   have hM3 := markI_ow u3 K3 r.sus f3 _ ho3 (by have := hKa.out;have := hK2.out;have := hK3.out;omega) (by omega)
   obtain ⟨K4,hK4⟩ : ∃ K4 : Nat,Hid (K4 = K3 + r.sus.length) := ⟨_,rfl⟩
   have eK4 : (K3 : Int) + (r.sus.length : Int) = (K4 : Int) := by have := hK4.out;omega
   rw [eK4] at hM3
   clear B3 ho3
   go_wp2_with fail
   refine hM3.mono ?_
   rintro e X3 ⟨rfl,hm3,hw3⟩
   have B4 := (hp3 X3 _ u3 f3 hw3 hm3 (fun b hb => .inl hb)).2.2.2 rfl
   clear hM3 hp3 hm3 hw3 t3 eK4
   have hK4b : K4 + 3 ≤ K0 + (1 + r.txt.length + r.got.length + r.sus.length + 1 + 1 + 1 + r.trm.length) := by have := hKa.out;have := hK2.out;have := hK3.out;have := hK4.out;omega
   obtain ⟨v4,z4,B5⟩ := B4.put (j := 4) (x := .bool r.wed) rfl (.bool ((K4 : Int) % 3 == 0))
   obtain ⟨v5,z5,B6⟩ := B5.put (j := 5) (x := .bool r.rdy) rfl (.bool (((K4 : Int) + 1) % 3 == 0))
   obtain ⟨v6,z6,B7⟩ := B6.put (j := 6) (x := .int .i64 r.by_) rfl (.int .i64 ((K4 : Int) + 1 + 1))
   obtain ⟨u7,f7,t7,_,ho7,hp7⟩ := B7.at (j := 7) (c := icl r.trm) rfl
   obtain ⟨K7,hK7⟩ : ∃ K7 : Nat,Hid (K7 = K4 + 1 + 1 + 1) := ⟨_,rfl⟩
   have eK7 : (K7 : Int) = (K4 : Int) + 1 + 1 + 1 := by have := hK7.out;omega
   have hM7 := markI_ow u7 K7 r.trm f7 _ ho7 (by have := hK7.out;omega) (by omega)
   obtain ⟨K8,hK8⟩ : ∃ K8 : Nat,Hid (K8 = K7 + r.trm.length) := ⟨_,rfl⟩
   have eK8 : (K7 : Int) + (r.trm.length : Int) = (K8 : Int) := by have := hK8.out;omega
   rw [eK8,eK7] at hM7
   have HK8 : Hid (K8 = k0 + cP R (j + 1)) := by
    have h1 := HKn.out
    unfold cnt8 at h1
    have := hKa.out;have := hK2.out;have := hK3.out;have := hK4.out;have := hK7.out;have := hK8.out
    rw [Hid]
    omega
   have wj : wrap64 ((j : Int) + 1) = (j : Int) + 1 := by unfold wrap64;omega
   clear B4 B5 B6 B7 ho7 HB1 eK8 eK7
   go_wp2_with fail
   refine hM7.mono ?_
   rintro e X7 ⟨rfl,hm7,hw7⟩
   have B8 := (hp7 X7 _ u7 f7 hw7 hm7 (fun b hb => .inl hb)).2.2.2 rfl
   have hE : rw8 (mk8 r K0) = (((((((((rw8 r).set 0 (.v (.int .i64 (K0 : Int)))).set 1 (scl (marksS r.txt.length Ka))).set 2 (icl (marks r.got.length K2))).set 3 (icl (marks r.sus.length K3))).set 4 (.v (.bool ((K4 : Int) % 3 == 0)))).set 5 (.v (.bool (((K4 : Int) + 1) % 3 == 0)))).set 6 (.v (.int .i64 ((K4 : Int) + 1 + 1)))).set 7 (icl (marks r.trm.length K7))) := by
    rw [hK7.out,hK4.out,hK3.out,hK2.out,hKa.out]
    rfl
   rw [← hE] at B8
   obtain ⟨fp',n1,n2,n3⟩ := HPut.out X7 B8
   have HN1 : Hid (Cel.ow X7 (lcl 8 rw8 (mkP R k0 (j + 1))) (.slice (some ⟨g,off,none⟩) R.length cap) fp') := n1
   have HN2 : Hid (∀ b,fp' b → fpj b ∨ wr.heap.size ≤ b) := n2
   have HN3 : Hid (Wrt fpj wr X7) := n3
   clear hM7 hp7 hm7 hw7 t7 v4 z4 v5 z5 v6 z6 B8 hE n1 n2 n3 HPut
   have hws := HWj.out.size
   clear hKb hK4b hk hK1 hk1
   go_wp2
   go_roundw
   case rel => exact ⟨j + 1,K8,fp',by omega,by go_num,rfl,HK8,HN1.out,fun b hb => by
    rcases HN2.out b hb with h | h
    ·exact HFj.out b h
    ·exact .inr (by omega),HWj.out.trans HN3.out (fun b hb h => by
     rcases HFj.out b h with h | h
     ·exact h
     ·omega)⟩
   case measure => simp [intOf];omega
  ·obtain rfl : j = R.length := by omega
   have k1 : ¬ ((R.length : Int) < (R.length : Int)) := by omega
   have HE : Hid (Cel.ow wr (lcl 8 rw8 (mkP R k0 R.length)) (.slice a R.length cap) fpj) := ho
   clear ho hfj hwj hk hk1
   go_wp2
   go_ret
   exact ⟨ret_int (by rw [hK.out];omega),fpj,HE.out,HFj.out,HWj.out⟩
end Go.Proofs.Ythioodpmgifomaa
namespace Go.Proofs.Ythioodpmgifomaa
set_option linter.unusedVariables false
set_option linter.unusedSimpArgs false
open Go.RowKit Go.Sort
theorem mk8_at {w : World} {g o : Nat} {r : Rw} {K : Nat} {f : Fp} (h : Plc w g o (rw8 (mk8 r K)) f) : ∃ u1 u2 u3 u7 f1 f2 f3 f7,(w.cell? ⟨g,o,none⟩ = some (.int .i64 (K : Int)) ∧ w.cell? ⟨g,o + 1,none⟩ = some u1 ∧ w.cell? ⟨g,o + 2,none⟩ = some u2 ∧ w.cell? ⟨g,o + 3,none⟩ = some u3) ∧ w.cell? ⟨g,o + 4,none⟩ = some (.bool (m3 ((K + 1 + r.txt.length + r.got.length + r.sus.length : Nat) : Int))) ∧ w.cell? ⟨g,o + 5,none⟩ = some (.bool (m3 (((K + 1 + r.txt.length + r.got.length + r.sus.length : Nat) : Int) + 1))) ∧ w.cell? ⟨g,o + 6,none⟩ = some (.int .i64 (((K + 1 + r.txt.length + r.got.length + r.sus.length : Nat) : Int) + 1 + 1)) ∧ w.cell? ⟨g,o + 7,none⟩ = some u7 ∧
  Cel.ow w (scl (marksS r.txt.length (K + 1))) u1 f1 ∧ Cel.ow w (icl (marks r.got.length (K + 1 + r.txt.length))) u2 f2 ∧ Cel.ow w (icl (marks r.sus.length (K + 1 + r.txt.length + r.got.length))) u3 f3 ∧ Cel.ow w (icl (marks r.trm.length (K + 1 + r.txt.length + r.got.length + r.sus.length + 1 + 1 + 1))) u7 f7 := by
 obtain ⟨u0,g0,c0,_,⟨rfl,_⟩,_⟩ := h.at (j := 0) (c := .v (.int .i64 (K : Int))) rfl
 obtain ⟨u1,f1,c1,_,o1,_⟩ := h.at (j := 1) (c := scl (marksS r.txt.length (K + 1))) rfl
 obtain ⟨u2,f2,c2,_,o2,_⟩ := h.at (j := 2) (c := icl (marks r.got.length (K + 1 + r.txt.length))) rfl
 obtain ⟨u3,f3,c3,_,o3,_⟩ := h.at (j := 3) (c := icl (marks r.sus.length (K + 1 + r.txt.length + r.got.length))) rfl
 obtain ⟨u4,g4,c4,_,⟨rfl,_⟩,_⟩ := h.at (j := 4) (c := .v (.bool (m3 ((K + 1 + r.txt.length + r.got.length + r.sus.length : Nat) : Int)))) rfl
 obtain ⟨u5,g5,c5,_,⟨rfl,_⟩,_⟩ := h.at (j := 5) (c := .v (.bool (m3 (((K + 1 + r.txt.length + r.got.length + r.sus.length : Nat) : Int) + 1)))) rfl
 obtain ⟨u6,g6,c6,_,⟨rfl,_⟩,_⟩ := h.at (j := 6) (c := .v (.int .i64 (((K + 1 + r.txt.length + r.got.length + r.sus.length : Nat) : Int) + 1 + 1))) rfl
 obtain ⟨u7,f7,c7,_,o7,_⟩ := h.at (j := 7) (c := icl (marks r.trm.length (K + 1 + r.txt.length + r.got.length + r.sus.length + 1 + 1 + 1))) rfl
 exact ⟨u1,u2,u3,u7,f1,f2,f3,f7,⟨c0,c1,c2,c3⟩,c4,c5,c6,c7,o1,o2,o3,o7⟩
set_option maxRecDepth 100000 in
set_option maxHeartbeats 6400000 in
theorem heldRs_ow (a : Option Addr) (cap k0 : Nat) (R : List Rw) (fp : Fp) (w : World) (h : Cel.ow w (lcl 8 rw8 (mkP R k0 R.length)) (.slice a R.length cap) fp) (hk1 : 1 ≤ k0) (hk : k0 + cP R R.length ≤ 10000000) (hm : R.length ≤ maxLen) :
  Calls Try.prog 81 #[.slice a R.length cap,.int .i64 (k0 : Int)] w fun e w' => e = .returned (.int .i64 ((k0 + cP R R.length : Nat) : Int)) ∧ Below w.heap.size w w' := by
 unfold maxLen at hm
 have HH : Hid (Cel.ow w (lcl 8 rw8 (mkP R k0 R.length)) (.slice a R.length cap) fp) := h
 clear h
 go_enter Try.func81,Try.ntmps81
 go_wp2_with fail
 go_loopw [1,5] (fun kv v wr => ∃ (j K : Nat),j ≤ R.length ∧ v = .int .i64 (j : Int) ∧ kv = .int .i64 (K : Int) ∧ Hid (K = k0 + cP R j) ∧ Below w.heap.size w wr) (fun _ v _ => R.length - (intOf v).toNat)
 case atStart => exact ⟨0,k0,Nat.zero_le _,rfl,rfl,by simp [Hid,cP],Below.refl _ _⟩
 case round =>
  obtain ⟨j,K0,hj,rfl,rfl,hK,hb⟩ := hrel
  have HB : Hid (Below w.heap.size w wr) := hb
  by_cases hlt : j < R.length
  ·have j1 : (j : Int) < (R.length : Int) := by omega
   have j0 : (0 : Int) ≤ (j : Int) := by omega
   have hlen := mkP_len R k0 R.length
   have hat : (mkP R k0 R.length)[j]? = some (mk8 (rowN R j) (k0 + cP R j)) := by
    have := mkP_row (k := k0) (i := j) (Nat.le_refl R.length)
    rw [if_pos hlt] at this
    rw [← this]
    simp [rowN,List.getD,hlen,hlt]
   have ho := Cel.ow_below HH.out hb
   generalize mkP R k0 R.length = MM at ho hlen hat
   rw [← hlen] at ho
   obtain ⟨g,off,f,rfl,hfg,hfs,hP,hglt,hput⟩ := ow_elF rw8_len (by omega) ho hat
   rw [← hK.out] at hP
   have hKb : K0 + cnt8 (rowN R j) ≤ 10000000 := by
    have h1 := cP_mono R (show j + 1 ≤ R.length from hlt)
    rw [cP_next hlt] at h1
    have := hK.out
    omega
   have HKn : Hid (K0 + cnt8 (rowN R j) = k0 + cP R (j + 1)) := by rw [Hid,cP_next hlt,hK.out];omega
   have hK1 : 1 ≤ K0 := by have := hK.out;omega
   have HP : Hid (∀ X,Below wr.heap.size wr X → Plc X g (off + j * 8) (rw8 (mk8 (rowN R j) K0)) f) := fun X hX => hP.below hX
   clear ho hput hP hat hlen hK hfs hb
   generalize rowN R j = r at *
   unfold cnt8 at hKb
   obtain ⟨u1,u2,u3,u7,f1,f2,f3,f7,⟨c0,c1,c2,c3⟩,c4,c5,c6,c7,o1,o2,o3,o7⟩ := mk8_at (HP.out wr (Below.refl _ _))
   obtain ⟨Ka,hKa⟩ : ∃ Ka : Nat,Hid (Ka = K0 + 1) := ⟨_,rfl⟩
   rw [← hKa.out] at o1
   have eKa : (Ka : Int) = (K0 : Int) + 1 := by have := hKa.out;omega
   have hM1 := heldS_ow u1 Ka r.txt.length f1 wr o1 (by have := hKa.out;omega) (by have := hKa.out;omega) (by omega)
   obtain ⟨K2,hK2⟩ : ∃ K2 : Nat,Hid (K2 = Ka + r.txt.length) := ⟨_,rfl⟩
   have eK2 : (Ka : Int) + (r.txt.length : Int) = (K2 : Int) := by have := hK2.out;omega
   rw [eK2,eKa] at hM1
   have ne0 : ((K0 : Int) != (K0 : Int)) = false := by simp
   clear o1 o2 o3 o7 c2 c3 c4 c5 c6 c7 eKa eK2
   go_wp2_with fail
   refine hM1.mono ?_
   rintro e X1 ⟨rfl,hb1⟩
   have HB1 : Hid (Below w.heap.size w X1) := HB.out.trans (hb1.mono HB.out.size)
   have hPP := HP.out X1 hb1
   clear hM1 c0 c1 ne0 hb1
   obtain ⟨u1,u2,u3,u7,f1,f2,f3,f7,⟨c0,c1,c2,c3⟩,c4,c5,c6,c7,o1,o2,o3,o7⟩ := mk8_at hPP
   have eA : K0 + 1 + r.txt.length = K2 := by have := hKa.out;have := hK2.out;omega
   rw [eA] at o2 o3 o7 c4 c5 c6
   obtain ⟨K3,hK3⟩ : ∃ K3 : Nat,Hid (K3 = K2 + r.got.length) := ⟨_,rfl⟩
   rw [← hK3.out] at o3 o7 c4 c5 c6
   obtain ⟨K4,hK4⟩ : ∃ K4 : Nat,Hid (K4 = K3 + r.sus.length) := ⟨_,rfl⟩
   rw [← hK4.out] at o7 c4 c5 c6
   obtain ⟨K7,hK7⟩ : ∃ K7 : Nat,Hid (K7 = K4 + 1 + 1 + 1) := ⟨_,rfl⟩
   rw [← hK7.out] at o7
   obtain ⟨K8,hK8⟩ : ∃ K8 : Nat,Hid (K8 = K7 + r.trm.length) := ⟨_,rfl⟩
   have HK8 : Hid (K8 = k0 + cP R (j + 1)) := by
    have h1 := HKn.out
    unfold cnt8 at h1
    have := hKa.out;have := hK2.out;have := hK3.out;have := hK4.out;have := hK7.out;have := hK8.out
    rw [Hid]
    omega
   have hK8b : K8 ≤ 10000000 := by
    have h1 := HKn.out
    have := hKa.out;have := hK2.out;have := hK3.out;have := hK4.out;have := hK7.out;have := hK8.out
    omega
   have hM2 := heldI_ow u2 K2 r.got.length f2 X1 o2 (by have := hK3.out;have := hK4.out;have := hK7.out;have := hK8.out;omega) (by omega)
   have hM3 := heldI_ow u3 K3 r.sus.length f3 X1 o3 (by have := hK4.out;have := hK7.out;have := hK8.out;omega) (by omega)
   have hM7 := heldI_ow u7 K7 r.trm.length f7 X1 o7 (by have := hK8.out;omega) (by omega)
   rw [show (K2 : Int) + (r.got.length : Int) = (K3 : Int) by have := hK3.out;omega] at hM2
   rw [show (K3 : Int) + (r.sus.length : Int) = (K4 : Int) by have := hK4.out;omega] at hM3
   rw [show (K7 : Int) + (r.trm.length : Int) = (K8 : Int) by have := hK8.out;omega,show (K7 : Int) = (K4 : Int) + 1 + 1 + 1 by have := hK7.out;omega] at hM7
   unfold m3 at c4 c5
   have n4 : (((K4 : Int) % 3 == 0) != ((K4 : Int) % 3 == 0)) = false := by simp
   have n5 : ((((K4 : Int) + 1) % 3 == 0) != (((K4 : Int) + 1) % 3 == 0)) = false := by simp
   have n6 : (((K4 : Int) + 1 + 1) != ((K4 : Int) + 1 + 1)) = false := by simp
   have p2 : ¬ ((K2 : Int) < 0) := by omega
   have p3 : ¬ ((K3 : Int) < 0) := by omega
   have p4 : ¬ ((K4 : Int) < 0) := by omega
   have p8 : ¬ ((K8 : Int) < 0) := by omega
   have hK4b : K4 ≤ 10000000 := by have := hK7.out;have := hK8.out;omega
   clear o1 o2 o3 o7 hPP eA hKb hK8b hk hK1 hk1 c0 c1
   go_wp2_with fail
   refine hM2.mono ?_
   rintro e X2 ⟨rfl,hx2⟩
   obtain rfl := hx2.symm
   clear hM2 hx2
   go_wp2_with fail
   refine hM3.mono ?_
   rintro e X3 ⟨rfl,hx3⟩
   obtain rfl := hx3.symm
   clear hM3 hx3
   go_wp2_with fail
   refine hM7.mono ?_
   rintro e X7 ⟨rfl,hx7⟩
   obtain rfl := hx7.symm
   clear hM7 hx7 c2 c3 c4 c5 c6 c7 n4 n5 n6 hK4b
   go_wp2
   go_roundw
   case rel => exact ⟨j + 1,K8,by omega,by go_num,rfl,HK8,HB1.out⟩
   case measure => simp [intOf];omega
  ·obtain rfl : j = R.length := by omega
   have k1 : ¬ ((R.length : Int) < (R.length : Int)) := by omega
   clear hb hk hk1
   go_wp2
   go_ret
   exact ⟨ret_int (by rw [hK.out];omega),HB.out⟩
end Go.Proofs.Ythioodpmgifomaa
namespace Go.Proofs.Ythioodpmgifomaa
set_option linter.unusedVariables false
set_option linter.unusedSimpArgs false
open Go.RowKit Go.Sort
theorem owL_two {w : World} {c1 c2 : Cel} {v1 v2 : Value} {f : Fp} (h : owL w [c1,c2] [v1,v2] f) : ∃ f1 f2,Cel.ow w c1 v1 f1 ∧ Cel.ow w c2 v2 f2 ∧ (∀ b,f1 b → ¬ f2 b) ∧ ∀ b,f b ↔ f1 b ∨ f2 b := by
 obtain ⟨u1,us1,f1,g1,e1,o1,h2,d1,i1⟩ := h
 cases e1
 obtain ⟨u2,us2,f2,g2,e2,o2,h3,d2,i2⟩ := h2
 cases e2
 have hg : ∀ b,¬ g2 b := h3.2
 refine ⟨f1,f2,o1,o2,fun b h1 h2 => d1 b h1 ((i2 b).2 (.inl h2)),fun b => ?_⟩
 rw [i1,i2]
 exact ⟨fun h => h.imp id (fun h => h.elim id (fun h => absurd h (hg b))),fun h => h.imp id .inl⟩
theorem owL_both {w : World} {c1 c2 : Cel} {v1 v2 : Value} {f1 f2 : Fp} (h1 : Cel.ow w c1 v1 f1) (h2 : Cel.ow w c2 v2 f2) (hd : ∀ b,f1 b → ¬ f2 b) : owL w [c1,c2] [v1,v2] (fun b => f1 b ∨ f2 b) :=
 ⟨v1,[v2],f1,f2,rfl,h1,⟨v2,[],f2,fun _ => False,rfl,h2,⟨rfl,fun _ h => h⟩,fun _ _ h => h,fun b => by simp⟩,hd,fun b => Iff.rfl⟩
def mkMb (m : Mb) (k : Nat) : Mb := { m with rows := mkP m.rows k m.rows.length,sung := marks m.sung.length (k + cP m.rows m.rows.length) }
def cntMb (m : Mb) : Nat := cP m.rows m.rows.length + m.sung.length
set_option maxRecDepth 100000 in
set_option maxHeartbeats 1600000 in
theorem markMb_it (A : Ma) (m : Mb) (k0 lo hi : Nat) (w : World) (h : It w (mbCels m) (mbVals A m) lo hi) (hlo : lo ≤ w.heap.size) (hh : hi ≤ w.heap.size) (hk1 : 1 ≤ k0) (hk : k0 + cntMb m ≤ 10000000) (hm : m.rows.length ≤ maxLen) :
  Calls Try.prog 31 #[mbV A m,.int .i64 (k0 : Int)] w fun e w' => e = .returned (.int .i64 ((k0 + cntMb m : Nat) : Int)) ∧ It w' (mbCels (mkMb m k0)) (mbVals A m) lo w'.heap.size ∧ Wrt (Iv lo hi) w w' := by
 have hb := oneA16 w (.cells (mbC A m) 39)
 have hx := Bx.new w 39 (mbC A m)
 obtain ⟨fp,hl,hfp⟩ := h.below hb
 obtain ⟨f1,f2,o1,o2,hd,hi2⟩ := owL_two hl
 have HF1 : Hid (∀ b,f1 b → lo ≤ b ∧ b < hi) := fun b hb => hfp b ((hi2 b).2 (.inl hb))
 have HF2 : Hid (∀ b,f2 b → lo ≤ b ∧ b < hi) := fun b hb => hfp b ((hi2 b).2 (.inr hb))
 have HD : Hid (∀ b,f1 b → ¬ f2 b) := hd
 obtain ⟨id,n,rows,sung,done⟩ := m
 obtain ⟨ra,rc,sa,sc⟩ := A
 unfold cntMb at hk ⊢
 simp only at hk hm o1 o2 ⊢
 unfold mbV
 unfold mbC at *
 simp only at *
 have HW0 : Hid (Wrt (Iv lo hi) w (w.alloc (.cells #[.int .i64 id,.int .i64 n,.slice ra rows.length rc,.slice sa sung.length sc,.bool done] 39))) := Wrt.of_below hb
 have hws := hb.size
 generalize hWW : w.alloc (.cells #[.int .i64 id,.int .i64 n,.slice ra rows.length rc,.slice sa sung.length sc,.bool done] 39) = W at *
 have HX : Hid (∀ X,Wrt f1 W X → Bx X w.heap.size 39 #[.int .i64 id,.int .i64 n,.slice ra rows.length rc,.slice sa sung.length sc,.bool done]) := fun X hX => hx.wrt hX (fun k => by have := (HF1.out _ k).2;omega)
 obtain ⟨c0,c1,c2,c3,c4⟩ := Bx.r5 (HX.out W (Wrt.refl _ _))
 obtain ⟨KR,hKR⟩ : ∃ KR : Nat,Hid (KR = k0 + cP rows rows.length) := ⟨_,rfl⟩
 have hM1 := markRs_ow ra rc k0 rows f1 W o1 hk1 (by omega) hm
 rw [← hKR.out] at hM1
 have HO2 : Hid (Cel.ow W (icl sung) (.slice sa sung.length sc) f2) := o2
 have hsb : sung.length ≤ 10000000 := by omega
 have HKb : Hid (KR + sung.length ≤ 10000000) := by have := hKR.out;rw [Hid];omega
 clear h hl hfp hi2 o1 o2 hx hb hd hk
 go_enter Try.func31,Try.ntmps31
 go_wp2_with fail
 refine hM1.mono ?_
 rintro e X1 ⟨rfl,g1,q1,hg1,hw1⟩
 have HQ1 : Hid (Cel.ow X1 (lcl 8 rw8 (mkP rows k0 rows.length)) (.slice ra rows.length rc) g1) := q1
 have HG1 : Hid (∀ b,g1 b → f1 b ∨ W.heap.size ≤ b) := hg1
 have HW1 : Hid (Wrt f1 W X1) := hw1
 have p2 := Cel.ow_wrt HO2.out hw1 (fun b hb k => HD.out b k hb)
 have hM2 := markI_ow _ KR sung f2 X1 p2 (by have := HKb.out;omega) hsb
 have hK2 : (KR : Int) + (sung.length : Int) = ((KR + sung.length : Nat) : Int) := by omega
 rw [hK2] at hM2
 clear c0 c1 c2 c3 c4
 obtain ⟨c0,c1,c2,c3,c4⟩ := Bx.r5 (HX.out X1 hw1)
 clear hM1 q1 hg1 hw1 p2 hk1 hsb hK2
 go_wp2_with fail
 refine hM2.mono ?_
 rintro e X2 ⟨rfl,q2,hw2⟩
 have hs1 := HW1.out.size
 have hs2 := hw2.size
 have HE : Hid (It X2 (mbCels (mkMb ⟨id,n,rows,sung,done⟩ k0)) [.slice ra rows.length rc,.slice sa sung.length sc] lo X2.heap.size) := by
  have hd2 : ∀ b,g1 b → ¬ f2 b := fun b h1 h2 => by
   rcases HG1.out b h1 with h | h
   ·exact HD.out b h h2
   ·have := (HF2.out b h2).2;omega
  have o1' := Cel.ow_wrt HQ1.out hw2 (fun b hb k => hd2 b hb k)
  rw [hKR.out] at q2
  refine ⟨_,owL_both o1' q2 hd2,fun b hb => ?_⟩
  have hlt : b < X2.heap.size := owL_lt (owL_both o1' q2 hd2) b hb
  rcases hb with hb | hb
  ·rcases HG1.out b hb with h | h
   ·exact ⟨(HF1.out b h).1,hlt⟩
   ·exact ⟨by omega,hlt⟩
  ·exact ⟨(HF2.out b hb).1,hlt⟩
 have HWf : Hid (Wrt (Iv lo hi) w X2) := (HW0.out.trans (HW1.out.mono (fun b _ h => HF1.out b h)) (fun _ _ h => h)).trans (hw2.mono (fun b _ h => HF2.out b h)) (fun _ _ h => h)
 clear hM2 q2 hw2 c0 c1 c2 c3 c4
 go_wp2
 go_ret
 exact ⟨ret_int (by rw [hKR.out];omega),HE.out,HWf.out⟩
set_option maxRecDepth 100000 in
set_option maxHeartbeats 1600000 in
theorem heldMb_it (A : Ma) (m : Mb) (k0 lo hi : Nat) (w : World) (h : It w (mbCels (mkMb m k0)) (mbVals A m) lo hi) (hk1 : 1 ≤ k0) (hk : k0 + cntMb m ≤ 10000000) (hm : m.rows.length ≤ maxLen) :
  Calls Try.prog 32 #[mbV A m,.int .i64 (k0 : Int)] w fun e w' => e = .returned (.int .i64 ((k0 + cntMb m : Nat) : Int)) ∧ Below w.heap.size w w' := by
 have hb := oneA16 w (.cells (mbC A m) 39)
 have hx := Bx.new w 39 (mbC A m)
 obtain ⟨fp,hl,hfp⟩ := h.below hb
 obtain ⟨f1,f2,o1,o2,hd,hi2⟩ := owL_two hl
 obtain ⟨id,n,rows,sung,done⟩ := m
 obtain ⟨ra,rc,sa,sc⟩ := A
 unfold cntMb at hk ⊢
 unfold mkMb at o1 o2
 simp only at hk hm o1 o2 ⊢
 unfold mbV
 unfold mbC at *
 simp only at *
 generalize hWW : w.alloc (.cells #[.int .i64 id,.int .i64 n,.slice ra rows.length rc,.slice sa sung.length sc,.bool done] 39) = W at *
 have HB0 : Hid (Below w.heap.size w W) := hb
 obtain ⟨c0,c1,c2,c3,c4⟩ := Bx.r5 hx
 have HX : Hid (Bx W w.heap.size 39 #[.int .i64 id,.int .i64 n,.slice ra rows.length rc,.slice sa sung.length sc,.bool done]) := hx
 obtain ⟨KR,hKR⟩ : ∃ KR : Nat,Hid (KR = k0 + cP rows rows.length) := ⟨_,rfl⟩
 have hM1 := heldRs_ow ra rc k0 rows f1 W o1 hk1 (by omega) hm
 rw [← hKR.out] at hM1
 rw [← hKR.out] at o2
 have HO2 : Hid (Cel.ow W (icl (marks sung.length KR)) (.slice sa sung.length sc) f2) := o2
 have hsb : sung.length ≤ 10000000 := by omega
 have HKb : Hid (KR + sung.length ≤ 10000000) := by have := hKR.out;rw [Hid];omega
 clear h hl hfp hi2 o1 o2 hx hb hd hk
 go_enter Try.func32,Try.ntmps32
 go_wp2_with fail
 refine hM1.mono ?_
 rintro e X1 ⟨rfl,hb1⟩
 have HB1 : Hid (Below w.heap.size w X1) := HB0.out.trans (hb1.mono HB0.out.size)
 have hM2 := heldI_ow _ KR sung.length f2 X1 (Cel.ow_below HO2.out hb1) (by have := HKb.out;omega) hsb
 have hK2 : (KR : Int) + (sung.length : Int) = ((KR + sung.length : Nat) : Int) := by omega
 rw [hK2] at hM2
 clear c0 c1 c2 c3 c4
 obtain ⟨c0,c1,c2,c3,c4⟩ := Bx.r5 (HX.out.below hb1)
 have p1 : ¬ ((KR : Int) < 0) := by omega
 have p2 : ¬ (((KR + sung.length : Nat) : Int) < 0) := by omega
 clear hM1 hb1 hk1 hsb hK2
 go_wp2_with fail
 refine hM2.mono ?_
 rintro e X2 ⟨rfl,hx2⟩
 obtain rfl := hx2.symm
 clear hM2 hx2 c0 c1 c2 c3 c4
 go_wp2
 go_ret
 exact ⟨ret_int (by rw [hKR.out];omega),HB1.out⟩
end Go.Proofs.Ythioodpmgifomaa
namespace Go.Proofs.Ythioodpmgifomaa
set_option linter.unusedVariables false
set_option linter.unusedSimpArgs false
open Go.RowKit Go.Sort
set_option maxRecDepth 100000 in
set_option maxHeartbeats 3200000 in
theorem eqRs_any (a a' : Option Addr) (cap cap' : Nat) (R : List Rw) (w : World) (hv : Cel.vw w (lcl 8 rw8 R) (.slice a R.length cap)) (hu : Cel.vw w (lcl 8 rw8 R) (.slice a' R.length cap')) (hf : ∀ r ∈ R,FitR r) (hm : R.length ≤ maxLen) :
  Calls Try.prog 77 #[.slice a R.length cap,.slice a' R.length cap'] w fun e w' => e = .returned (.bool true) ∧ Below w.heap.size w w' := by
 have HV : Hid (Cel.vw w (lcl 8 rw8 R) (.slice a R.length cap)) := hv
 have HU : Hid (Cel.vw w (lcl 8 rw8 R) (.slice a' R.length cap')) := hu
 have hbb : ((R.length : Int) != (R.length : Int)) = false := by simp
 unfold maxLen at hm
 clear hv hu
 go_enter Try.func77,Try.ntmps77
 go_wp2_with fail
 go_loopw [5] (fun v wr => ∃ k : Nat,k ≤ R.length ∧ v = .int .i64 (k : Int) ∧ Below w.heap.size w wr) (fun v _ => R.length - (intOf v).toNat)
 case atStart => exact ⟨0,Nat.zero_le _,rfl,Below.refl _ _⟩
 case round =>
  obtain ⟨k,hk,rfl,hb⟩ := hrel
  by_cases hlt : k < R.length
  ·have k1 : (k : Int) < (R.length : Int) := by omega
   have k0 : (0 : Int) ≤ (k : Int) := by omega
   have hmem : rowN R k ∈ R := rowN_mem hlt
   have hkx : R[k]? = some (rowN R k) := by simp [rowN,List.getD,hlt]
   obtain ⟨g,off,hra,hpv⟩ := vw_elF rw8_len (Cel.vw_below HV.out hb) hkx
   obtain ⟨g',off',hra',hpv'⟩ := vw_elF rw8_len (Cel.vw_below HU.out hb) hkx
   obtain ⟨A,⟨⟨d0,d1,d2,d3⟩,d4,d5,d6,d7⟩,hrs⟩ := hpv.row (hf _ hmem)
   obtain ⟨A',⟨⟨e0,e1,e2,e3⟩,e4,e5,e6,e7⟩,hrs'⟩ := hpv'.row (hf _ hmem)
   subst hra hra'
   have C : ∀ q : Bk wr,Calls Try.prog 37 #[rwV A (rowN R k),rwV A' (rowN R k)] q.w fun e w' => e = .returned (.bool true) ∧ Below q.w.heap.size q.w w' := fun q => eqRw_any A A' _ q.w (hrs.below q.h) (hrs'.below q.h)
   unfold rwV rwC at C
   have T : ∀ {x v},wr.cell? x = some v → ∀ q : Bk wr,q.w.cell? x = some v := fun h q => (q.h.cell (World.block_lt_of_cell? _ _ h)).trans h
   have dp0 := T d0
   have dp1 := T d1
   have dp2 := T d2
   have dp3 := T d3
   have dp4 := T d4
   have dp5 := T d5
   have dp6 := T d6
   have dp7 := T d7
   have ep0 := T e0
   have ep1 := T e1
   have ep2 := T e2
   have ep3 := T e3
   have ep4 := T e4
   have ep5 := T e5
   have ep6 := T e6
   have ep7 := T e7
   have HB : Hid (Below w.heap.size w wr) := hb
   generalize rowN R k = r at *
   clear hrs hrs' hpv hpv' hb T d0 d1 d2 d3 d4 d5 d6 d7 e0 e1 e2 e3 e4 e5 e6 e7 hkx
   go_wp2_with fail
   refine wp_region_bk (by kernel_rfl) (by kernel_rfl) ?_
   repeat (go_big_quiet_step ((first | (go_at_call 37;exact bk_call _ (C _)) | rfl)))
   refine wpQuiet_nil ?_
   intro wE hw'
   obtain ⟨⟨w11,hb11⟩,hw''⟩ := hw'
   have hwe : wE = w11 := hw''
   clear hw''
   subst hwe
   have HB1 : Hid (Below w.heap.size w wE) := HB.out.trans (hb11.mono HB.out.size)
   clear C hb11 dp0 dp1 dp2 dp3 dp4 dp5 dp6 dp7 ep0 ep1 ep2 ep3 ep4 ep5 ep6 ep7
   go_wp2
   go_roundw
   case rel => exact ⟨k + 1,by omega,by go_num,HB1.out⟩
   case measure => simp [intOf];omega
  ·have k1 : ¬ ((k : Int) < (R.length : Int)) := by omega
   have HB : Hid (Below w.heap.size w wr) := hb
   clear hb
   go_wp2
   go_ret
   exact ⟨rfl,HB.out⟩
set_option maxRecDepth 100000 in
set_option maxHeartbeats 3200000 in
theorem eqMb_any (A D : Ma) (m : Mb) (w : World) (hv : MbS w A m) (hu : MbS w D m) :
  Calls Try.prog 30 #[mbV A m,mbV D m] w fun e w' => e = .returned (.bool true) ∧ Below w.heap.size w w' := by
 have hB0 : Below w.heap.size w ((w.alloc (.cells #[.int .i64 m.id,.int .i64 m.n,.slice A.ra m.rows.length A.rc,.slice A.sa m.sung.length A.sc,.bool m.done] 39)).alloc (.cells #[.int .i64 m.id,.int .i64 m.n,.slice D.ra m.rows.length D.rc,.slice D.sa m.sung.length D.sc,.bool m.done] 39)) := (oneA16 w _).trans ((oneA16 _ _).mono (oneA16 w _).size)
 have hx : Bx ((w.alloc (.cells #[.int .i64 m.id,.int .i64 m.n,.slice A.ra m.rows.length A.rc,.slice A.sa m.sung.length A.sc,.bool m.done] 39)).alloc (.cells #[.int .i64 m.id,.int .i64 m.n,.slice D.ra m.rows.length D.rc,.slice D.sa m.sung.length D.sc,.bool m.done] 39)) w.heap.size 39 #[.int .i64 m.id,.int .i64 m.n,.slice A.ra m.rows.length A.rc,.slice A.sa m.sung.length A.sc,.bool m.done] := (Bx.new w _ _).alloc _
 have hy : Bx ((w.alloc (.cells #[.int .i64 m.id,.int .i64 m.n,.slice A.ra m.rows.length A.rc,.slice A.sa m.sung.length A.sc,.bool m.done] 39)).alloc (.cells #[.int .i64 m.id,.int .i64 m.n,.slice D.ra m.rows.length D.rc,.slice D.sa m.sung.length D.sc,.bool m.done] 39)) (w.heap.size + 1) 39 #[.int .i64 m.id,.int .i64 m.n,.slice D.ra m.rows.length D.rc,.slice D.sa m.sung.length D.sc,.bool m.done] := by
  have := Bx.new (w.alloc (.cells #[.int .i64 m.id,.int .i64 m.n,.slice A.ra m.rows.length A.rc,.slice A.sa m.sung.length A.sc,.bool m.done] 39)) 39 #[.int .i64 m.id,.int .i64 m.n,.slice D.ra m.rows.length D.rc,.slice D.sa m.sung.length D.sc,.bool m.done]
  simpa using this
 have h0 := hv.below hB0
 have g0 := hu.below hB0
 have hR := eqRs_any A.ra D.ra A.rc D.rc m.rows _ h0.rows g0.rows h0.fit h0.mr
 have hE : ∀ X,Below w.heap.size w X → Calls Try.prog 78 #[.slice A.sa m.sung.length A.sc,.slice D.sa m.sung.length D.sc] X fun e w' => e = .returned (.bool true) ∧ Below X.heap.size X w' := fun X h => (eq_any A.sa D.sa m.sung.length A.sc m.sung.length D.sc m.sung m.sung X (hv.sung.below h (Nat.le_refl _)) (hu.sung.below h (Nat.le_refl _)) hv.ms).mono (fun e w' ⟨h4,n,h5⟩ => ⟨by rw [h4];simp,by rw [h5];exact belowN (Below.refl _ _)⟩)
 unfold mbV mbC
 generalize hWW : (w.alloc (.cells #[.int .i64 m.id,.int .i64 m.n,.slice A.ra m.rows.length A.rc,.slice A.sa m.sung.length A.sc,.bool m.done] 39)).alloc (.cells #[.int .i64 m.id,.int .i64 m.n,.slice D.ra m.rows.length D.rc,.slice D.sa m.sung.length D.sc,.bool m.done] 39) = W at *
 have n1 : (m.id != m.id) = false := by simp
 have n2 : (m.n != m.n) = false := by simp
 have n3 : (m.done != m.done) = false := by simp
 have HX : Hid (Bx W w.heap.size 39 #[.int .i64 m.id,.int .i64 m.n,.slice A.ra m.rows.length A.rc,.slice A.sa m.sung.length A.sc,.bool m.done]) := hx
 have HY : Hid (Bx W (w.heap.size + 1) 39 #[.int .i64 m.id,.int .i64 m.n,.slice D.ra m.rows.length D.rc,.slice D.sa m.sung.length D.sc,.bool m.done]) := hy
 have HB : Hid (Below w.heap.size w W) := hB0
 obtain ⟨c0,c1,c2,c3,c4⟩ := Bx.r5 hx
 obtain ⟨d0,d1,d2,d3,d4⟩ := Bx.r5 hy
 clear hv hu h0 g0 hB0 hx hy
 go_enter Try.func30,Try.ntmps30
 go_wp2_with fail
 refine hR.mono ?_
 rintro e w1 ⟨rfl,hb1⟩
 have HB1 : Hid (Below w.heap.size w w1) := HB.out.trans (hb1.mono HB.out.size)
 have HX1 : Hid (Bx w1 w.heap.size 39 #[.int .i64 m.id,.int .i64 m.n,.slice A.ra m.rows.length A.rc,.slice A.sa m.sung.length A.sc,.bool m.done]) := HX.out.below hb1
 have HY1 : Hid (Bx w1 (w.heap.size + 1) 39 #[.int .i64 m.id,.int .i64 m.n,.slice D.ra m.rows.length D.rc,.slice D.sa m.sung.length D.sc,.bool m.done]) := HY.out.below hb1
 clear c0 c1 c2 c3 c4 d0 d1 d2 d3 d4 hR hb1
 obtain ⟨c0,c1,c2,c3,c4⟩ := Bx.r5 HX1.out
 obtain ⟨d0,d1,d2,d3,d4⟩ := Bx.r5 HY1.out
 go_wp2_with fail
 refine (hE _ HB1.out).mono ?_
 rintro e w2 ⟨rfl,hb2⟩
 have HB2 : Hid (Below w.heap.size w w2) := HB1.out.trans (hb2.mono HB1.out.size)
 clear c0 c1 c2 c3 c4 d0 d1 d2 d3 d4 hE
 obtain ⟨c0,c1,c2,c3,c4⟩ := Bx.r5 (HX1.out.below hb2)
 obtain ⟨d0,d1,d2,d3,d4⟩ := Bx.r5 (HY1.out.below hb2)
 clear hb2
 go_wp2
 go_ret
 exact ⟨rfl,HB2.out⟩
end Go.Proofs.Ythioodpmgifomaa
namespace Go.Proofs.Ythioodpmgifomaa
set_option linter.unusedVariables false
set_option linter.unusedSimpArgs false
open Go.RowKit Go.Sort
end Go.Proofs.Ythioodpmgifomaa
namespace Go.Proofs.Ythioodpmgifomaa
set_option linter.unusedVariables false
set_option linter.unusedSimpArgs false
open Go.RowKit Go.Sort
def sayM (m : Mb) (t : List UInt8) : Mb × Bool := if okMb m = true then sayMb m t else (zeroMb,false)
theorem Bx.pc {w : World} {B : Nat} {T : TypeId} {cs : Array Value} (h : Bx w B T cs) : Pc w B 0 cs.toList :=
 ⟨fun j hj => by
  have hj' : j < cs.size := by simpa using hj
  rw [Nat.zero_add,h.at j (Array.getElem?_eq_getElem hj')]
  simp [hj'],fun j _ => by rw [Nat.zero_add];exact h.f j,h.lt⟩
theorem box_plc {w : World} {B : Nat} {T : TypeId} {A : Ma} {m : Mb} {fp : Fp} (h : Bx w B T (mbC A m)) (hl : owL w (mbCels m) (mbVals A m) fp) (hB : ¬ fp B) : Plc w B 0 (mb5 m) fp := ⟨_,h.pc,ow_mb5 hl,hB⟩
theorem box_done {w X Y : World} {B r : Nat} {m : Mb} {fp : Fp} (h : Bcm X Y B 0 (mb5 m) fp) (hf : ∀ b,fp b → w.heap.size ≤ b ∧ b ≠ r) (hB : w.heap.size ≤ B) (hrB : r ≠ B) (hr : w.heap.size ≤ r) (hrX : r < X.heap.size) (hw : Below w.heap.size w X) {T : TypeId} {Z : Array Value} (hz : Bx X r T Z) : ∃ A : Ma,C5 Y B 0 (.int .i64 m.id) (.int .i64 m.n) (.slice A.ra m.rows.length A.rc) (.slice A.sa m.sung.length A.sc) (.bool m.done) ∧ Bx Y r T Z ∧
  ∀ {a b c d e : Value},NewL w (((((Y.setCell ⟨r,0,none⟩ a).setCell ⟨r,1,none⟩ b).setCell ⟨r,2,none⟩ c).setCell ⟨r,3,none⟩ d).setCell ⟨r,4,none⟩ e) (mbCels m) (mbVals A m) := by
 obtain ⟨fp1,hp,hs,_⟩ := h.next
 obtain ⟨vs,hpc,hov,hnB⟩ := hp
 obtain ⟨A,rfl,hl⟩ := mb5_ow hov
 have hl5 : (mbC A m).toList.length = 5 := rfl
 have c := hpc.cell
 have hXs := hw.size
 have hfp : ∀ b,fp1 b → w.heap.size ≤ b ∧ b ≠ r := fun b hb => by
  rcases hs b hb with k | k
  ·exact hf b k
  ·exact ⟨by omega,by omega⟩
 have hbY : Below w.heap.size w Y := h.wrt.below hw hXs (fun b hb => by
  rcases hb with hb | hb
  ·exact (hf b hb).1
  ·omega)
 refine ⟨A,⟨c 0 (by rw [hl5];omega),c 1 (by rw [hl5];omega),c 2 (by rw [hl5];omega),c 3 (by rw [hl5];omega),c 4 (by rw [hl5];omega)⟩,hz.wrt h.wrt (fun k => by
  rcases k with k | k
  ·exact (hf r k).2 rfl
  ·exact hrB k),fun {a b c d e} => ⟨fp1,owL_wrt hl (wrt5 Y r) (fun b hb e => (hfp b hb).2 e),fun b hb => (hfp b hb).1,(wrt5 Y r).below hbY hbY.size (fun b e => by omega)⟩⟩
attribute [local irreducible] sv
set_option maxRecDepth 100000 in
set_option maxHeartbeats 3200000 in
theorem sayS_any (A : Ma) (m : Mb) (t : List UInt8) (w : World) (hv : MbS w A m) (ht : t.length ≤ 1000000000) :
  Calls Try.prog 27 #[mbV A m,.string (sv t)] w fun e w' => AnsMf w w' e (sayM m t).1 (sayM m t).2 := by
 have hb0 : Below w.heap.size w ((w.alloc (.cells #[.int .i64 m.id,.int .i64 m.n,.slice A.ra m.rows.length A.rc,.slice A.sa m.sung.length A.sc,.bool m.done] 39)).alloc (.cells #[.int .i64 0,.int .i64 0,.slice none 0 0,.slice none 0 0,.bool false] 39)) := (oneA16 w _).trans ((oneA16 _ _).mono (oneA16 w _).size)
 have hx0 : Bx ((w.alloc (.cells #[.int .i64 m.id,.int .i64 m.n,.slice A.ra m.rows.length A.rc,.slice A.sa m.sung.length A.sc,.bool m.done] 39)).alloc (.cells #[.int .i64 0,.int .i64 0,.slice none 0 0,.slice none 0 0,.bool false] 39)) w.heap.size 39 #[.int .i64 m.id,.int .i64 m.n,.slice A.ra m.rows.length A.rc,.slice A.sa m.sung.length A.sc,.bool m.done] := (Bx.new w _ _).alloc _
 have hz0 : Bx ((w.alloc (.cells #[.int .i64 m.id,.int .i64 m.n,.slice A.ra m.rows.length A.rc,.slice A.sa m.sung.length A.sc,.bool m.done] 39)).alloc (.cells #[.int .i64 0,.int .i64 0,.slice none 0 0,.slice none 0 0,.bool false] 39)) (w.heap.size + 1) 39 #[.int .i64 0,.int .i64 0,.slice none 0 0,.slice none 0 0,.bool false] := by
  have := Bx.new (w.alloc (.cells #[.int .i64 m.id,.int .i64 m.n,.slice A.ra m.rows.length A.rc,.slice A.sa m.sung.length A.sc,.bool m.done] 39)) 39 #[.int .i64 0,.int .i64 0,.slice none 0 0,.slice none 0 0,.bool false]
  simp only [World.size_alloc] at this
  exact this
 have hv0 := hv.below hb0
 unfold mbV mbC
 generalize hWW : (w.alloc (.cells #[.int .i64 m.id,.int .i64 m.n,.slice A.ra m.rows.length A.rc,.slice A.sa m.sung.length A.sc,.bool m.done] 39)).alloc (.cells #[.int .i64 0,.int .i64 0,.slice none 0 0,.slice none 0 0,.bool false] 39) = W0 at *
 have hK := mbkS_any A m W0 hv0
 unfold mbV mbC at hK
 have HX0 : Hid (Bx W0 w.heap.size 39 #[.int .i64 m.id,.int .i64 m.n,.slice A.ra m.rows.length A.rc,.slice A.sa m.sung.length A.sc,.bool m.done]) := hx0
 have HZ0 : Hid (Bx W0 (w.heap.size + 1) 39 #[.int .i64 0,.int .i64 0,.slice none 0 0,.slice none 0 0,.bool false]) := hz0
 have HV0 : Hid (MbS W0 A m) := hv0
 have HB0 : Hid (Below w.heap.size w W0) := hb0
 obtain ⟨c0,c1,c2,c3,c4⟩ := Bx.r5 hx0
 clear hv hb0 hx0 hz0 hv0
 cases hok : okMb m with
 | false =>
  have HZ : Hid (sayM m t = (zeroMb,false)) := by rw [Hid,sayM,hok];rfl
  rw [hok] at hK
  clear hok
  go_enter Try.func27,Try.ntmps27
  go_wp2_with fail
  refine hK.mono ?_
  rintro e w1 ⟨rfl,hb1⟩
  have hz1 := HZ0.out.below hb1
  have HB1 : Hid (Below w.heap.size w w1) := HB0.out.trans (hb1.mono HB0.out.size)
  obtain ⟨z0,z1,z2,z3,z4⟩ := Bx.r5 hz1
  obtain ⟨f0,f1,f2,f3,f4⟩ := hz1.f5
  clear hz1 hb1 c0 c1 c2 c3 c4 hK
  go_wp2
  refine bodyPost_ret (v := .tuple #[mbV ⟨none,0,none,0⟩ zeroMb,.bool false]) (by simp [results,Try.results27,go_sem,mbV,mbC,zeroMb, *]) rfl ?_
  rw [HZ.out]
  exact ⟨_,rfl,ansM_zero ((wrt5 w1 (w.heap.size + 1)).below HB1.out HB1.out.size (fun b h => by omega))⟩
 | true =>
  have HZ : Hid (sayM m t = sayMb m t) := by rw [Hid,sayM,hok];rfl
  obtain ⟨i,n,ok⟩ := okMb_iff.1 hok
  rw [hok] at hK
  clear hok
  go_enter Try.func27,Try.ntmps27
  go_wp2_with fail
  refine hK.mono ?_
  rintro e w1 ⟨rfl,hb1⟩
  have HB1 : Hid (Below w.heap.size w w1) := HB0.out.trans (hb1.mono HB0.out.size)
  have HZ1 : Hid (Bx w1 (w.heap.size + 1) 39 #[.int .i64 0,.int .i64 0,.slice none 0 0,.slice none 0 0,.bool false]) := HZ0.out.below hb1
  have hC := cpyMb_any A m w1 (HV0.out.below hb1) ok.ln
  unfold mbV mbC at hC
  clear c0 c1 c2 c3 c4 hK
  obtain ⟨c0,c1,c2,c3,c4⟩ := Bx.r5 (HX0.out.below hb1)
  clear hb1
  go_wp2_with fail
  refine hC.mono ?_
  rintro e w2 ⟨A2,rfl,fp,hl2,hf2,hb2⟩
  have hlt2 := owL_lt hl2
  have HB2 : Hid (Below w.heap.size w w2) := HB1.out.trans (hb2.mono HB1.out.size)
  have hba := oneA16 w2 (.cells #[.int .i64 m.id,.int .i64 m.n,.slice A2.ra m.rows.length A2.rc,.slice A2.sa m.sung.length A2.sc,.bool m.done] 39)
  have hxb := Bx.new w2 39 #[.int .i64 m.id,.int .i64 m.n,.slice A2.ra m.rows.length A2.rc,.slice A2.sa m.sung.length A2.sc,.bool m.done]
  have hP : Plc (w2.alloc (.cells #[.int .i64 m.id,.int .i64 m.n,.slice A2.ra m.rows.length A2.rc,.slice A2.sa m.sung.length A2.sc,.bool m.done] 39)) w2.heap.size 0 (mb5 m) fp := box_plc hxb (owL_below hl2 hba) (fun k => by have := hlt2 _ k;omega)
  have HZ3 : Hid (Bx (w2.alloc (.cells #[.int .i64 m.id,.int .i64 m.n,.slice A2.ra m.rows.length A2.rc,.slice A2.sa m.sung.length A2.sc,.bool m.done] 39)) (w.heap.size + 1) 39 #[.int .i64 0,.int .i64 0,.slice none 0 0,.slice none 0 0,.bool false]) := (HZ1.out.below hb2).below hba
  have HB3 : Hid (Below w.heap.size w (w2.alloc (.cells #[.int .i64 m.id,.int .i64 m.n,.slice A2.ra m.rows.length A2.rc,.slice A2.sa m.sung.length A2.sc,.bool m.done] 39))) := HB2.out.trans (hba.mono HB2.out.size)
  have hr1 : (w.heap.size + 1) < w1.heap.size := HZ1.out.lt
  have hs2 := hb2.size
  have hS := saySp_any w2.heap.size 0 m i n t fp _ hP ok ht
  unfold mbV mbC
  generalize hV3 : w2.alloc (.cells #[.int .i64 m.id,.int .i64 m.n,.slice A2.ra m.rows.length A2.rc,.slice A2.sa m.sung.length A2.sc,.bool m.done] 39) = V3 at *
  have HF2 : Hid (∀ b,fp b → w1.heap.size ≤ b) := hf2
  have hB3 : w2.heap.size < V3.heap.size := hxb.lt
  clear hxb hP hl2 hf2 hlt2 hb2 hba c0 c1 c2 c3 c4 hC
  go_wp2_with fail
  refine hS.mono ?_
  rintro e Y ⟨rfl,hBc⟩
  have hsw := HB1.out.size
  obtain ⟨A3,⟨y0,y1,y2,y3,y4⟩,hz3,HN⟩ := box_done (w := w) (r := (w.heap.size + 1)) hBc (fun b hb => by have := HF2.out b hb;exact ⟨by omega,by omega⟩) (by omega) (by omega) (by omega) (by have := HZ3.out.lt;omega) HB3.out HZ3.out
  simp only [Nat.zero_add] at y0 y1 y2 y3 y4
  obtain ⟨z0,z1,z2,z3,z4⟩ := Bx.r5 hz3
  obtain ⟨f0,f1,f2,f3,f4⟩ := hz3.f5
  have HNN : Hid (∀ {a b c d e : Value},NewL w (((((Y.setCell ⟨(w.heap.size + 1),0,none⟩ a).setCell ⟨(w.heap.size + 1),1,none⟩ b).setCell ⟨(w.heap.size + 1),2,none⟩ c).setCell ⟨(w.heap.size + 1),3,none⟩ d).setCell ⟨(w.heap.size + 1),4,none⟩ e) (mbCels (sayMb m t).1) (mbVals A3 (sayMb m t).1)) := HN
  generalize hpm : sayMb m t = pm at *
  clear hS hBc HN hz3 hpm
  go_wp2
  refine bodyPost_ret (v := .tuple #[mbV A3 pm.1,.bool pm.2]) (by simp [results,Try.results27,go_sem,mbV,mbC, *]) rfl ?_
  rw [HZ.out]
  exact ⟨_,rfl,HNN.out⟩
end Go.Proofs.Ythioodpmgifomaa
namespace Go.Proofs.Ythioodpmgifomaa
set_option linter.unusedVariables false
set_option linter.unusedSimpArgs false
open Go.RowKit Go.Sort
def AnsL (w w' : World) (e : Ending) (Z : List Int) : Prop := ∃ a c,e = .returned (.slice a Z.length c) ∧ NewO w w' (icl Z) (.slice a Z.length c)
end Go.Proofs.Ythioodpmgifomaa
namespace Go.Proofs.Ythioodpmgifomaa
set_option linter.unusedVariables false
set_option linter.unusedSimpArgs false
open Go.RowKit Go.Sort
end Go.Proofs.Ythioodpmgifomaa
namespace Go.Proofs.Ythioodpmgifomaa
set_option linter.unusedVariables false
set_option linter.unusedSimpArgs false
open Go.RowKit Go.Sort
end Go.Proofs.Ythioodpmgifomaa
namespace Go.Proofs.Ythioodpmgifomaa
set_option linter.unusedVariables false
set_option linter.unusedSimpArgs false
open Go.RowKit Go.Sort
end Go.Proofs.Ythioodpmgifomaa
namespace Go.Proofs.Ythioodpmgifomaa
set_option linter.unusedVariables false
set_option linter.unusedSimpArgs false
open Go.RowKit Go.Sort
end Go.Proofs.Ythioodpmgifomaa
namespace Go.Proofs.Ythioodpmgifomaa
set_option linter.unusedVariables false
set_option linter.unusedSimpArgs false
open Go.RowKit Go.Sort
theorem vec_copied {X : World} {x : Option Addr} {c : Nat} {xs : List Int} (hv : Vec X x xs.length xs) (hl : xs.length ≤ 1000000) :
  ∀ Z,Same Z (X.alloc (.cells #[] 2)) → ∃ v' w4,(Builtin.append_ #[24,24] 24 #[.slice (some ⟨X.heap.size,0,none⟩) 0 0,.slice x xs.length c]).run Try.prog Z = .ok v' w4 ∧ ∃ a' c' f',v' = .slice a' xs.length c' ∧ Cel.ow w4 (icl xs) v' f' ∧ (∀ b,f' b → X.heap.size ≤ b) ∧ Below X.heap.size X w4 := by
 intro Z hZ
 obtain ⟨i0,hi0,hz0,hz1,hz2⟩ := info_parts2n Try.info2n
 have hbZ : Below X.heap.size X Z := (oneA16 X _).trans (hZ.below.mono (oneA16 X _).size)
 obtain ⟨a6,c6,w6,fp6,hr6,ho6,hw6,hf6⟩ := ints_copied (P := Try.prog) (w := Z) 24 24 2 i0 Try.underlying24 hi0 hz0 hz1 hz2 (plainS X.heap.size 0) (x := x) (c := c) (hv.below hbZ (Nat.le_refl _)) hl
 exact ⟨_,w6,hr6,a6,c6,fp6,rfl,ho6,fun b hb => by have := hf6 b hb;have := hbZ.size;omega,hw6.below hbZ hbZ.size (fun b h => h.elim)⟩
end Go.Proofs.Ythioodpmgifomaa
namespace Go.Proofs.Ythioodpmgifomaa
set_option linter.unusedSimpArgs false
set_option linter.unusedVariables false
open Go.RowKit
end Go.Proofs.Ythioodpmgifomaa
namespace Go.Proofs.Ythioodpmgifomaa
set_option linter.unusedVariables false
set_option linter.unusedSimpArgs false
open Go.RowKit Go.Sort
end Go.Proofs.Ythioodpmgifomaa
namespace Go.Proofs.Ythioodpmgifomaa
set_option linter.unusedVariables false
set_option linter.unusedSimpArgs false
open Go.RowKit Go.Sort
end Go.Proofs.Ythioodpmgifomaa
namespace Go.Proofs.Ythioodpmgifomaa
set_option linter.unusedVariables false
set_option linter.unusedSimpArgs false
open Go.RowKit Go.Sort
end Go.Proofs.Ythioodpmgifomaa
namespace Go.Proofs.Ythioodpmgifomaa
set_option linter.unusedVariables false
set_option linter.unusedSimpArgs false
open Go.RowKit Go.Sort
end Go.Proofs.Ythioodpmgifomaa
namespace Go.Proofs.Ythioodpmgifomaa
set_option linter.unusedVariables false
set_option linter.unusedSimpArgs false
open Go.RowKit Go.Sort
end Go.Proofs.Ythioodpmgifomaa
namespace Go.Proofs.Ythioodpmgifomaa
set_option linter.unusedVariables false
set_option linter.unusedSimpArgs false
open Go.RowKit Go.Sort
end Go.Proofs.Ythioodpmgifomaa
namespace Go.Proofs.Ythioodpmgifomaa
set_option linter.unusedVariables false
set_option linter.unusedSimpArgs false
open Go.RowKit Go.Sort
section
variable {w X Y Y' : World} {p : Nat} {a : Option Addr} {len cap : Nat} {bs : Nat → Int} {T : TypeId} {o : Nat} {Z C : Array Value} {cs : List Cel} {vs : List Value} {fp : Fp}
end
end Go.Proofs.Ythioodpmgifomaa
namespace Go.Proofs.Ythioodpmgifomaa
set_option linter.unusedVariables false
set_option linter.unusedSimpArgs false
open Go.RowKit Go.Sort
end Go.Proofs.Ythioodpmgifomaa
namespace Go.Proofs.Ythioodpmgifomaa
set_option linter.unusedVariables false
set_option linter.unusedSimpArgs false
open Go.RowKit Go.Sort
section
variable {w X Y Y' : World} {p : Nat} {a : Option Addr} {len cap : Nat} {bs : Nat → Int} {o : Nat} {Zr : Array Value} {A : Ra} {r : Rw} {fp : Fp}
end
end Go.Proofs.Ythioodpmgifomaa
namespace Go.Proofs.Ythioodpmgifomaa
set_option linter.unusedSimpArgs false
set_option linter.unusedVariables false
open Go.RowKit Go.Sort
attribute [local irreducible] sv
end Go.Proofs.Ythioodpmgifomaa
namespace Go.Proofs.Ythioodpmgifomaa
set_option linter.unusedVariables false
set_option linter.unusedSimpArgs false
open Go.RowKit Go.Sort
attribute [local irreducible] sv
end Go.Proofs.Ythioodpmgifomaa
namespace Go.Proofs.Ythioodpmgifomaa
set_option linter.unusedVariables false
set_option linter.unusedSimpArgs false
open Go.RowKit Go.Sort
theorem totS_le {T : List (List UInt8)} {m : Nat} (h : ∀ i,i < T.length → (T.getD i []).length ≤ m) : ∀ k,k ≤ T.length → totS T k ≤ k * m
 | 0,_ => by simp [totS]
 | k + 1,hk => by
  have := totS_le h k (by omega)
  have := h k (by omega)
  rw [totS,Nat.add_mul]
  omega
theorem owL_it {w : World} {cs : List Cel} {vs : List Value} {fp : Fp} (h : owL w cs vs fp) {lo : Nat} (hl : ∀ b,fp b → lo ≤ b) : It w cs vs lo w.heap.size := ⟨fp,h,fun b hb => ⟨hl b hb,owL_lt h b hb⟩⟩
end Go.Proofs.Ythioodpmgifomaa
namespace Go.Proofs.Ythioodpmgifomaa
set_option linter.unusedVariables false
set_option linter.unusedSimpArgs false
open Go.RowKit Go.Sort
end Go.Proofs.Ythioodpmgifomaa
namespace Go.Proofs.Ythioodpmgifomaa
set_option linter.unusedVariables false
set_option linter.unusedSimpArgs false
open Go.RowKit Go.Sort
end Go.Proofs.Ythioodpmgifomaa
namespace Go.Proofs.Ythioodpmgifomaa
set_option linter.unusedVariables false
set_option linter.unusedSimpArgs false
open Go.RowKit Go.Sort
end Go.Proofs.Ythioodpmgifomaa
namespace Go.Proofs.Ythioodpmgifomaa
set_option linter.unusedVariables false
set_option linter.unusedSimpArgs false
open Go.RowKit Go.Sort
end Go.Proofs.Ythioodpmgifomaa
namespace Go.Proofs.Ythioodpmgifomaa
set_option linter.unusedVariables false
set_option linter.unusedSimpArgs false
open Go.RowKit Go.Sort
attribute [local irreducible] sv
end Go.Proofs.Ythioodpmgifomaa
namespace Go.Proofs.Ythioodpmgifomaa
set_option linter.unusedVariables false
set_option linter.unusedSimpArgs false
open Go.RowKit Go.Sort
end Go.Proofs.Ythioodpmgifomaa