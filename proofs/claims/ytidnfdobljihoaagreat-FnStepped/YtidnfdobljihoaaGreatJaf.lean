/-
  Texts in one: Qtl Mbg Mbd Mbh Mcc Mbl Plo Mbi.
-/
import Derived.Test.YtidnfdobljihoaaGreatJaa
import Derived.Test.YtidnfdobljihoaaGreatJae
import Derived.StillTail
import Derived.Deep.Quiet
import Derived.BigQuiet
namespace Go.Proofs.YtidnfdobljihoaaGreat
set_option linter.unusedSimpArgs false
set_option linter.unusedVariables false
open Go.RowKit Go.Sort
section
variable {P : Program} {ops : Array Oper} {md : Region.Mode} {C : World → Prop}
def HeadQ (P : Program) (md : Region.Mode) (ops : Array Oper) (C : World → Prop) (n : Nat) (L : Array Bool → Act → Prop) : Nat → Array Bool → Act → Prop
 | 0,listed,a => L listed a
 | f + 1,listed,a => Region.ready md ops listed ≠ [] ∧ ∀ i ∈ Region.ready md ops listed,i < n ∧ qOp P ops C i (HeadQ P md ops C n L f (listed.setIfInBounds i true)) a
theorem any_of_headQ {n g : Nat} {L : Array Bool → Act → Prop} {Q : Exit → Act → World → Prop} (hL : ∀ listed a w,C w → L listed a → wpAny P md ops Q g listed a w) (f : Nat) :
  ∀ (listed : Array Bool) (a : Act) (w : World),C w → HeadQ P md ops C n L f listed a → wpAny P md ops Q (f + g) listed a w := by
 induction f with
 | zero => intro listed a w hw h;rw [Nat.zero_add];exact hL _ _ _ hw h
 | succ f ih =>
  intro listed a w hw h
  rw [show f + 1 + g = (f + g) + 1 by omega]
  exact ⟨fun h0 => absurd h0 h.1,fun i hi => wpOp_of_qOp hw (fun a' w' hw' h' => ih _ a' w' hw' h') (h.2 i hi).2⟩
theorem headQ_first {n i : Nat} {oi : Oper} {v : Value} {L : Array Bool → Act → Prop} (hi : ops[i]? = some oi) (hsel : ∀ (j : Nat) (o : Oper) cs b,ops[j]? = some o → o.op ≠ .select cs b)
  (hs : Region.sinkB md ops n = true) (hc : Region.chainB md ops n = true) (hn : n < ops.size) (hin : i < n) (hdone : ∀ listed a,L listed a → ∀ j ∈ Region.ready md ops listed,n ≤ j) (f : Nat) :
  ∀ (listed : Array Bool) (a : Act),HeadInv md ops n listed →
   (∀ j oj,ops[j]? = some oj → j ≠ i → listed.getD j true = false → (∀ e ∈ oj.after,Region.binds md e = true → e.on ≠ i) → oi.apart ops oj = true) →
   i ∈ Region.ready md ops listed → YieldsIn P ops C oi v a →
   HeadQ P md ops C n L f (listed.setIfInBounds i true) (a.put oi.dst v) → HeadQ P md ops C n L (f + 1) listed a := by
 induction f with
 | zero =>
  intro listed a inv _ hr hy H
  have hun := (mem_ready.1 hr).1
  refine ⟨fun h => (by rw [h] at hr;cases hr),fun j hj => ?_⟩
  have hjn : j < n := Nat.lt_of_not_le fun h => absurd hj (tail_waits hs hc hn inv _ i rfl hin hun j h)
  refine ⟨hjn, ?_⟩
  by_cases hji : j = i
  ·subst hji;exact hy.qOp hi H
  ·have := hdone _ _ H j (ready_mono hj hji)
   omega
 | succ f ih =>
  intro listed a inv hfree hr hy H
  have hun := (mem_ready.1 hr).1
  refine ⟨fun h => (by rw [h] at hr;cases hr),fun j hj => ?_⟩
  have hjn : j < n := Nat.lt_of_not_le fun h => absurd hj (tail_waits hs hc hn inv _ i rfl hin hun j h)
  refine ⟨hjn, ?_⟩
  by_cases hji : j = i
  ·subst hji;exact hy.qOp hi H
  ·have h1 := (H.2 j (ready_mono hj hji)).2
   obtain ⟨hjun,oj,hoj,hall⟩ := mem_ready.1 hj
   have hnot : ∀ e ∈ oj.after,Region.binds md e = true → e.on ≠ i := fun e he hb heq => by
    have h3 := hall e he hb
    rw [heq,getD_both hun] at h3
    cases h3
   have h2 := qOp_put hoj (hfree j oj hoj hji hjun hnot) (fun cs b => hsel i oi cs b hi) (fun cs b => hsel j oj cs b hoj) hy h1
   refine qOp_mono (fun a' h3 => ih (listed.setIfInBounds j true) a' (inv.set hj hjn) (fun k ok hk hki hu hno => hfree k ok hk hki ?_ hno) (ready_mono hr (Ne.symm hji)) h3.1 ?_) h2
   ·by_cases hjk : j = k
    ·subst hjk;exact hjun
    ·rw [getD_set_ne true hjk] at hu;exact hu
   ·rw [Array.setIfInBounds_comm _ _ hji]
    exact h3.2
theorem headQ_lex {n g : Nat} {Lq : Act → Prop} (hsel : Region.noSelect ops = true) (hs : Region.sinkB md ops n = true) (hc : Region.chainB md ops n = true) (hn : n < ops.size) :
  ∀ (l : List Oper) (k : Nat) (listed : Array Bool) (a : Act),(∀ j,j < l.length → l[j]? = ops[k + j]?) → k + l.length = n → HeadInv md ops n listed →
  Region.lexHead md ops g l.length k listed = true → wpQuiet P ops C Lq l a → HeadQ P md ops C n (fun listed' a' => Region.seqB md ops g n listed' = true ∧ Lq a') l.length listed a
 | [],k,listed,a,_,hk,_,hB,h => by
  have : k = n := by simpa using hk
  subst this
  exact ⟨by simpa [Region.lexHead] using hB,h⟩
 | o :: l,k,listed,a,hl,hk,inv,hB,h => by
  have h0 : ops[k]? = some o := by simpa using (hl 0 (by simp)).symm
  simp only [List.length_cons,Region.lexHead,Bool.and_eq_true] at hB
  obtain ⟨⟨hr,hf⟩,hB'⟩ := hB
  have hkn : k < n := by simp only [List.length_cons] at hk;omega
  have hr' : k ∈ Region.ready md ops listed := by simpa using hr
  have hst : qOp P ops C k (wpQuiet P ops C Lq l) a := by unfold qOp;simp only [h0];exact h
  obtain ⟨v,hy,hK⟩ := yieldsIn_of_qOp h0 hst
  exact headQ_first h0 (Region.noSelect_spec hsel) hs hc hn hkn (fun listed' a' hL => seqB_ready hL.1) l.length listed a inv (Region.free_spec h0 hf) hr' hy
   (headQ_lex hsel hs hc hn l (k + 1) _ _ (fun j hj => by have := hl (j + 1) (by simp;omega);simpa [Nat.add_assoc,Nat.add_comm 1 j] using this) (by simp only [List.length_cons] at hk;omega) (inv.set hr' hkn) hB' hK)
end
theorem wp_region_quiet_tail {P : Program} {C : World → Prop} {id : Nat} {Q : Exit → Act → World → Prop} {a : Act} {w : World} {l : List Oper} (n : Nat) (hm : P.follows .mixedOrders = true) (hB : Region.lexTailB .any l.toArray n = true) (hC : C (w.drewN 1))
    (h : wpQuiet P l.toArray C (fun a' => ∀ w', C w' → wpList P l.toArray Q (l.drop n) a' w') (l.take n) a) : (Code.region id l.toArray true).wp P Q a w := by
  simp only [Region.lexTailB, Bool.and_eq_true, decide_eq_true_eq] at hB
  obtain ⟨⟨⟨⟨hsel, hn⟩, hs⟩, hc⟩, hlex⟩ := hB
  have htl : (l.take n).length = n := by have : n < l.length := by simpa using hn
                                         simp; omega
  have hdl : (l.drop n).length = l.toArray.size - n := by simp
  have inv0 : HeadInv .any l.toArray n (Array.replicate l.toArray.size false) :=
    ⟨by simp, fun j oj _ hl => (by rw [getD_replicate_false] at hl; cases hl), fun t _ ht => getD_in (by simpa using ht) (getD_replicate_false _ _)⟩
  have H := headQ_lex (md := .any) (g := l.toArray.size - n) hsel hs hc hn (l.take n) 0 _ a (fun j hj => by
    have hj' : j < n := by rw [htl] at hj; exact hj
    simp [hj']) (by simpa using htl) inv0 (by rw [htl]; exact hlex) h
  refine wp_region_any hm ?_
  have := any_of_headQ (C := C) (Q := Q) (g := l.toArray.size - n) (fun listed a' w' hw' hL => by
    have := wpAny_of_seq (md := .any) (Q' := Q) (l.drop n) n listed a' w' (fun j => by simp [List.getElem?_drop]) (by rw [hdl]; exact hL.1) (hL.2 w' hw')
    rwa [hdl] at this) _ _ _ (w.drewN 1) hC H
  rw [htl, show n + (l.toArray.size - n) = l.toArray.size by have : n < l.toArray.size := hn; omega] at this
  exact this
end Go.Proofs.YtidnfdobljihoaaGreat
namespace Go.Proofs.YtidnfdobljihoaaGreat
set_option linter.unusedVariables false
set_option linter.unusedSimpArgs false
open Go.RowKit Go.Sort
theorem rowN_self {R : List Rw} {i : Nat} {r : Rw} (h : i < R.length) : rowN (R.set i r) i = r := by rw [rowN_set h,if_pos rfl]
attribute [local irreducible] sv
set_option maxRecDepth 100000 in
set_option maxHeartbeats 3200000 in
theorem saySp_any (B o : Nat) (m : Mb) (i n : Nat) (t : List UInt8) (fp : Fp) (w : World) (h : Plc w B o (mb5 m) fp) (ok : OkM m i n) (ht : t.length ≤ 1000000000) :
  Calls Tryz.prog 131 #[.pointer (some ⟨B,o,none⟩),.string (sv t)] w fun e w' => e = .returned (.bool (sayMb m t).2) ∧ Bcm w w' B o (mb5 (sayMb m t).1) fp := by
 have hmix := mixed17
 have hil : i < m.rows.length := by rw [ok.len];exact ok.lt
 obtain ⟨g,off,c,M0⟩ := Mw.start h (by omega)
 obtain ⟨c0,c1,c4⟩ := M0.id'
 have c2 := M0.rws
 rw [ok.hid] at c0
 have i0 : (0 : Int) ≤ (i : Int) := by omega
 have i1 : (i : Int) < (m.rows.length : Int) := by omega
 have p0 : ∀ q : Bk w,q.w.cell? ⟨B,o,none⟩ = _ := fun q => (q.h.cell (World.block_lt_of_cell? _ _ c0)).trans c0
 have p2 : ∀ q : Bk w,q.w.cell? ⟨B,o + 2,none⟩ = _ := fun q => (q.h.cell (World.block_lt_of_cell? _ _ c2)).trans c2
 have HM0 : Hid (Mw w w B o m fp g off c) := M0
 clear c0 c1 c4 c2 M0 h
 go_enter Tryz.func131,Tryz.ntmps131
 go_wp2_with fail
 refine wp_region_bk (by kernel_rfl) (by kernel_rfl) ?_
 repeat (go_big_quiet_step ((first | rfl)))
 refine wpQuiet_nil ?_
 intro wE hw'
 obtain ⟨⟨w11,hb11⟩,hw''⟩ := hw'
 have hwe : wE = w11 := hw''
 clear hw''
 subst hwe
 clear p0 p2
 have M1 := HM0.out.step hb11
 have HM1 : Hid (Mw w wE B o m fp g off c) := M1
 obtain ⟨c0,c1,c4⟩ := M1.id'
 rw [ok.hid] at c0
 obtain ⟨Ak,⟨⟨d0,d1,d2,d3⟩,d4,d5,d6,d7⟩,hrs⟩ := M1.row ok.fit hil
 have hr := ok.ok i ok.lt
 have hszt := sv_size t
 have HSay : Hid (sayMb m t = if (rowN m.rows i).wed = true ∨ m.done = true ∨ (rowN m.rows i).txt.length = 12 ∨ 20 < t.length ∨ (rowN m.rows i).ver = 1000000 then (m,false) else ({ m with rows := m.rows.set i { rowN m.rows i with txt := (rowN m.rows i).txt ++ [t],got := (rowN m.rows i).got.set i (el (rowN m.rows i).got i + 1),ver := (rowN m.rows i).ver + 1 } },true)) := by
  have e : m.i = i := by unfold Mb.i;rw [ok.hid];rfl
  rw [Hid,sayMb,Mb.put,Mb.own,e]
 have HNo : Hid (((rowN m.rows i).wed = true ∨ m.done = true ∨ (rowN m.rows i).txt.length = 12 ∨ 20 < t.length ∨ (rowN m.rows i).ver = 1000000) → sayMb m t = (m,false)) := fun h => by rw [HSay.out,if_pos h]
 have HYes : Hid (¬ ((rowN m.rows i).wed = true ∨ m.done = true ∨ (rowN m.rows i).txt.length = 12 ∨ 20 < t.length ∨ (rowN m.rows i).ver = 1000000) → sayMb m t = ({ m with rows := m.rows.set i { rowN m.rows i with txt := (rowN m.rows i).txt ++ [t],got := (rowN m.rows i).got.set i (el (rowN m.rows i).got i + 1),ver := (rowN m.rows i).ver + 1 } },true)) := fun h => by rw [HSay.out,if_neg h]
 have htl := hr.tl
 clear HSay hrs d2 d3 d5 d6 d7 c1 hb11 HM0 M1
 cases hwd : (rowN m.rows i).wed with
 | true =>
  have HZ : Hid (sayMb m t = (m,false)) := HNo.out (.inl hwd)
  rw [hwd] at d4
  go_wp2
  go_ret
  exact ⟨ret_bool (by rw [HZ.out]),by rw [HZ.out];exact HM1.out.bcm⟩
 | false =>
 rw [hwd] at d4
 cases hdn : m.done with
 | true =>
  have HZ : Hid (sayMb m t = (m,false)) := HNo.out (.inr (.inl hdn))
  rw [hdn] at c4
  go_wp2
  go_ret
  exact ⟨ret_bool (by rw [HZ.out]),by rw [HZ.out];exact HM1.out.bcm⟩
 | false =>
 rw [hdn] at c4
 by_cases h12 : (rowN m.rows i).txt.length = 12
 ·have HZ : Hid (sayMb m t = (m,false)) := HNo.out (.inr (.inr (.inl h12)))
  have e12 : (((rowN m.rows i).txt.length : Int) == 12) = true := by rw [h12];rfl
  clear h12
  go_wp2
  go_ret
  exact ⟨ret_bool (by rw [HZ.out]),by rw [HZ.out];exact HM1.out.bcm⟩
 have e12 : (((rowN m.rows i).txt.length : Int) == 12) = false := by simp;omega
 by_cases h20 : 20 < t.length
 ·have HZ : Hid (sayMb m t = (m,false)) := HNo.out (.inr (.inr (.inr (.inl h20))))
  have e20 : (20 : Int) < (t.length : Int) := by omega
  go_wp2
  go_ret
  exact ⟨ret_bool (by rw [HZ.out]),by rw [HZ.out];exact HM1.out.bcm⟩
 have e20 : ¬ ((20 : Int) < (t.length : Int)) := by omega
 by_cases hver : (rowN m.rows i).ver = 1000000
 ·have HZ : Hid (sayMb m t = (m,false)) := HNo.out (.inr (.inr (.inr (.inr hver))))
  have ev : ((rowN m.rows i).ver == 1000000) = true := by rw [hver];rfl
  clear hver
  go_wp2
  go_ret
  exact ⟨ret_bool (by rw [HZ.out]),by rw [HZ.out];exact HM1.out.bcm⟩
 have ev : ((rowN m.rows i).ver == 1000000) = false := by simpa using hver
 have HZ : Hid (sayMb m t = _) := HYes.out (by rw [hwd,hdn];simp;omega)
 obtain ⟨u,f,hu,hfz,how,hlt,hset⟩ := HM1.out.at hil (j := 1) rfl
 obtain ⟨ta,tc,rfl,hA⟩ := ow_txt_app t how (by omega)
 have HS : Hid (∀ (X1 : World) (c' : Cel) (u' : Value) (f' : Fp) (r' : Rw),(rw8 (rowN m.rows i)).set 1 c' = rw8 r' → Wrt f wE X1 → Cel.ow X1 c' u' f' → (∀ b,f' b → f b ∨ wE.heap.size ≤ b) → X1.cell? ⟨g,off + i * 8 + 1,none⟩ = some (.slice ta (rowN m.rows i).txt.length tc) ∧ X1.frozen? ⟨g,off + i * 8 + 1,none⟩ = false ∧ Mw w (X1.setCell ⟨g,off + i * 8 + 1,none⟩ u') B o { m with rows := m.rows.set i r' } fp g off c ∧ (u' = .slice ta (rowN m.rows i).txt.length tc → Mw w X1 B o { m with rows := m.rows.set i r' } fp g off c)) := hset
 clear d1 hset HNo HYes how hlt
 go_wp2_with (at_builtin;refine wpList_append_of (by rfl) _ _ _ _ (by rfl) _ _ (by rfl) (by rfl) hA ⟨rfl,rfl,rfl,rfl⟩ ?_;rintro v1 w1 ⟨a1,e1,f1,rfl,k1,k2,k3⟩;obtain ⟨q1,q2,M2,_⟩ := HS.out w1 _ _ f1 { rowN m.rows i with txt := (rowN m.rows i).txt ++ [t] } rfl k3 k1 k2;have HM2 : Hid (Mw w (w1.setCell ⟨g,off + i * 8 + 1,none⟩ (.slice a1 ((rowN m.rows i).txt.length + 1) e1)) B o { m with rows := m.rows.set i { rowN m.rows i with txt := (rowN m.rows i).txt ++ [t] } } fp g off c) := M2;clear M2 k1 k2 k3 hA HS)
 clear q1 q2 hu hfz d0 d4 c0 c4
 generalize w1.setCell ⟨g,off + i * 8 + 1,none⟩ (.slice a1 ((rowN m.rows i).txt.length + 1) e1) = W5 at *
 generalize hr1 : ({ rowN m.rows i with txt := (rowN m.rows i).txt ++ [t] } : Rw) = r1 at *
 have hgl : r1.got = (rowN m.rows i).got := by rw [← hr1]
 have hvl : r1.ver = (rowN m.rows i).ver := by rw [← hr1]
 have hset1 : rowN (m.rows.set i r1) i = r1 := rowN_self hil
 have hil1 : i < (m.rows.set i r1).length := by rw [List.length_set];exact hil
 have hgi : i < r1.got.length := by rw [hgl,hr.gl];exact ok.lt
 obtain ⟨u,f,hu,hfz,how,hlt,hset⟩ := HM2.out.at hil1 (j := 2) (cl := icl r1.got) (by rw [hset1];rfl)
 obtain ⟨gb,go,gc,rfl,hfg,hge,hgz,hgs⟩ := ow_int_set how hgi
 obtain ⟨c0,c1,c4⟩ := HM2.out.id'
 simp only at c0
 rw [ok.hid] at c0
 have i2 : (i : Int) < (r1.got.length : Int) := by omega
 have p0 : ∀ q : Bk W5,q.w.cell? ⟨B,o,none⟩ = _ := fun q => (q.h.cell (World.block_lt_of_cell? _ _ c0)).trans c0
 have p2 : ∀ q : Bk W5,q.w.cell? ⟨g,off + i * 8 + 2,none⟩ = _ := fun q => (q.h.cell (World.block_lt_of_cell? _ _ hu)).trans hu
 have p3 : ∀ q : Bk W5,q.w.cell? ⟨gb,go + i,none⟩ = _ := fun q => (q.h.cell (World.block_lt_of_cell? _ _ hge)).trans hge
 have hx12 : -1000 ≤ el r1.got i ∧ el r1.got i ≤ 1000 := by
  have := hr.g12 (el r1.got i) (by rw [hgl];exact el_mem (by rw [← hgl];exact hgi))
  have h0 := hr.fit
  have hg := (small_iff hr.n5 hr.gl).1 ⟨hr.got,hr.g12⟩ i ok.lt
  rw [hgl]
  omega
 have hwx : wrap64 (el r1.got i + 1) = el r1.got i + 1 := by unfold wrap64;omega
 have HH : Hid (Cel.ow W5 (icl r1.got) (.slice (some ⟨gb,go,none⟩) r1.got.length gc) f) := how
 have HEL : Hid (el r1.got i = el (rowN m.rows i).got i) := by rw [Hid,hgl]
 have HGL : Hid (r1.got = (rowN m.rows i).got) := hgl
 have HVL : Hid (r1.ver = (rowN m.rows i).ver) := hvl
 have HS1 : Hid (rowN (m.rows.set i r1) i = r1) := hset1
 have HR1 : Hid (({ rowN m.rows i with txt := (rowN m.rows i).txt ++ [t] } : Rw) = r1) := hr1
 clear hu hfz hge hgz hgs how hset c0 c1 c4 hx12 hgl hvl hset1 hr1
 generalize el r1.got i = x at *
 refine wp_region_quiet_tail (C := fun w' => ∃ p : Bk W5,w' = p.w) 20 hmix (by kernel_rfl) ⟨⟨W5.drewN 1,belowN (Below.refl _ _)⟩,rfl⟩ ?_
 simp only [List.take_succ_cons,List.take_zero]
 repeat (go_big_quiet_step ((first | rfl)))
 refine wpQuiet_nil ?_
 intro wE hw'
 obtain ⟨⟨w11,hb11⟩,hw''⟩ := hw'
 have hwe : wE = w11 := hw''
 clear hw''
 subst hwe
 simp only [List.drop_succ_cons,List.drop_zero]
 have hu3 := p2 ⟨wE,hb11⟩
 simp only at hu3
 have M3 := HM2.out.step hb11
 obtain ⟨u,f3,hu,hfz,how,hlt3,hset⟩ := M3.at hil1 (j := 2) (cl := icl r1.got) (by rw [HS1.out];rfl)
 obtain rfl := Option.some.inj (hu.symm.trans hu3)
 obtain ⟨gb',go',gc',e4,hfg4,hge,hgz,hgs⟩ := ow_int_set how hgi
 cases e4
 obtain ⟨k1,k2⟩ := hgs (x + 1)
 obtain ⟨_,_,_,hM4⟩ := hset _ (icl (r1.got.set i (x + 1))) _ f3 { r1 with got := r1.got.set i (x + 1) } (by rw [HS1.out];rfl) k2 k1 (fun b hb => .inl hb)
 have HM4 : Hid (Mw w (wE.setCell ⟨gb,go + i,none⟩ (.int .i64 (x + 1))) B o { m with rows := (m.rows.set i r1).set i { r1 with got := r1.got.set i (x + 1) } } fp g off c) := hM4 rfl
 clear hM4 hgs k1 k2 hset M3 how hu hu3 hfz p0 p2 p3 hlt3 hlt
 go_upto_region 6 with fail
 generalize wE.setCell ⟨gb,go + i,none⟩ (.int .i64 (x + 1)) = W7 at *
 clear hge hgz
 rw [List.set_set] at HM4
 generalize hr2 : ({ r1 with got := r1.got.set i (x + 1) } : Rw) = r2 at *
 have hil2 : i < (m.rows.set i r2).length := by rw [List.length_set];exact hil
 have hv2 : r2.ver = (rowN m.rows i).ver := by rw [← hr2];exact HVL.out
 have hs2 : rowN (m.rows.set i r2) i = r2 := rowN_self hil
 obtain ⟨v1,v2,hM5⟩ := HM4.out.put hil2 (j := 0) (x := .int .i64 r2.ver) (y := .int .i64 (r2.ver + 1)) (r' := { r2 with ver := r2.ver + 1 }) (by rw [hs2];rfl) (by rw [hs2];rfl)
 have hvb := hr.ver
 have hwv : wrap64 (r2.ver + 1) = r2.ver + 1 := by rw [hv2];unfold wrap64;omega
 simp only [Nat.add_zero] at v1 v2 hM5
 rw [List.set_set] at hM5
 have HM5 : Hid (Mw w (W7.setCell ⟨g,off + i * 8,none⟩ (.int .i64 (r2.ver + 1))) B o { m with rows := m.rows.set i { r2 with ver := r2.ver + 1 } } fp g off c) := hM5
 have HFin : Hid (({ m with rows := m.rows.set i { r2 with ver := r2.ver + 1 } } : Mb) = (sayMb m t).1 ∧ (sayMb m t).2 = true) := by
  rw [Hid,HZ.out]
  refine ⟨?_,rfl⟩
  rw [← hr2,← HR1.out,HEL.out]
 clear hM5 hr2 hs2 hv2 HZ hvb
 go_wp2
 go_ret
 exact ⟨ret_bool (by rw [HFin.out.2]),by rw [← HFin.out.1];exact HM5.out.bcm⟩
end Go.Proofs.YtidnfdobljihoaaGreat
namespace Go.Proofs.YtidnfdobljihoaaGreat
set_option linter.unusedVariables false
set_option linter.unusedSimpArgs false
open Go.RowKit Go.Sort
set_option maxRecDepth 100000 in
set_option maxHeartbeats 3200000 in
theorem dbtSp_any (B o : Nat) (m : Mb) (i n : Nat) (who : Int) (fp : Fp) (w : World) (h : Plc w B o (mb5 m) fp) (ok : OkM m i n) :
  Calls Tryz.prog 133 #[.pointer (some ⟨B,o,none⟩),.int .i64 who] w fun e w' => e = .returned (.bool (doubtMb m who).2) ∧ Bcm w w' B o (mb5 (doubtMb m who).1) fp := by
 have hmix := mixed17
 have hil : i < m.rows.length := by rw [ok.len];exact ok.lt
 obtain ⟨g,off,c,M0⟩ := Mw.start h (by omega)
 obtain ⟨c0,c1,c4⟩ := M0.id'
 have c2 := M0.rws
 rw [ok.hid] at c0
 have i0 : (0 : Int) ≤ (i : Int) := by omega
 have i1 : (i : Int) < (m.rows.length : Int) := by omega
 have p0 : ∀ q : Bk w,q.w.cell? ⟨B,o,none⟩ = _ := fun q => (q.h.cell (World.block_lt_of_cell? _ _ c0)).trans c0
 have p2 : ∀ q : Bk w,q.w.cell? ⟨B,o + 2,none⟩ = _ := fun q => (q.h.cell (World.block_lt_of_cell? _ _ c2)).trans c2
 have HM0 : Hid (Mw w w B o m fp g off c) := M0
 clear c0 c1 c4 c2 M0 h
 go_enter Tryz.func133,Tryz.ntmps133
 go_wp2_with fail
 refine wp_region_bk (by kernel_rfl) (by kernel_rfl) ?_
 repeat (go_big_quiet_step ((first | rfl)))
 refine wpQuiet_nil ?_
 intro wE hw'
 obtain ⟨⟨w11,hb11⟩,hw''⟩ := hw'
 have hwe : wE = w11 := hw''
 clear hw''
 subst hwe
 clear p0 p2
 have M1 := HM0.out.step hb11
 have HM1 : Hid (Mw w wE B o m fp g off c) := M1
 obtain ⟨c0,c1,c4⟩ := M1.id'
 rw [ok.hid] at c0
 rw [ok.hn] at c1
 obtain ⟨Ak,⟨⟨d0,d1,d2,d3⟩,d4,d5,d6,d7⟩,hrs⟩ := M1.row ok.fit hil
 have hr := ok.ok i ok.lt
 have hH := l1Has_any Ak.sa (rowN m.rows i).sus.length Ak.sc who (rowN m.rows i).sus wE hrs.sus hrs.ms
 have HD : Hid (doubtMb m who = if inB who 0 ((n : Int) - 1) = false ∨ who = (i : Int) ∨ who ∈ (rowN m.rows i).sus ∨ m.done = true ∨ (rowN m.rows i).ver = 1000000 then (m,false) else ({ m with rows := m.rows.set i { rowN m.rows i with sus := putL (rowN m.rows i).sus who,wed := true,ver := (rowN m.rows i).ver + 1 } },true)) := by
  have e : m.i = i := by unfold Mb.i;rw [ok.hid];rfl
  rw [Hid,doubtMb,Mb.put,Mb.own,e,ok.hid,ok.hn]
 have HNo : Hid ((inB who 0 ((n : Int) - 1) = false ∨ who = (i : Int) ∨ who ∈ (rowN m.rows i).sus ∨ m.done = true ∨ (rowN m.rows i).ver = 1000000) → doubtMb m who = (m,false)) := fun h => by rw [HD.out,if_pos h]
 have HYes : Hid (¬ (inB who 0 ((n : Int) - 1) = false ∨ who = (i : Int) ∨ who ∈ (rowN m.rows i).sus ∨ m.done = true ∨ (rowN m.rows i).ver = 1000000) → doubtMb m who = ({ m with rows := m.rows.set i { rowN m.rows i with sus := putL (rowN m.rows i).sus who,wed := true,ver := (rowN m.rows i).ver + 1 } },true)) := fun h => by rw [HD.out,if_neg h]
 have hn5 := hr.n5
 have wn : wrap64 ((n : Int) - 1) = (n : Int) - 1 := by unfold wrap64;omega
 have hsl := hr.sl
 have hfs := hr.fit.2.1
 clear HD hrs d1 d2 d5 d6 d7 hb11 HM0 M1
 cases e1 : inB who 0 ((n : Int) - 1) with
 | false =>
  have HZ : Hid (doubtMb m who = (m,false)) := HNo.out (.inl e1)
  go_wp2_with (first | (go_at_call 48;refine (l1In_any _ _ _ _).mono ?_;rintro e w' ⟨rfl,hw'⟩;rw [hw'];clear hw'))
  go_ret
  exact ⟨ret_bool (by rw [HZ.out]),by rw [HZ.out];exact HM1.out.bcm⟩
 | true =>
 by_cases h2 : who = (i : Int)
 ·have HZ : Hid (doubtMb m who = (m,false)) := HNo.out (.inr (.inl h2))
  have e2 : (who == (i : Int)) = true := by rw [h2];simp
  clear h2
  go_wp2_with (first | (go_at_call 48;refine (l1In_any _ _ _ _).mono ?_;rintro e w' ⟨rfl,hw'⟩;rw [hw'];clear hw'))
  go_ret
  exact ⟨ret_bool (by rw [HZ.out]),by rw [HZ.out];exact HM1.out.bcm⟩
 have e2 : (who == (i : Int)) = false := by simpa using h2
 by_cases h3 : who ∈ (rowN m.rows i).sus
 ·have HZ : Hid (doubtMb m who = (m,false)) := HNo.out (.inr (.inr (.inl h3)))
  rw [decide_eq_true h3] at hH
  clear h3
  go_wp2_with (first | (go_at_call 48;refine (l1In_any _ _ _ _).mono ?_;rintro e w' ⟨rfl,hw'⟩;rw [hw'];clear hw') | (go_at_call 51;refine hH.mono ?_;rintro e w' ⟨rfl,hw'⟩;rw [hw'];clear hw'))
  go_ret
  exact ⟨ret_bool (by rw [HZ.out]),by rw [HZ.out];exact HM1.out.bcm⟩
 rw [decide_eq_false h3] at hH
 cases hdn : m.done with
 | true =>
  have HZ : Hid (doubtMb m who = (m,false)) := HNo.out (.inr (.inr (.inr (.inl hdn))))
  rw [hdn] at c4
  go_wp2_with (first | (go_at_call 48;refine (l1In_any _ _ _ _).mono ?_;rintro e w' ⟨rfl,hw'⟩;rw [hw'];clear hw') | (go_at_call 51;refine hH.mono ?_;rintro e w' ⟨rfl,hw'⟩;rw [hw'];clear hw'))
  go_ret
  exact ⟨ret_bool (by rw [HZ.out]),by rw [HZ.out];exact HM1.out.bcm⟩
 | false =>
 rw [hdn] at c4
 by_cases hver : (rowN m.rows i).ver = 1000000
 ·have HZ : Hid (doubtMb m who = (m,false)) := HNo.out (.inr (.inr (.inr (.inr hver))))
  have ev : ((rowN m.rows i).ver == 1000000) = true := by rw [hver];rfl
  clear hver
  go_wp2_with (first | (go_at_call 48;refine (l1In_any _ _ _ _).mono ?_;rintro e w' ⟨rfl,hw'⟩;rw [hw'];clear hw') | (go_at_call 51;refine hH.mono ?_;rintro e w' ⟨rfl,hw'⟩;rw [hw'];clear hw'))
  go_ret
  exact ⟨ret_bool (by rw [HZ.out]),by rw [HZ.out];exact HM1.out.bcm⟩
 have ev : ((rowN m.rows i).ver == 1000000) = false := by simpa using hver
 have HZ : Hid (doubtMb m who = _) := HYes.out (by rw [e1,hdn];simp;exact ⟨h2,h3,hver⟩)
 obtain ⟨u,f,hu,hfz,how,hlt,hset⟩ := HM1.out.at hil (j := 3) rfl
 have how' := how
 obtain ⟨sa,sc,G,rfl,_,_⟩ := ow_icl.1 how'
 have hP := put_ow sa sc (rowN m.rows i).sus who wE f how hfs (by omega)
 have HS : Hid (∀ (X1 : World) (c' : Cel) (u' : Value) (f' : Fp) (r' : Rw),(rw8 (rowN m.rows i)).set 3 c' = rw8 r' → Wrt f wE X1 → Cel.ow X1 c' u' f' → (∀ b,f' b → f b ∨ wE.heap.size ≤ b) → X1.cell? ⟨g,off + i * 8 + 3,none⟩ = some (.slice sa (rowN m.rows i).sus.length sc) ∧ X1.frozen? ⟨g,off + i * 8 + 3,none⟩ = false ∧ Mw w (X1.setCell ⟨g,off + i * 8 + 3,none⟩ u') B o { m with rows := m.rows.set i r' } fp g off c ∧ (u' = .slice sa (rowN m.rows i).sus.length sc → Mw w X1 B o { m with rows := m.rows.set i r' } fp g off c)) := hset
 have e3 := Option.some.inj (d3.symm.trans hu)
 rw [e3] at d3 hH
 clear e3
 clear hu hset HNo HYes how how' hlt h2 h3 hver
 go_wp2_with (first | (go_at_call 48;refine (l1In_any _ _ _ _).mono ?_;rintro e w' ⟨rfl,hw'⟩;rw [hw'];clear hw') | (go_at_call 51;refine hH.mono ?_;rintro e w' ⟨rfl,hw'⟩;rw [hw'];clear hw'))
 refine hP.mono ?_
 rintro e w1 ⟨a1,e1',f1,rfl,k1,k2,k3⟩
 obtain ⟨q1,q2,M2,_⟩ := HS.out w1 _ _ f1 { rowN m.rows i with sus := putL (rowN m.rows i).sus who } rfl (Wrt.of_below k3) k1 k2
 have HM2 : Hid (Mw w (w1.setCell ⟨g,off + i * 8 + 3,none⟩ (.slice a1 (putL (rowN m.rows i).sus who).length e1')) B o { m with rows := m.rows.set i { rowN m.rows i with sus := putL (rowN m.rows i).sus who } } fp g off c) := M2
 clear M2 k1 k2 k3 hP HS hH d0 d3 d4 c0 c1 c4 hfz
 go_upto_region 5 with fail
 generalize w1.setCell ⟨g,off + i * 8 + 3,none⟩ (.slice a1 (putL (rowN m.rows i).sus who).length e1') = W5 at *
 clear q1 q2
 generalize hr1 : ({ rowN m.rows i with sus := putL (rowN m.rows i).sus who } : Rw) = r1 at *
 have hs1 : rowN (m.rows.set i r1) i = r1 := rowN_self hil
 have hil1 : i < (m.rows.set i r1).length := by rw [List.length_set];exact hil
 obtain ⟨v1,v2,hM3⟩ := HM2.out.put hil1 (j := 4) (x := .bool r1.wed) (y := .bool true) (r' := { r1 with wed := true }) (by rw [hs1];rfl) (by rw [hs1];rfl)
 rw [List.set_set] at hM3
 have HM3 : Hid (Mw w (W5.setCell ⟨g,off + i * 8 + 4,none⟩ (.bool true)) B o { m with rows := m.rows.set i { r1 with wed := true } } fp g off c) := hM3
 have HR1 : Hid (({ rowN m.rows i with sus := putL (rowN m.rows i).sus who } : Rw) = r1) := hr1
 clear hM3 hs1 hr1
 go_upto_region 6 with fail
 generalize W5.setCell ⟨g,off + i * 8 + 4,none⟩ (.bool true) = W7 at *
 clear v1 v2
 generalize hr2 : ({ r1 with wed := true } : Rw) = r2 at *
 have hil2 : i < (m.rows.set i r2).length := by rw [List.length_set];exact hil
 have hv2 : r2.ver = (rowN m.rows i).ver := by rw [← hr2,← HR1.out]
 have hs2 : rowN (m.rows.set i r2) i = r2 := rowN_self hil
 obtain ⟨v1,v2,hM5⟩ := HM3.out.put hil2 (j := 0) (x := .int .i64 r2.ver) (y := .int .i64 (r2.ver + 1)) (r' := { r2 with ver := r2.ver + 1 }) (by rw [hs2];rfl) (by rw [hs2];rfl)
 have hvb := hr.ver
 have hwv : wrap64 (r2.ver + 1) = r2.ver + 1 := by rw [hv2];unfold wrap64;omega
 simp only [Nat.add_zero] at v1 v2 hM5
 rw [List.set_set] at hM5
 have HM5 : Hid (Mw w (W7.setCell ⟨g,off + i * 8,none⟩ (.int .i64 (r2.ver + 1))) B o { m with rows := m.rows.set i { r2 with ver := r2.ver + 1 } } fp g off c) := hM5
 have HFin : Hid (({ m with rows := m.rows.set i { r2 with ver := r2.ver + 1 } } : Mb) = (doubtMb m who).1 ∧ (doubtMb m who).2 = true) := by
  rw [Hid,HZ.out]
  refine ⟨?_,rfl⟩
  rw [← hr2,← HR1.out]
 clear hM5 hr2 hs2 hv2 HZ hvb
 go_wp2
 go_ret
 exact ⟨ret_bool (by rw [HFin.out.2]),by rw [← HFin.out.1];exact HM5.out.bcm⟩
end Go.Proofs.YtidnfdobljihoaaGreat
namespace Go.Proofs.YtidnfdobljihoaaGreat
set_option linter.unusedVariables false
set_option linter.unusedSimpArgs false
open Go.RowKit Go.Sort
theorem Wrt.setCells (g : Nat) : ∀ (vs : List Value) (o : Nat) (w : World),Wrt (fun b => b = g) w (w.setCells g o vs)
 | [],o,w => Wrt.refl _ _
 | v :: vs,o,w => (Wrt.set w g o v).trans (Wrt.setCells g vs (o + 1) _) (fun _ _ h => h)
theorem frz_setCells (g : Nat) : ∀ (vs : List Value) (o : Nat) (w : World) (x : Addr),(w.setCells g o vs).frozen? x = w.frozen? x
 | [],o,w,x => rfl
 | v :: vs,o,w,x => by rw [World.setCells,frz_setCells g vs (o + 1),World.frozen?_setCell]
theorem Plc.all {w w1 : World} {B o : Nat} {cs cs' : List Cel} {fp f' : Fp} {vs' : List Value} (h : Plc w B o cs fp) (hb : Below w.heap.size w w1) (h' : owL w1 cs' vs' f') (hl : cs'.length = cs.length) (hf : ∀ b,f' b → w.heap.size ≤ b) : Bcm w (w1.setCells B o vs') B o cs' fp := by
 obtain ⟨vs,h1,h2,h3⟩ := h
 have e := hb.block B h1.lt
 have hP1 := h1.of_block e hb.size
 have hlen := owL_len h2
 have hlen' := owL_len h'
 have hw := Wrt.setCells B vs' o w1
 have hlt := h1.lt
 have hf'B : ¬ f' B := fun k => by have := hf B k;omega
 have hsome : ∀ j,j < vs'.length → (w1.cell? ⟨B,o + j,none⟩).isSome = true := fun j hj => by
  rw [hP1.cell j (by omega),List.getElem?_eq_getElem (by omega)]
  rfl
 refine ⟨⟨f',⟨vs',⟨fun j hj => ?_,fun j hj => ?_,Nat.lt_of_lt_of_le hP1.lt hw.size⟩,owL_wrt h' hw (fun b hb' e' => hf'B (e' ▸ hb')),hf'B⟩,fun b hb' => .inr (hf b hb')⟩,fun j hj => ?_,fun j => ?_, ?_⟩
 ·rw [World.cell?_setCells_in B vs' o w1 hsome j hj,List.getElem?_eq_getElem hj]
 ·rw [frz_setCells];exact hP1.free j (by omega)
 ·rw [World.cell?_setCells_out B vs' o w1 _ (fun _ _ => by simp only;omega)]
  exact World.cell?_of_block e
 ·rw [frz_setCells];simp only [World.frozen?,e]
 ·exact (Wrt.of_below (f := fun b => fp b ∨ b = B) hb).trans hw (fun b _ k => .inr k)
theorem Mw.rowAll {w X X1 : World} {B o : Nat} {m : Mb} {fp : Fp} {g off c : Nat} (h : Mw w X B o m fp g off c) {k : Nat} (hk : k < m.rows.length) (hb : Below X.heap.size X X1) {r' : Rw} {Ar : Ra} {fr : Fp} (hr : owL X1 (rwCels r') (rwVals Ar r') fr) (hfr : ∀ b,fr b → X.heap.size ≤ b) :
  Mw w ((((((((X1.setCell ⟨g,off + k * 8,none⟩ (.int .i64 r'.ver)).setCell ⟨g,off + k * 8 + 1,none⟩ (.slice Ar.ta r'.txt.length Ar.tc)).setCell ⟨g,off + k * 8 + 2,none⟩ (.slice Ar.ga r'.got.length Ar.gc)).setCell ⟨g,off + k * 8 + 3,none⟩ (.slice Ar.sa r'.sus.length Ar.sc)).setCell ⟨g,off + k * 8 + 4,none⟩ (.bool r'.wed)).setCell ⟨g,off + k * 8 + 5,none⟩ (.bool r'.rdy)).setCell ⟨g,off + k * 8 + 6,none⟩ (.int .i64 r'.by_)).setCell ⟨g,off + k * 8 + 7,none⟩ (.slice Ar.ma r'.trm.length Ar.mc)) B o { m with rows := m.rows.set k r' } fp g off c := by
 obtain ⟨fp1,hp,hf1,hgo⟩ := h.bcm.next
 obtain ⟨g',off',c',f,h1,hgB,hfg,hfs,hpl,hput⟩ := hp.el (F := rw8) rw8_len (by omega) (j := 2) (L := m.rows) rfl (rowN_at hk)
 have e := Option.some.inj (h1.symm.trans h.rws)
 cases e
 have hA := hpl.all hb (ow_rw8 hr) rfl hfr
 have hB := hgo _ (mb5 { m with rows := m.rows.set k r' }) rfl (hput _ r' hA)
 refine ⟨hB, ?_⟩
 have hr1 : X1.cell? ⟨B,o + 2,none⟩ = some (.slice (some ⟨g,off,none⟩) m.rows.length c) := (World.cell?_of_block (hb.block B hp.lt)).trans h.rws
 have := World.cell?_setCells_out g (rwC Ar r').toList (off + k * 8) X1 ⟨B,o + 2,none⟩ (fun e _ => absurd e.symm hgB)
 have e2 := this.trans hr1
 simp only [List.length_set]
 exact e2
theorem Mw.free {w X : World} {B o : Nat} {m : Mb} {fp : Fp} {g off c : Nat} (h : Mw w X B o m fp g off c) {k : Nat} (hk : k < m.rows.length) : (X.frozen? ⟨g,off + k * 8,none⟩ = false ∧ X.frozen? ⟨g,off + k * 8 + 1,none⟩ = false ∧ X.frozen? ⟨g,off + k * 8 + 2,none⟩ = false ∧ X.frozen? ⟨g,off + k * 8 + 3,none⟩ = false) ∧ X.frozen? ⟨g,off + k * 8 + 4,none⟩ = false ∧ X.frozen? ⟨g,off + k * 8 + 5,none⟩ = false ∧ X.frozen? ⟨g,off + k * 8 + 6,none⟩ = false ∧ X.frozen? ⟨g,off + k * 8 + 7,none⟩ = false := by
 obtain ⟨fp1,hp,hf1,hgo⟩ := h.bcm.next
 obtain ⟨g',off',c',f,h1,hgB,hfg,hfs,⟨vs,hpc,hov,_⟩,hput⟩ := hp.el (F := rw8) rw8_len (by omega) (j := 2) (L := m.rows) rfl (rowN_at hk)
 have e := Option.some.inj (h1.symm.trans h.rws)
 cases e
 have hl : vs.length = 8 := owL_len hov
 exact ⟨⟨hpc.free 0 (by omega),hpc.free 1 (by omega),hpc.free 2 (by omega),hpc.free 3 (by omega)⟩,hpc.free 4 (by omega),hpc.free 5 (by omega),hpc.free 6 (by omega),hpc.free 7 (by omega)⟩
set_option maxRecDepth 100000 in
set_option maxHeartbeats 6400000 in
theorem hrdSp_any (B o : Nat) (m : Mb) (i n : Nat) (fr : Int) (Ar : Ra) (r : Rw) (fp : Fp) (w : World) (h : Plc w B o (mb5 m) fp) (ok : OkM m i n) (hrw : RwS w Ar r) (h6 : I64v fr) :
  Calls Tryz.prog 164 #[.pointer (some ⟨B,o,none⟩),.int .i64 fr,rwV Ar r] w fun e w' => e = .returned (.bool (heardMb m fr r).2) ∧ Bcm w w' B o (mb5 (heardMb m fr r).1) fp := by
 have hmix := mixed17
 have hil : i < m.rows.length := by rw [ok.len];exact ok.lt
 obtain ⟨g,off,c,M00⟩ := Mw.start h (by omega)
 have hB0 := oneA16 w (.cells (rwC Ar r) 37)
 have hx := Bx.new w 37 (rwC Ar r)
 have M0 := M00.step hB0
 have hrs0 := hrw.below hB0
 unfold rwV
 unfold rwC at *
 generalize hW : w.alloc (.cells #[.int .i64 r.ver,.slice Ar.ta r.txt.length Ar.tc,.slice Ar.ga r.got.length Ar.gc,.slice Ar.sa r.sus.length Ar.sc,.bool r.wed,.bool r.rdy,.int .i64 r.by_,.slice Ar.ma r.trm.length Ar.mc] 37) = W at *
 have HX : Hid (Bx W w.heap.size 37 #[.int .i64 r.ver,.slice Ar.ta r.txt.length Ar.tc,.slice Ar.ga r.got.length Ar.gc,.slice Ar.sa r.sus.length Ar.sc,.bool r.wed,.bool r.rdy,.int .i64 r.by_,.slice Ar.ma r.trm.length Ar.mc]) := hx
 have HM0 : Hid (Mw w W B o m fp g off c) := M0
 have HRS : Hid (RwS W Ar r) := hrs0
 obtain ⟨c0,c1,c4⟩ := M0.id'
 have c2 := M0.rws
 rw [ok.hid] at c0
 rw [ok.hn] at c1
 obtain ⟨Ak,⟨⟨d0,d1,d2,d3⟩,d4,d5,d6,d7⟩,hrs⟩ := M0.row ok.fit hil
 obtain ⟨⟨x0,x1,x2,x3⟩,x4,x5,x6,x7⟩ := Bx.r8 hx
 have hr := ok.ok i ok.lt
 have hn5 := hr.n5
 have wn : wrap64 ((n : Int) - 1) = (n : Int) - 1 := by unfold wrap64;omega
 have i0 : (0 : Int) ≤ (i : Int) := by omega
 have i1 : (i : Int) < (m.rows.length : Int) := by omega
 have HD : Hid (heardMb m fr r = if inB fr 0 ((n : Int) - 1) = false ∨ fr = (i : Int) ∨ fr ∈ (rowN m.rows i).sus ∨ m.done = true ∨ okRw r (n : Int) = false ∨ r.ver ≤ (rowN m.rows fr.toNat).ver then (m,false) else ({ m with rows := m.rows.set fr.toNat r },true)) := by
  have e : m.i = i := by unfold Mb.i;rw [ok.hid];rfl
  rw [Hid,heardMb,Mb.own,e,ok.hid,ok.hn]
 have KI : ∀ (q : Bk W) (a b d : Int),Calls Tryz.prog 48 #[.int .i64 a,.int .i64 b,.int .i64 d] q.w fun e w' => e = .returned (.bool (inB a b d)) ∧ Below q.w.heap.size q.w w' := fun q a b d => (l1In_any a b d q.w).mono (fun e w' h => ⟨h.1,by rw [h.2];exact Below.refl _ _⟩)
 have C1 : ∀ q : Bk W,Calls Tryz.prog 48 #[.int .i64 fr,.int .i64 0,.int .i64 ((n : Int) - 1)] q.w fun e w' => e = .returned (.bool (inB fr 0 ((n : Int) - 1))) ∧ Below q.w.heap.size q.w w' := fun q => KI q _ _ _
 have C2 : ∀ q : Bk W,Calls Tryz.prog 51 #[.slice Ak.sa (rowN m.rows i).sus.length Ak.sc,.int .i64 fr] q.w fun e w' => e = .returned (.bool (decide (fr ∈ (rowN m.rows i).sus))) ∧ Below q.w.heap.size q.w w' := fun q => (l1Has_any Ak.sa (rowN m.rows i).sus.length Ak.sc fr (rowN m.rows i).sus q.w (hrs.sus.below q.h (Nat.le_refl _)) hrs.ms).mono (fun e w' h => ⟨h.1,by rw [h.2];exact Below.refl _ _⟩)
 have C3 : ∀ q : Bk W,Calls Tryz.prog 50 #[.agg #[.int .i64 r.ver,.slice Ar.ta r.txt.length Ar.tc,.slice Ar.ga r.got.length Ar.gc,.slice Ar.sa r.sus.length Ar.sc,.bool r.wed,.bool r.rdy,.int .i64 r.by_,.slice Ar.ma r.trm.length Ar.mc],.int .i64 (n : Int)] q.w fun e w' => e = .returned (.bool (okRw r (n : Int))) ∧ Below q.w.heap.size q.w w' := fun q => rowS_any Ar r (n : Int) q.w (hrs0.below q.h)
 have T : ∀ {x v},W.cell? x = some v → ∀ q : Bk W,q.w.cell? x = some v := fun h q => (q.h.cell (World.block_lt_of_cell? _ _ h)).trans h
 have p0 := T c0
 have p1 := T c1
 have p2 := T c2
 have p4 := T c4
 have s3 := T d3
 have y0 := T x0
 have y1 := T x1
 have y2 := T x2
 have y3 := T x3
 have y4 := T x4
 have y5 := T x5
 have y6 := T x6
 have y7 := T x7
 by_cases e1 : inB fr 0 ((n : Int) - 1) = true
 rotate_left
 ·have e1' : inB fr 0 ((n : Int) - 1) = false := by simpa using e1
  have HZ : Hid (heardMb m fr r = (m,false)) := by rw [Hid,HD.out,if_pos (.inl e1')]
  rw [e1'] at C1
  clear c0 c1 c2 c4 d0 d1 d2 d3 d4 d5 d6 d7 x0 x1 x2 x3 x4 x5 x6 x7 T KI hrs hrs0 M0 M00 hB0 hx h hrw HD
  go_enter Tryz.func164,Tryz.ntmps164
  go_wp2_with fail
  refine wp_region_bk (by kernel_rfl) (by kernel_rfl) ?_
  repeat (go_big_quiet_step ((first | (go_at_call 48;exact bk_call _ (C1 _)) | (go_at_call 51;exact bk_call _ (C2 _)) | (go_at_call 50;exact bk_call _ (C3 _)) | rfl)))
  refine wpQuiet_nil ?_
  intro wE hw'
  obtain ⟨⟨w11,hb11⟩,hw''⟩ := hw'
  have hwe : wE = w11 := hw''
  clear hw''
  subst hwe
  have HMe : Hid (Mw w wE B o m fp g off c) := HM0.out.step hb11
  clear p0 p1 p2 p4 s3 y0 y1 y2 y3 y4 y5 y6 y7 C1 C2 C3
  go_wp2
  go_ret
  exact ⟨ret_bool (by rw [HZ.out]),by rw [HZ.out];exact HMe.out.bcm⟩
 rw [e1] at C1
 have hfr := inB7.1 e1
 obtain ⟨F,rfl⟩ : ∃ F : Nat,fr = (F : Int) := ⟨fr.toNat,by omega⟩
 have hFl : F < m.rows.length := by rw [ok.len];omega
 have F0 : (0 : Int) ≤ (F : Int) := by omega
 have F1 : (F : Int) < (m.rows.length : Int) := by omega
 obtain ⟨Af,⟨⟨f0,_,_,_⟩,_⟩,_⟩ := M0.row ok.fit hFl
 have s0 := T f0
 have HCl := f0
 clear f0
 have HD : Hid (heardMb m (F : Int) r = if (F : Int) = (i : Int) ∨ (F : Int) ∈ (rowN m.rows i).sus ∨ m.done = true ∨ okRw r (n : Int) = false ∨ r.ver ≤ (rowN m.rows F).ver then (m,false) else ({ m with rows := m.rows.set F r },true)) := by
  rw [Hid,HD.out,e1]
  simp
 clear e1
 by_cases h2 : (F : Int) = (i : Int)
 ·have HZ : Hid (heardMb m (F : Int) r = (m,false)) := by rw [Hid,HD.out,if_pos (.inl h2)]
  have g2 : ((F : Int) == (i : Int)) = true := by rw [h2];simp
  clear h2
  clear c0 c1 c2 c4 d0 d1 d2 d3 d4 d5 d6 d7 x0 x1 x2 x3 x4 x5 x6 x7 T KI hrs hrs0 M0 M00 hB0 hx h hrw HD HCl
  go_enter Tryz.func164,Tryz.ntmps164
  go_wp2_with fail
  refine wp_region_bk (by kernel_rfl) (by kernel_rfl) ?_
  repeat (go_big_quiet_step ((first | (go_at_call 48;exact bk_call _ (C1 _)) | (go_at_call 51;exact bk_call _ (C2 _)) | (go_at_call 50;exact bk_call _ (C3 _)) | rfl)))
  refine wpQuiet_nil ?_
  intro wE hw'
  obtain ⟨⟨w11,hb11⟩,hw''⟩ := hw'
  have hwe : wE = w11 := hw''
  clear hw''
  subst hwe
  have HMe : Hid (Mw w wE B o m fp g off c) := HM0.out.step hb11
  clear p0 p1 p2 p4 s3 y0 y1 y2 y3 y4 y5 y6 y7 C1 C2 C3 s0
  go_wp2
  go_ret
  exact ⟨ret_bool (by rw [HZ.out]),by rw [HZ.out];exact HMe.out.bcm⟩
 have g2 : ((F : Int) == (i : Int)) = false := by simpa using h2
 by_cases h3 : (F : Int) ∈ (rowN m.rows i).sus
 ·have HZ : Hid (heardMb m (F : Int) r = (m,false)) := by rw [Hid,HD.out,if_pos (.inr (.inl h3))]
  rw [decide_eq_true h3] at C2
  clear h3
  clear c0 c1 c2 c4 d0 d1 d2 d3 d4 d5 d6 d7 x0 x1 x2 x3 x4 x5 x6 x7 T KI hrs hrs0 M0 M00 hB0 hx h hrw HD HCl
  go_enter Tryz.func164,Tryz.ntmps164
  go_wp2_with fail
  refine wp_region_bk (by kernel_rfl) (by kernel_rfl) ?_
  repeat (go_big_quiet_step ((first | (go_at_call 48;exact bk_call _ (C1 _)) | (go_at_call 51;exact bk_call _ (C2 _)) | (go_at_call 50;exact bk_call _ (C3 _)) | rfl)))
  refine wpQuiet_nil ?_
  intro wE hw'
  obtain ⟨⟨w11,hb11⟩,hw''⟩ := hw'
  have hwe : wE = w11 := hw''
  clear hw''
  subst hwe
  have HMe : Hid (Mw w wE B o m fp g off c) := HM0.out.step hb11
  clear p0 p1 p2 p4 s3 y0 y1 y2 y3 y4 y5 y6 y7 C1 C2 C3 s0
  go_wp2
  go_ret
  exact ⟨ret_bool (by rw [HZ.out]),by rw [HZ.out];exact HMe.out.bcm⟩
 rw [decide_eq_false h3] at C2
 by_cases h4 : m.done = true
 ·have HZ : Hid (heardMb m (F : Int) r = (m,false)) := by rw [Hid,HD.out,if_pos (.inr (.inr (.inl h4)))]
  rw [h4] at p4
  clear h4
  clear c0 c1 c2 c4 d0 d1 d2 d3 d4 d5 d6 d7 x0 x1 x2 x3 x4 x5 x6 x7 T KI hrs hrs0 M0 M00 hB0 hx h hrw HD HCl
  go_enter Tryz.func164,Tryz.ntmps164
  go_wp2_with fail
  refine wp_region_bk (by kernel_rfl) (by kernel_rfl) ?_
  repeat (go_big_quiet_step ((first | (go_at_call 48;exact bk_call _ (C1 _)) | (go_at_call 51;exact bk_call _ (C2 _)) | (go_at_call 50;exact bk_call _ (C3 _)) | rfl)))
  refine wpQuiet_nil ?_
  intro wE hw'
  obtain ⟨⟨w11,hb11⟩,hw''⟩ := hw'
  have hwe : wE = w11 := hw''
  clear hw''
  subst hwe
  have HMe : Hid (Mw w wE B o m fp g off c) := HM0.out.step hb11
  clear p0 p1 p2 p4 s3 y0 y1 y2 y3 y4 y5 y6 y7 C1 C2 C3 s0
  go_wp2
  go_ret
  exact ⟨ret_bool (by rw [HZ.out]),by rw [HZ.out];exact HMe.out.bcm⟩
 rw [show m.done = false by simpa using h4] at p4
 by_cases h5 : okRw r (n : Int) = false
 ·have HZ : Hid (heardMb m (F : Int) r = (m,false)) := by rw [Hid,HD.out,if_pos (.inr (.inr (.inr (.inl h5))))]
  rw [h5] at C3
  clear h5
  clear c0 c1 c2 c4 d0 d1 d2 d3 d4 d5 d6 d7 x0 x1 x2 x3 x4 x5 x6 x7 T KI hrs hrs0 M0 M00 hB0 hx h hrw HD HCl
  go_enter Tryz.func164,Tryz.ntmps164
  go_wp2_with fail
  refine wp_region_bk (by kernel_rfl) (by kernel_rfl) ?_
  repeat (go_big_quiet_step ((first | (go_at_call 48;exact bk_call _ (C1 _)) | (go_at_call 51;exact bk_call _ (C2 _)) | (go_at_call 50;exact bk_call _ (C3 _)) | rfl)))
  refine wpQuiet_nil ?_
  intro wE hw'
  obtain ⟨⟨w11,hb11⟩,hw''⟩ := hw'
  have hwe : wE = w11 := hw''
  clear hw''
  subst hwe
  have HMe : Hid (Mw w wE B o m fp g off c) := HM0.out.step hb11
  clear p0 p1 p2 p4 s3 y0 y1 y2 y3 y4 y5 y6 y7 C1 C2 C3 s0
  go_wp2
  go_ret
  exact ⟨ret_bool (by rw [HZ.out]),by rw [HZ.out];exact HMe.out.bcm⟩
 have h5' : okRw r (n : Int) = true := by simpa using h5
 rw [h5'] at C3
 by_cases h6' : r.ver ≤ (rowN m.rows F).ver
 ·have HZ : Hid (heardMb m (F : Int) r = (m,false)) := by rw [Hid,HD.out,if_pos (.inr (.inr (.inr (.inr h6'))))]
  have g6 : decide (r.ver ≤ (rowN m.rows F).ver) = true := by simpa using h6'
  clear c0 c1 c2 c4 d0 d1 d2 d3 d4 d5 d6 d7 x0 x1 x2 x3 x4 x5 x6 x7 T KI hrs hrs0 M0 M00 hB0 hx h hrw HD HCl
  go_enter Tryz.func164,Tryz.ntmps164
  go_wp2_with fail
  refine wp_region_bk (by kernel_rfl) (by kernel_rfl) ?_
  repeat (go_big_quiet_step ((first | (go_at_call 48;exact bk_call _ (C1 _)) | (go_at_call 51;exact bk_call _ (C2 _)) | (go_at_call 50;exact bk_call _ (C3 _)) | rfl)))
  refine wpQuiet_nil ?_
  intro wE hw'
  obtain ⟨⟨w11,hb11⟩,hw''⟩ := hw'
  have hwe : wE = w11 := hw''
  clear hw''
  subst hwe
  have HMe : Hid (Mw w wE B o m fp g off c) := HM0.out.step hb11
  clear p0 p1 p2 p4 s3 y0 y1 y2 y3 y4 y5 y6 y7 C1 C2 C3 s0
  go_wp2
  go_ret
  exact ⟨ret_bool (by rw [HZ.out]),by rw [HZ.out];exact HMe.out.bcm⟩
 have g6 : decide (r.ver ≤ (rowN m.rows F).ver) = false := by simpa using h6'
 have HZ : Hid (heardMb m (F : Int) r = ({ m with rows := m.rows.set F r },true)) := by rw [Hid,HD.out,if_neg];rintro (k | k | k | k | k) <;> contradiction
 have hln := (okRw_iff.1 h5').ln
 clear h2 h3 h4 h5
 clear c0 c1 c2 c4 d0 d1 d2 d3 d4 d5 d6 d7 x0 x1 x2 x3 x4 x5 x6 x7 T KI hrs hrs0 M0 M00 hB0 hx h hrw HD HCl
 go_enter Tryz.func164,Tryz.ntmps164
 go_wp2_with fail
 refine wp_region_bk (by kernel_rfl) (by kernel_rfl) ?_
 repeat (go_big_quiet_step ((first | (go_at_call 48;exact bk_call _ (C1 _)) | (go_at_call 51;exact bk_call _ (C2 _)) | (go_at_call 50;exact bk_call _ (C3 _)) | rfl)))
 refine wpQuiet_nil ?_
 intro wE hw'
 obtain ⟨⟨w11,hb11⟩,hw''⟩ := hw'
 have hwe : wE = w11 := hw''
 clear hw''
 subst hwe
 have M1 := HM0.out.step hb11
 have HMe : Hid (Mw w wE B o m fp g off c) := M1
 have HXe : Hid (Bx wE w.heap.size 37 #[.int .i64 r.ver,.slice Ar.ta r.txt.length Ar.tc,.slice Ar.ga r.got.length Ar.gc,.slice Ar.sa r.sus.length Ar.sc,.bool r.wed,.bool r.rdy,.int .i64 r.by_,.slice Ar.ma r.trm.length Ar.mc]) := HX.out.below hb11
 have HRe : Hid (RwS wE Ar r) := HRS.out.below hb11
 clear p0 p1 p2 p4 s3 y0 y1 y2 y3 y4 y5 y6 y7 C1 C2 C3 s0 M1
 go_wp2_with fail
 have KS : ∀ X,Below wE.heap.size wE X → (X.cell? ⟨B,o + 2,none⟩ = some (.slice (some ⟨g,off,none⟩) m.rows.length c) ∧ X.cell? ⟨w.heap.size,0,none⟩ = some (.int .i64 r.ver) ∧ X.cell? ⟨w.heap.size,1,none⟩ = some (.slice Ar.ta r.txt.length Ar.tc) ∧ X.cell? ⟨w.heap.size,2,none⟩ = some (.slice Ar.ga r.got.length Ar.gc) ∧ X.cell? ⟨w.heap.size,3,none⟩ = some (.slice Ar.sa r.sus.length Ar.sc) ∧ X.cell? ⟨w.heap.size,4,none⟩ = some (.bool r.wed) ∧ X.cell? ⟨w.heap.size,5,none⟩ = some (.bool r.rdy) ∧ X.cell? ⟨w.heap.size,6,none⟩ = some (.int .i64 r.by_) ∧ X.cell? ⟨w.heap.size,7,none⟩ = some (.slice Ar.ma r.trm.length Ar.mc)) := fun X hX => by
  obtain ⟨⟨x0,x1,x2,x3⟩,x4,x5,x6,x7⟩ := Bx.r8 (HXe.out.below hX)
  exact ⟨(HMe.out.step hX).rws,x0,x1,x2,x3,x4,x5,x6,x7⟩
 have hbd : Below wE.heap.size wE wE.drew := (Same.drewN wE 1).below
 refine gt_begin (S := fun X : World => X.cell? ⟨B,o + 2,none⟩ = some (.slice (some ⟨g,off,none⟩) m.rows.length c) ∧ X.cell? ⟨w.heap.size,0,none⟩ = some (.int .i64 r.ver) ∧ X.cell? ⟨w.heap.size,1,none⟩ = some (.slice Ar.ta r.txt.length Ar.tc) ∧ X.cell? ⟨w.heap.size,2,none⟩ = some (.slice Ar.ga r.got.length Ar.gc) ∧ X.cell? ⟨w.heap.size,3,none⟩ = some (.slice Ar.sa r.sus.length Ar.sc) ∧ X.cell? ⟨w.heap.size,4,none⟩ = some (.bool r.wed) ∧ X.cell? ⟨w.heap.size,5,none⟩ = some (.bool r.rdy) ∧ X.cell? ⟨w.heap.size,6,none⟩ = some (.int .i64 r.by_) ∧ X.cell? ⟨w.heap.size,7,none⟩ = some (.slice Ar.ma r.trm.length Ar.mc)) 8 hmix (by kernel_rfl) ?_
 have hHeld : (fun X : World => X.cell? ⟨B,o + 2,none⟩ = some (.slice (some ⟨g,off,none⟩) m.rows.length c) ∧ X.cell? ⟨w.heap.size,0,none⟩ = some (.int .i64 r.ver) ∧ X.cell? ⟨w.heap.size,1,none⟩ = some (.slice Ar.ta r.txt.length Ar.tc) ∧ X.cell? ⟨w.heap.size,2,none⟩ = some (.slice Ar.ga r.got.length Ar.gc) ∧ X.cell? ⟨w.heap.size,3,none⟩ = some (.slice Ar.sa r.sus.length Ar.sc) ∧ X.cell? ⟨w.heap.size,4,none⟩ = some (.bool r.wed) ∧ X.cell? ⟨w.heap.size,5,none⟩ = some (.bool r.rdy) ∧ X.cell? ⟨w.heap.size,6,none⟩ = some (.int .i64 r.by_) ∧ X.cell? ⟨w.heap.size,7,none⟩ = some (.slice Ar.ma r.trm.length Ar.mc)) wE.drew := (KS _ hbd)
 refine gt_take (i := 0) (v := ?_) rfl (by kernel_rfl) (by kernel_rfl) (by kernel_rfl) (by kernel_rfl) (fun _ _ _ h => h) (Or.inl ⟨by rfl, ?_⟩) hHeld ?_
 rotate_left
 ·(intro X hSX;(try dsimp only at hSX);obtain ⟨g0,g1,g2,g3,g4,g5,g6,g7,g8⟩ := hSX;go_simp;try with_reducible rfl)
 try simp only [Act.put,List.setIfInBounds_toArray,List.set_cons_zero,List.set_cons_succ]
 refine gt_take (i := 1) (v := ?_) rfl (by kernel_rfl) (by kernel_rfl) (by kernel_rfl) (by kernel_rfl) (fun _ _ _ h => h) (Or.inl ⟨by rfl, ?_⟩) hHeld ?_
 rotate_left
 ·(intro X hSX;(try dsimp only at hSX);obtain ⟨g0,g1,g2,g3,g4,g5,g6,g7,g8⟩ := hSX;go_simp;try with_reducible rfl)
 try simp only [Act.put,List.setIfInBounds_toArray,List.set_cons_zero,List.set_cons_succ]
 refine gt_take (i := 2) (v := ?_) rfl (by kernel_rfl) (by kernel_rfl) (by kernel_rfl) (by kernel_rfl) (fun _ _ _ h => h) (Or.inl ⟨by rfl, ?_⟩) hHeld ?_
 rotate_left
 ·(intro X hSX;(try dsimp only at hSX);obtain ⟨g0,g1,g2,g3,g4,g5,g6,g7,g8⟩ := hSX;go_simp;try with_reducible rfl)
 try simp only [Act.put,List.setIfInBounds_toArray,List.set_cons_zero,List.set_cons_succ]
 refine gt_take (i := 3) (v := ?_) rfl (by kernel_rfl) (by kernel_rfl) (by kernel_rfl) (by kernel_rfl) (fun _ _ _ h => h) (Or.inl ⟨by rfl, ?_⟩) hHeld ?_
 rotate_left
 ·(intro X hSX;(try dsimp only at hSX);obtain ⟨g0,g1,g2,g3,g4,g5,g6,g7,g8⟩ := hSX;go_simp;try with_reducible rfl)
 try simp only [Act.put,List.setIfInBounds_toArray,List.set_cons_zero,List.set_cons_succ]
 refine gt_take (i := 4) (v := ?_) rfl (by kernel_rfl) (by kernel_rfl) (by kernel_rfl) (by kernel_rfl) (fun _ _ _ h => h) (Or.inl ⟨by rfl, ?_⟩) hHeld ?_
 rotate_left
 ·(intro X hSX;(try dsimp only at hSX);obtain ⟨g0,g1,g2,g3,g4,g5,g6,g7,g8⟩ := hSX;go_simp;try with_reducible rfl)
 try simp only [Act.put,List.setIfInBounds_toArray,List.set_cons_zero,List.set_cons_succ]
 refine gt_take (i := 5) (v := ?_) rfl (by kernel_rfl) (by kernel_rfl) (by kernel_rfl) (by kernel_rfl) (fun _ _ _ h => h) (Or.inl ⟨by rfl, ?_⟩) hHeld ?_
 rotate_left
 ·(intro X hSX;(try dsimp only at hSX);obtain ⟨g0,g1,g2,g3,g4,g5,g6,g7,g8⟩ := hSX;go_simp;try with_reducible rfl)
 try simp only [Act.put,List.setIfInBounds_toArray,List.set_cons_zero,List.set_cons_succ]
 refine gt_one (i := 6) rfl (by kernel_rfl) (by kernel_rfl) (fun K hK => ?_)
 go_simp
 go_at_call 91
 refine (cpyRw_any Ar r wE.drew (HRe.out.below hbd) hln.1 hln.2.1 hln.2.2.1 hln.2.2.2).mono ?_
 rintro e w1 ⟨As,rfl,fr,hr1,hr2,hr3⟩
 have hb1 : Below wE.heap.size wE w1 := hbd.trans (hr3.mono hbd.size)
 have M2 := HMe.out.step hb1
 obtain ⟨Af2,⟨⟨f0,f1,f2,f3⟩,f4,f5,f6,f7⟩,_⟩ := M2.row ok.fit hFl
 obtain ⟨⟨z0,z1,z2,z3⟩,z4,z5,z6,z7⟩ := M2.free hFl
 have HM3 := HMe.out.rowAll hFl hb1 hr1 (fun b hb => hr2 b hb)
 refine hK.out _ _ (KS _ hb1) (fun hHeldN => ?_)
 clear hK hHeld
 have hHeld := hHeldN
 try simp only [Act.put,List.setIfInBounds_toArray,List.set_cons_zero,List.set_cons_succ]
 refine gt_take (i := 7) (v := ?_) rfl (by kernel_rfl) (by kernel_rfl) (by kernel_rfl) (by kernel_rfl) (fun _ _ _ h => h) (Or.inl ⟨by rfl, ?_⟩) hHeld ?_
 rotate_left
 ·(intro X hSX;(try dsimp only at hSX);obtain ⟨g0,g1,g2,g3,g4,g5,g6,g7,g8⟩ := hSX;go_simp;try with_reducible rfl)
 try simp only [Act.put,List.setIfInBounds_toArray,List.set_cons_zero,List.set_cons_succ]
 unfold rwV rwC
 refine gt_last rfl (by kernel_rfl) (by kernel_rfl) (fun K hK => ?_)
 go_simp
 refine hK.out _ _ ?_
 have HB3 := HM3.bcm
 have HB4 : Hid (Bcm w _ B o (mb5 { m with rows := m.rows.set F r }) fp) := HB3
 clear HM3 HB3 M2 f0 f1 f2 f3 f4 f5 f6 f7 z0 z1 z2 z3 z4 z5 z6 z7 KS hbd hr1 hr2 hr3 hb1
 go_wp2
 go_ret
 exact ⟨ret_bool (by rw [HZ.out]),by rw [HZ.out];exact HB4.out⟩
end Go.Proofs.YtidnfdobljihoaaGreat
namespace Go.Proofs.YtidnfdobljihoaaGreat
set_option linter.unusedVariables false
set_option linter.unusedSimpArgs false
open Go.RowKit Go.Sort
theorem Bx.pc {w : World} {B : Nat} {T : TypeId} {cs : Array Value} (h : Bx w B T cs) : Pc w B 0 cs.toList :=
 ⟨fun j hj => by
  have hj' : j < cs.size := by simpa using hj
  rw [Nat.zero_add,h.at j (Array.getElem?_eq_getElem hj')]
  simp [hj'],fun j _ => by rw [Nat.zero_add];exact h.f j,h.lt⟩
theorem box_plc {w : World} {B : Nat} {T : TypeId} {A : Ma} {m : Mb} {fp : Fp} (h : Bx w B T (mbC A m)) (hl : owL w (mbCels m) (mbVals A m) fp) (hB : ¬ fp B) : Plc w B 0 (mb5 m) fp := ⟨_,h.pc,ow_mb5 hl,hB⟩
theorem box_done {w X Y : World} {B r : Nat} {m : Mb} {fp : Fp} (h : Bcm X Y B 0 (mb5 m) fp) (hf : ∀ b,fp b → w.heap.size ≤ b ∧ b ≠ r) (hB : w.heap.size ≤ B) (hrB : r ≠ B) (hr : w.heap.size ≤ r) (hrX : r < X.heap.size) (hw : Below w.heap.size w X) {T : TypeId} {Z : Array Value} (hz : Bx X r T Z) : ∃ A : Ma,C5 Y B 0 (.int .i64 m.id) (.int .i64 m.n) (.slice A.ra m.rows.length A.rc) (.slice A.sa m.sung.length A.sc) (.bool m.done) ∧ Bx Y r T Z ∧
  ∀ {a b c d e : Value},NewL w (((((Y.setCell ⟨r,0,none⟩ a).setCell ⟨r,1,none⟩ b).setCell ⟨r,2,none⟩ c).setCell ⟨r,3,none⟩ d).setCell ⟨r,4,none⟩ e) (mbCels m) (mbVals A m) := by
 obtain ⟨fp1,hp,hs,_⟩ := h.next
 obtain ⟨vs,hpc,hov,hnB⟩ := hp
 obtain ⟨A,rfl,hl⟩ := mb5_ow hov
 have hl5 : (mbC A m).toList.length = 5 := rfl
 have c := hpc.cell
 have hXs := hw.size
 have hfp : ∀ b,fp1 b → w.heap.size ≤ b ∧ b ≠ r := fun b hb => by
  rcases hs b hb with k | k
  ·exact hf b k
  ·exact ⟨by omega,by omega⟩
 have hbY : Below w.heap.size w Y := h.wrt.below hw hXs (fun b hb => by
  rcases hb with hb | hb
  ·exact (hf b hb).1
  ·omega)
 refine ⟨A,⟨c 0 (by rw [hl5];omega),c 1 (by rw [hl5];omega),c 2 (by rw [hl5];omega),c 3 (by rw [hl5];omega),c 4 (by rw [hl5];omega)⟩,hz.wrt h.wrt (fun k => by
  rcases k with k | k
  ·exact (hf r k).2 rfl
  ·exact hrB k),fun {a b c d e} => ⟨fp1,owL_wrt hl (wrt5 Y r) (fun b hb e => (hfp b hb).2 e),fun b hb => (hfp b hb).1,(wrt5 Y r).below hbY hbY.size (fun b e => by omega)⟩⟩
attribute [local irreducible] sv
end Go.Proofs.YtidnfdobljihoaaGreat
namespace Go.Proofs.YtidnfdobljihoaaGreat
set_option linter.unusedVariables false
set_option linter.unusedSimpArgs false
open Go.RowKit Go.Sort
def lN (L : List Nat) : List Int := L.map (fun (j : Nat) => (j : Int))
theorem lN_len (L : List Nat) : (lN L).length = L.length := List.length_map _
theorem el_lN {L : List Nat} {k : Nat} (h : k < L.length) : el (lN L) k = ((L.getD k 0 : Nat) : Int) := by simp [lN,el,h,List.getD]
theorem leftN_len (n : Nat) (sus : List Int) : (leftN n sus).length ≤ n := by
 have := List.length_filter_le (fun (j : Nat) => decide ((j : Int) ∉ sus)) (List.range n)
 simpa [leftN] using this
theorem leftN_succ (k : Nat) (sus : List Int) : leftN (k + 1) sus = if (k : Int) ∈ sus then leftN k sus else leftN k sus ++ [k] := by
 unfold leftN
 rw [List.range_succ,List.filter_append]
 by_cases h : (k : Int) ∈ sus <;> simp [h]
def AnsL (w w' : World) (e : Ending) (Z : List Int) : Prop := ∃ a c,e = .returned (.slice a Z.length c) ∧ NewO w w' (icl Z) (.slice a Z.length c)
set_option maxRecDepth 100000 in
set_option maxHeartbeats 3200000 in
theorem lftSp_any (w0 : World) (B o : Nat) (m : Mb) (i n : Nat) (fp : Fp) (g off c : Nat) (w : World) (M : Mw w0 w B o m fp g off c) (ok : OkM m i n) :
  Calls Tryz.prog 94 #[.pointer (some ⟨B,o,none⟩)] w fun e w' => AnsL w w' e (lN (leftN n (rowN m.rows i).sus)) := by
 have hil : i < m.rows.length := by rw [ok.len];exact ok.lt
 have HM : Hid (Mw w0 w B o m fp g off c) := M
 have hr := ok.ok i ok.lt
 have hn5 := hr.n5
 have i0 : (0 : Int) ≤ (i : Int) := by omega
 have i1 : (i : Int) < (m.rows.length : Int) := by omega
 have hb0 := oneA16 w (.cells #[] 2)
 have HB0 : Hid (Below w.heap.size w (w.alloc (.cells #[] 2))) := hb0
 have HO0 : Hid (Cel.ow (w.alloc (.cells #[] 2)) (icl []) (.slice (some ⟨w.heap.size,0,none⟩) 0 0) (fun _ => False)) := ow_icl.2 ⟨_,0,none,rfl,OSo.nil _ _ (plainS _ _),fun b => by simp⟩
 clear M hb0
 go_enter Tryz.func94,Tryz.ntmps94
 go_wp2_with fail
 generalize w.alloc (.cells #[] 2) = W0 at *
 go_loopw [3,4] (fun v k wr => ∃ (j : Nat) (a : Option Addr) (cc : Nat) (Z : List Int) (fz : Fp),j ≤ n ∧ k = .int .i64 (j : Int) ∧ v = .slice a Z.length cc ∧ Hid (Z = lN (leftN j (rowN m.rows i).sus)) ∧ Cel.ow wr (icl Z) (.slice a Z.length cc) fz ∧ (∀ b,fz b → w.heap.size ≤ b) ∧ Below w.heap.size w wr) (fun _ k _ => n - (intOf k).toNat)
 case atStart => exact ⟨0,some ⟨w.heap.size,0,none⟩,0,[],_,Nat.zero_le _,rfl,rfl,rfl,HO0.out,fun b h => h.elim,HB0.out⟩
 case round =>
  obtain ⟨j,a,cc,Z,fz,hj,rfl,rfl,hZ,hO,hfz,hb⟩ := hrel
  have M1 := HM.out.step hb
  obtain ⟨c0,c1,c4⟩ := M1.id'
  have c2 := M1.rws
  rw [ok.hid] at c0
  rw [ok.hn] at c1
  by_cases hlt : j < n
  ·have k1 : (j : Int) < (n : Int) := by omega
   obtain ⟨Ak,⟨⟨d0,d1,d2,d3⟩,d4,d5,d6,d7⟩,hrs⟩ := M1.row ok.fit hil
   have C2 : ∀ q : Bk wr,Calls Tryz.prog 51 #[.slice Ak.sa (rowN m.rows i).sus.length Ak.sc,.int .i64 (j : Int)] q.w fun e w' => e = .returned (.bool (decide ((j : Int) ∈ (rowN m.rows i).sus))) ∧ Below q.w.heap.size q.w w' := fun q => (l1Has_any Ak.sa (rowN m.rows i).sus.length Ak.sc (j : Int) (rowN m.rows i).sus q.w (hrs.sus.below q.h (Nat.le_refl _)) hrs.ms).mono (fun e w' h => ⟨h.1,by rw [h.2];exact Below.refl _ _⟩)
   have T : ∀ {x v},wr.cell? x = some v → ∀ q : Bk wr,q.w.cell? x = some v := fun h q => (q.h.cell (World.block_lt_of_cell? _ _ h)).trans h
   have p0 := T c0
   have p2 := T c2
   have s3 := T d3
   have HO : Hid (Cel.ow wr (icl Z) (.slice a Z.length cc) fz) := hO
   have HB : Hid (Below w.heap.size w wr) := hb
   have hZl : Z.length ≤ 1000000 := by rw [hZ.out,lN_len];have := leftN_len j (rowN m.rows i).sus;omega
   have HN : Hid (lN (leftN (j + 1) (rowN m.rows i).sus) = if (j : Int) ∈ (rowN m.rows i).sus then Z else Z ++ [(j : Int)]) := by
    rw [Hid,hZ.out,leftN_succ]
    by_cases hm : (j : Int) ∈ (rowN m.rows i).sus <;> simp [hm,lN]
   have wj : wrap64 ((j : Int) + 1) = (j : Int) + 1 := by unfold wrap64;omega
   clear d0 d1 d2 d3 d4 d5 d6 d7 c0 c2 c4 hrs M1 hO hb T
   by_cases hm : (j : Int) ∈ (rowN m.rows i).sus
   ·rw [decide_eq_true hm] at C2
    rw [if_pos hm] at HN
    clear hm
    go_wp2_with fail
    refine wp_region_bk (by kernel_rfl) (by kernel_rfl) ?_
    repeat (go_big_quiet_step ((first | (go_at_call 51;exact bk_call _ (C2 _)) | rfl)))
    refine wpQuiet_nil ?_
    intro wE hw'
    obtain ⟨⟨w11,hb11⟩,hw''⟩ := hw'
    have hwe : wE = w11 := hw''
    clear hw''
    subst hwe
    have HO2 : Hid (Cel.ow wE (icl Z) (.slice a Z.length cc) fz) := Cel.ow_below HO.out hb11
    have HB2 : Hid (Below w.heap.size w wE) := HB.out.trans (hb11.mono HB.out.size)
    clear C2 p0 p2 s3 hb11 c1
    go_wp2
    go_roundw
    case rel => exact ⟨j + 1,a,cc,Z,fz,by omega,by go_num,rfl,HN.out.symm,HO2.out,hfz,HB2.out⟩
    case measure => simp [intOf];omega
   ·rw [decide_eq_false hm] at C2
    rw [if_neg hm] at HN
    clear hm
    go_wp2_with fail
    refine wp_region_bk (by kernel_rfl) (by kernel_rfl) ?_
    repeat (go_big_quiet_step ((first | (go_at_call 51;exact bk_call _ (C2 _)) | rfl)))
    refine wpQuiet_nil ?_
    intro wE hw'
    obtain ⟨⟨w11,hb11⟩,hw''⟩ := hw'
    have hwe : wE = w11 := hw''
    clear hw''
    subst hwe
    have HB2 : Hid (Below w.heap.size w wE) := HB.out.trans (hb11.mono HB.out.size)
    obtain ⟨a',c',ea,hA⟩ := ow_int_app (j : Int) (Cel.ow_below HO.out hb11) hZl
    cases ea
    clear C2 p0 p2 s3 c1
    go_wp2_with (at_builtin;refine wpList_append_of (by rfl) _ _ _ _ (by rfl) _ _ (by rfl) (by rfl) hA ⟨rfl,rfl,rfl,rfl⟩ ?_;rintro v1 w1 ⟨a1,e1,f1,rfl,q1,q2,q3⟩;have HQ1 : Hid (Cel.ow w1 (icl (Z ++ [(j : Int)])) (.slice a1 (Z.length + 1) e1) f1) := q1;have HQ2 : Hid (∀ b,f1 b → fz b ∨ wE.heap.size ≤ b) := q2;have HQ3 : Hid (Wrt fz wE w1) := q3;clear q1 q2 q3 hA)
    have hbs := hb11.size
    have hbs2 := HB.out.size
    have HL : Hid ((Z ++ [(j : Int)]).length = Z.length + 1) := by rw [Hid,List.length_append];rfl
    go_roundw
    case rel => exact ⟨j + 1,a1,e1,Z ++ [(j : Int)],f1,by omega,by go_num,by rw [HL.out],HN.out.symm,by rw [HL.out];exact HQ1.out,fun b hb => (HQ2.out b hb).elim (hfz b) (fun h => by omega),HQ3.out.below HB2.out (by omega) (fun b hb => hfz b hb)⟩
    case measure => simp [intOf];omega
  ·have k1 : ¬ ((j : Int) < (n : Int)) := by omega
   have ej : j = n := by omega
   have HZ : Hid (Z = lN (leftN n (rowN m.rows i).sus)) := by rw [Hid,hZ.out,ej]
   have HO : Hid (NewO w wr (icl Z) (.slice a Z.length cc)) := ⟨fz,hO,hfz,hb⟩
   clear ej hO hb M1 c0 c2 c4
   go_wp2
   go_ret
   rw [← HZ.out]
   exact ⟨a,cc,rfl,HO.out⟩
end Go.Proofs.YtidnfdobljihoaaGreat
namespace Go.Proofs.YtidnfdobljihoaaGreat
set_option linter.unusedVariables false
set_option linter.unusedSimpArgs false
open Go.RowKit Go.Sort
structure PlV (w : World) (B o : Nat) (cs : List Cel) (vs : List Value) (fp : Fp) : Prop where
 pc : Pc w B o vs
 own : owL w cs vs fp
 nB : ¬ fp B
theorem PlV.stay {w w1 : World} {B o o' : Nat} {cs cs' : List Cel} {vs : List Value} {f f' : Fp} (h : PlV w B o' cs' vs f') (hb : Bcm w w1 B o cs f) (hd : ∀ b,f' b → ¬ f b) (ho : o' + vs.length ≤ o ∨ o + cs.length ≤ o') : PlV w1 B o' cs' vs f' := by
 refine ⟨⟨fun j hj => ?_,fun j hj => ?_,Nat.lt_of_lt_of_le h.pc.lt hb.wrt.size⟩,owL_wrt h.own hb.wrt (fun b hb' hk => ?_),h.nB⟩
 ·rw [hb.out (o' + j) (by omega)];exact h.pc.cell j hj
 ·rw [hb.frz];exact h.pc.free j hj
 ·rcases hk with hk | hk
  ·exact hd b hb' hk
  ·exact h.nB (hk ▸ hb')
theorem mul_room {k n s : Nat} (hk : k < n) : k * s + s ≤ n * s := by
 have : (k + 1) * s ≤ n * s := Nat.mul_le_mul_right s hk
 rw [Nat.add_mul,Nat.one_mul] at this
 exact this
theorem owL_in {w : World} {ds : List Cel} {us : List Value} {f : Fp} (h : owL w ds us f) {p s : Nat} (hp : p + s ≤ ds.length) : ∃ f',owL w ((ds.drop p).take s) ((us.drop p).take s) f' ∧ ∀ b,f' b → f b := by
 have hl := owL_len h
 have e1 : ds = ds.take p ++ ((ds.drop p).take s ++ ds.drop (p + s)) := by rw [← List.drop_drop,List.take_append_drop,List.take_append_drop]
 rw [e1] at h
 obtain ⟨u1,u23,f1,f23,rfl,hl1,hl23,_,hf1⟩ := owL_split h
 obtain ⟨u2,u3,f2,f3,rfl,hl2,hl3,_,hf2⟩ := owL_split hl23
 have n1 : u1.length = p := by rw [owL_len hl1,List.length_take];omega
 have n2 : u2.length = s := by rw [owL_len hl2,List.length_take,List.length_drop];omega
 refine ⟨f2, ?_,fun b hb => (hf1 b).2 (.inr ((hf2 b).2 (.inl hb)))⟩
 have e2 : ((u1 ++ (u2 ++ u3)).drop p).take s = u2 := by
  rw [← n1,List.drop_left,← n2,List.take_left]
 rw [e2]
 exact hl2
theorem ow_elO {w : World} {s n c : Nat} {g off : Nat} {ds : List Cel} {fp : Fp} (h : Cel.ow w (.sl s n ds) (.slice (some ⟨g,off,none⟩) n c) fp) {k k' : Nat} (hk : k < n) (hk' : k' < n) (hne : k' ≠ k) (hs : 0 < s) (hlen : ds.length = n * s) : ∃ f f' vs',Plc w g (off + k * s) ((ds.drop (k * s)).take s) f ∧ PlV w g (off + k' * s) ((ds.drop (k' * s)).take s) vs' f' ∧ (∀ b,f' b → ¬ f b) ∧ vs'.length = s ∧
  (∀ b,f b → fp b) ∧ fp g ∧ ∀ (w1 : World) (es : List Cel),es.length = s → Bcm w w1 g (off + k * s) es f → ∃ fp',Cel.ow w1 (.sl s n (ds.take (k * s) ++ es ++ ds.drop (k * s + s))) (.slice (some ⟨g,off,none⟩) n c) fp' ∧ (∀ b,fp' b → fp b ∨ w.heap.size ≤ b) ∧ Wrt fp w w1 := by
 have h0 := h
 obtain ⟨a0,c0,us,G,f0,e0,ho,hl,hG,hf⟩ := h
 cases e0
 rcases ho with ⟨h0',_⟩ | ⟨g',off',e1,ho,rfl⟩
 ·omega
 cases e1
 have hul := ho.len
 have hks := mul_room (s := s) hk
 have hks' := mul_room (s := s) hk'
 have hle := ho.le
 have hcs : n * s ≤ c * s := Nat.mul_le_mul_right s hle
 have hgn : ¬ f0 g := fun hb => hG g rfl hb
 have hblk := ho.blk
 have e1 : ds = ds.take (k * s) ++ ((ds.drop (k * s)).take s ++ ds.drop (k * s + s)) := by
  rw [← List.drop_drop,List.take_append_drop,List.take_append_drop]
 have hl' := hl
 rw [e1] at hl'
 obtain ⟨u1,u23,f1,f23,eus,hl1,hl23,hd1,hf1⟩ := owL_split hl'
 obtain ⟨u2,u3,f2,f3,e23,hl2,hl3,hd2,hf2⟩ := owL_split hl23
 subst e23
 have n1 : u1.length = k * s := by rw [owL_len hl1,List.length_take];omega
 have n2 : u2.length = s := by rw [owL_len hl2,List.length_take,List.length_drop];omega
 have hfg : ∀ b,f2 b → f0 b := fun b hb => (hf1 b).2 (.inr ((hf2 b).2 (.inl hb)))
 -- the other one lies in the first or in the third stretch
 have key : ∃ f' vs',owL w ((ds.drop (k' * s)).take s) vs' f' ∧ (∀ b,f' b → ¬ f2 b) ∧ (∀ b,f' b → f0 b) ∧ vs'.length = s ∧ ∀ j,j < s → us[k' * s + j]? = vs'[j]? := by
  rcases Nat.lt_or_gt_of_ne hne with hlt | hgt
  ·have hk2 := mul_room (s := s) hlt
   obtain ⟨f',h1,h2⟩ := owL_in hl1 (p := k' * s) (s := s) (by rw [List.length_take];omega)
   have e2 : (((ds.take (k * s)).drop (k' * s)).take s) = (ds.drop (k' * s)).take s := by
    rw [List.drop_take,List.take_take,Nat.min_eq_left (by omega)]
   rw [e2] at h1
   have hn : ((u1.drop (k' * s)).take s).length = s := by rw [List.length_take,List.length_drop];omega
   refine ⟨f',_,h1,fun b hb hb2 => hd1 b (h2 b hb) ((hf2 b).2 (.inl hb2)),fun b hb => (hf1 b).2 (.inl (h2 b hb)),hn,fun j hj => ?_⟩
   rw [eus,List.getElem?_append_left (by omega),List.getElem?_take_of_lt hj,List.getElem?_drop]
  ·have hk2 := mul_room (s := s) hgt
   obtain ⟨f',h1,h2⟩ := owL_in hl3 (p := k' * s - (k * s + s)) (s := s) (by rw [List.length_drop];omega)
   have e2 : (((ds.drop (k * s + s)).drop (k' * s - (k * s + s))).take s) = (ds.drop (k' * s)).take s := by
    rw [List.drop_drop,show k * s + s + (k' * s - (k * s + s)) = k' * s by omega]
   rw [e2] at h1
   have n3 : u3.length = n * s - (k * s + s) := by rw [owL_len hl3,List.length_drop];omega
   have hn : ((u3.drop (k' * s - (k * s + s))).take s).length = s := by rw [List.length_take,List.length_drop];omega
   refine ⟨f',_,h1,fun b hb hb2 => hd2 b hb2 (h2 b hb),fun b hb => (hf1 b).2 (.inr ((hf2 b).2 (.inr (h2 b hb)))),hn,fun j hj => ?_⟩
   rw [eus,List.getElem?_append_right (by omega),List.getElem?_append_right (by omega),List.getElem?_take_of_lt hj,List.getElem?_drop]
   congr 1
   omega
 obtain ⟨f',vs',q1,q2,q3,q4,q5⟩ := key
 subst eus
 refine ⟨f2,f',vs',⟨u2,⟨fun j hj => ?_,fun j hj => ?_,hblk⟩,hl2,fun hb => hgn (hfg g hb)⟩,⟨⟨fun j hj => ?_,fun j hj => ?_,hblk⟩,q1,fun hb => hgn (q3 g hb)⟩,q2,q4,fun b hb => (hf b).2 (.inr (hfg b hb)),(hf g).2 (.inl rfl),fun w1 es hes hb => ?_⟩
 ·have := ho.cell (k * s + j) (by omega)
  rw [Nat.add_assoc,this,List.getElem?_append_right (by omega),List.getElem?_append_left (by omega),n1]
  congr 1
  omega
 ·have := ho.free (k * s + j) (by omega)
  rw [Nat.add_assoc]
  exact this
 ·rw [Nat.add_assoc,ho.cell (k' * s + j) (by omega)]
  exact q5 j (by omega)
 ·rw [Nat.add_assoc]
  exact ho.free (k' * s + j) (by omega)
 ·obtain ⟨⟨fp1,⟨vs,hv1,hv2,hv3⟩,hx⟩,hout,hfr,hw⟩ := hb
  have nv : vs.length = s := by rw [owL_len hv2,hes]
  have hlt1 := owL_lt hl1
  have hlt3 := owL_lt hl3
  have k1 : owL w1 (ds.take (k * s)) u1 f1 := owL_wrt hl1 hw (fun b hb hk => by
   rcases hk with hk | hk
   ·exact hd1 b hb ((hf2 b).2 (.inl hk))
   ·exact hgn (hk ▸ (hf1 b).2 (.inl hb)))
  have k3 : owL w1 (ds.drop (k * s + s)) u3 f3 := owL_wrt hl3 hw (fun b hb hk => by
   rcases hk with hk | hk
   ·exact hd2 b hk hb
   ·exact hgn (hk ▸ (hf1 b).2 (.inr ((hf2 b).2 (.inr hb)))))
  have k12 := owL_append k1 hv2 (fun b hb hb2 => by
   rcases hx b hb2 with hk | hk
   ·exact hd1 b hb ((hf2 b).2 (.inl hk))
   ·have := hlt1 b hb;omega)
  have k123 := owL_append k12 k3 (fun b hb hb2 => by
   rcases hb with hb | hb
   ·exact hd1 b hb ((hf2 b).2 (.inr hb2))
   ·rcases hx b hb with hk | hk
    ·exact hd2 b hk hb2
    ·have := hlt3 b hb2;omega)
  have hin : ∀ b,((f1 b ∨ fp1 b) ∨ f3 b) → f0 b ∨ w.heap.size ≤ b := by
   rintro b ((hb | hb) | hb)
   ·exact .inl ((hf1 b).2 (.inl hb))
   ·exact (hx b hb).imp (hfg b) id
   ·exact .inl ((hf1 b).2 (.inr ((hf2 b).2 (.inr hb))))
  refine ⟨fun b => some g = some b ∨ ((f1 b ∨ fp1 b) ∨ f3 b),⟨some ⟨g,off,none⟩,c,u1 ++ vs ++ u3,some g,_,rfl,.inr ⟨g,off,rfl,⟨?_,hle,ho.max,Nat.lt_of_lt_of_le hblk hw.size,fun i hi => ?_,fun i hi => ?_,fun i hi => by rw [hfr];exact ho.free i hi⟩,rfl⟩,k123,fun b hb hk => ?_,fun b => Iff.rfl⟩,fun b hb => ?_,hw.mono (fun b _ hb => ?_)⟩
  ·simp only [List.length_append] at hul ⊢;omega
  ·by_cases i1 : i < k * s
   ·rw [hout (off + i) (by omega),ho.cell i hi,List.getElem?_append_left (by omega),List.append_assoc,List.getElem?_append_left (by omega)]
   ·by_cases i2 : i < k * s + s
    ·have := hv1.cell (i - k * s) (by omega)
     rw [show off + i = off + k * s + (i - k * s) by omega,this,List.append_assoc,List.getElem?_append_right (by omega),List.getElem?_append_left (by omega),n1]
    ·rw [hout (off + i) (by omega),ho.cell i hi,List.getElem?_append_right (by omega),List.getElem?_append_right (by omega),List.append_assoc,List.getElem?_append_right (by omega),List.getElem?_append_right (by omega),n1,n2,nv]
  ·by_cases i1 : i < k * s ∨ k * s + s ≤ i
   ·rw [hout (off + i) (by omega)];exact ho.some i hi
   ·have := hv1.cell (i - k * s) (by omega)
    rw [show off + i = off + k * s + (i - k * s) by omega,this,List.getElem?_eq_getElem (by omega)]
    rfl
  ·cases hb
   rcases hin _ hk with hk | hk
   ·exact hgn hk
   ·omega
  ·rcases hb with hb | hb
   ·cases hb;exact .inl ((hf g).2 (.inl rfl))
   ·exact (hin b hb).imp (fun h => (hf b).2 (.inr h)) id
  ·rcases hb with hb | hb
   ·exact (hf b).2 (.inr (hfg b hb))
   ·exact (hf b).2 (.inl (by rw [hb]))
theorem Plc.elO {α : Type} {F : α → List Cel} {s : Nat} (hF : ∀ x,(F x).length = s) (hs : 0 < s) {w : World} {B o : Nat} {cs : List Cel} {fp : Fp} (h : Plc w B o cs fp) {j : Nat} {L : List α} (hj : cs[j]? = some (lcl s F L)) {k k' : Nat} {x x' : α} (hk : L[k]? = some x) (hk' : L[k']? = some x') (hne : k' ≠ k) : ∃ g off c f f' vs',w.cell? ⟨B,o + j,none⟩ = some (.slice (some ⟨g,off,none⟩) L.length c) ∧ g ≠ B ∧ (∀ b,f b → fp b) ∧ Plc w g (off + k * s) (F x) f ∧ PlV w g (off + k' * s) (F x') vs' f' ∧ (∀ b,f' b → ¬ f b) ∧ vs'.length = s ∧
  ∀ (w1 : World) (y : α),Bcm w w1 g (off + k * s) (F y) f → Bcm w w1 B o (cs.set j (lcl s F (L.set k y))) fp := by
 have lt : ∀ {q : Nat} {z : α},L[q]? = some z → q < L.length := fun {q z} hq => by
  rcases Nat.lt_or_ge q L.length with h | h
  ·exact h
  ·rw [List.getElem?_eq_none h] at hq;cases hq
 obtain ⟨u,fj,hu,hfz,hc,hsub,hnB,hput⟩ := h.at hj
 obtain ⟨a,c,us,G,f0,rfl,ho⟩ := hc
 have hc : Cel.ow w (lcl s F L) (.slice a L.length c) fj := ⟨a,c,us,G,f0,rfl,ho⟩
 obtain ⟨g,off,_,e,_⟩ := ow_elF hF hs hc hk
 subst e
 obtain ⟨f,f',vs',h1,h2,h3,h4,h5,h6,h7⟩ := ow_elO (ds := L.flatMap F) hc (lt hk) (lt hk') hne hs (flat_len hF L)
 rw [flat_take hF hk] at h1
 rw [flat_take hF hk'] at h2
 refine ⟨g,off,c,f,f',vs',hu,fun e => hnB (e ▸ h6),fun b hb => hsub b (h5 b hb),h1,h2,h3,h4,fun w1 y hb => ?_⟩
 obtain ⟨fp',k1,k2,k3⟩ := h7 w1 (F y) (hF y) hb
 rw [flat_set hF y (lt hk)] at k1
 have k1' : Cel.ow w1 (lcl s F (L.set k y)) (.slice (some ⟨g,off,none⟩) L.length c) fp' := by
  unfold lcl
  rw [List.length_set]
  exact k1
 exact (hput w1 (lcl s F (L.set k y)) _ fp' k3 k1' k2).2.2.2 rfl
theorem rwC_inj {A A' : Ra} {r : Rw} (h : (rwC A r).toList = (rwC A' r).toList) : A = A' := by
 obtain ⟨a1,a2,a3,a4,a5,a6,a7,a8⟩ := A
 obtain ⟨b1,b2,b3,b4,b5,b6,b7,b8⟩ := A'
 simp only [rwC,List.cons.injEq,Value.slice.injEq,and_true,true_and] at h
 obtain ⟨⟨h1,h2⟩,⟨h3,h4⟩,⟨h5,h6⟩,h7,h8⟩ := h
 subst h1 h2 h3 h4 h5 h6 h7 h8
 rfl
def RV (X : World) (g q : Nat) (A : Ra) (r : Rw) : Prop := C8 X g q (.int .i64 r.ver) (.slice A.ta r.txt.length A.tc) (.slice A.ga r.got.length A.gc) (.slice A.sa r.sus.length A.sc) (.bool r.wed) (.bool r.rdy) (.int .i64 r.by_) (.slice A.ma r.trm.length A.mc) ∧ RwS X A r
theorem PlV.rv {X : World} {g q : Nat} {r : Rw} {vs : List Value} {f : Fp} (h : PlV X g q (rw8 r) vs f) {A : Ra} (hv : vs = (rwC A r).toList) (hf : FitR r) : RV X g q A r := by
 subst hv
 obtain ⟨A',e,hl⟩ := rw8_ow h.own
 obtain rfl := rwC_inj e
 have hl8 : (rwC A r).toList.length = 8 := rfl
 have c := h.pc.cell
 refine ⟨⟨⟨c 0 (by rw [hl8];omega),c 1 (by rw [hl8];omega),c 2 (by rw [hl8];omega),c 3 (by rw [hl8];omega)⟩,c 4 (by rw [hl8];omega),c 5 (by rw [hl8];omega),c 6 (by rw [hl8];omega),c 7 (by rw [hl8];omega)⟩, ?_⟩
 have hv := owL_vw hl
 obtain ⟨_,_,e1,v1,hv⟩ := hv
 cases e1
 obtain ⟨_,_,e2,v2,hv⟩ := hv
 cases e2
 obtain ⟨_,_,e3,v3,hv⟩ := hv
 cases e3
 obtain ⟨_,_,e4,v4,hv⟩ := hv
 cases e4
 obtain ⟨_,_,e,t1,t2,t3⟩ := vw_scl v1
 cases e
 obtain ⟨_,_,e,g1,g2,g3⟩ := vw_icl v2 hf.1
 cases e
 obtain ⟨_,_,e,s1,s2,s3⟩ := vw_icl v3 hf.2.1
 cases e
 obtain ⟨_,_,e,m1,m2,m3⟩ := vw_icl v4 hf.2.2
 cases e
 exact ⟨t1,g1,s1,m1,by omega,by omega,by omega,by omega⟩
theorem PlV.vals {X : World} {g q : Nat} {r : Rw} {vs : List Value} {f : Fp} (h : PlV X g q (rw8 r) vs f) {A : Ra} (hr : RV X g q A r) : vs = (rwC A r).toList := by
 have hl : vs.length = 8 := owL_len h.own
 obtain ⟨⟨⟨c0,c1,c2,c3⟩,c4,c5,c6,c7⟩,_⟩ := hr
 have c := h.pc.cell
 apply List.ext_getElem?
 intro j
 rcases Nat.lt_or_ge j 8 with hj | hj
 ·have hcj := c j (by omega)
  match j,hj,hcj with
  | 0,_,hc => exact hc.symm.trans c0
  | 1,_,hc => exact hc.symm.trans c1
  | 2,_,hc => exact hc.symm.trans c2
  | 3,_,hc => exact hc.symm.trans c3
  | 4,_,hc => exact hc.symm.trans c4
  | 5,_,hc => exact hc.symm.trans c5
  | 6,_,hc => exact hc.symm.trans c6
  | 7,_,hc => exact hc.symm.trans c7
 ·rw [List.getElem?_eq_none (by omega),List.getElem?_eq_none (by simpa [rwC] using hj)]
theorem Mw.atO {w X : World} {B o : Nat} {m : Mb} {fp : Fp} {g off c : Nat} (h : Mw w X B o m fp g off c) {k k' : Nat} (hk : k < m.rows.length) (hk' : k' < m.rows.length) (hne : k' ≠ k) (hf' : FitR (rowN m.rows k')) {A' : Ra} (hrv : RV X g (off + k' * 8) A' (rowN m.rows k')) {j : Nat} {cl : Cel} (hj : (rw8 (rowN m.rows k))[j]? = some cl) : ∃ u f,X.cell? ⟨g,off + k * 8 + j,none⟩ = some u ∧ X.frozen? ⟨g,off + k * 8 + j,none⟩ = false ∧ Cel.ow X cl u f ∧ (∀ b,f b → b < X.heap.size) ∧
  ∀ (X1 : World) (c' : Cel) (u' : Value) (f' : Fp) (r' : Rw),(rw8 (rowN m.rows k)).set j c' = rw8 r' → Wrt f X X1 → Cel.ow X1 c' u' f' → (∀ b,f' b → f b ∨ X.heap.size ≤ b) → X1.cell? ⟨g,off + k * 8 + j,none⟩ = some u ∧ X1.frozen? ⟨g,off + k * 8 + j,none⟩ = false ∧ Mw w (X1.setCell ⟨g,off + k * 8 + j,none⟩ u') B o { m with rows := m.rows.set k r' } fp g off c ∧ RV (X1.setCell ⟨g,off + k * 8 + j,none⟩ u') g (off + k' * 8) A' (rowN m.rows k') := by
 obtain ⟨fp1,hp,hf1,hgo⟩ := h.bcm.next
 obtain ⟨g',off',c',f,f2,vs2,h1,hgB,hfs,hpl,hpv,hdis,hvl,hput⟩ := hp.elO (F := rw8) rw8_len (by omega) (j := 2) (L := m.rows) rfl (rowN_at hk) (rowN_at hk') hne
 have e := Option.some.inj (h1.symm.trans h.rws)
 cases e
 obtain ⟨u,fj,hu,hfz,hc,hsub,hnB,hset⟩ := hpl.at hj
 have hBX := hp.lt
 refine ⟨u,fj,hu,hfz,hc,Cel.ow_lt hc,fun X1 c' u' f' r' er hw hc' hf'' => ?_⟩
 obtain ⟨k1,k2,k3,k4⟩ := hset X1 c' u' f' hw hc' hf''
 rw [er] at k3
 have hBf : ¬ fj B := fun hb => hp.nB (hfs B (hsub B hb))
 have hr1 : X1.cell? ⟨B,o + 2,none⟩ = some (.slice (some ⟨g,off,none⟩) m.rows.length c) := (World.cell?_of_block (hw.block B hBX hBf)).trans h.rws
 refine ⟨k1,k2,⟨hgo _ (mb5 { m with rows := m.rows.set k r' }) rfl (hput _ r' k3), ?_⟩, ?_⟩
 ·rw [World.cell?_setCell_other _ _ _ _ (by simp only [ne_eq,Addr.mk.injEq,not_and];intro e;exact absurd e hgB),hr1]
  simp
 ·have hm1 : k' * 8 + 8 ≤ k * 8 ∨ k * 8 + 8 ≤ k' * 8 := by omega
  exact (hpv.stay k3 hdis (by rw [hvl,rw8_len];omega)).rv (hpv.vals hrv) hf'
end Go.Proofs.YtidnfdobljihoaaGreat
namespace Go.Proofs.YtidnfdobljihoaaGreat
set_option linter.unusedVariables false
set_option linter.unusedSimpArgs false
open Go.RowKit Go.Sort
theorem learnS_take {id : Nat} {s r : List Int} {j : Nat} (hj : j < r.length) : learnS id s (r.take (j + 1)) = if el r j = (id : Int) then learnS id s (r.take j) else putL (learnS id s (r.take j)) (el r j) := by
 have e : el r j = r[j] := by simp [el,hj]
 unfold learnS
 rw [List.take_succ_eq_append_getElem hj,List.foldl_append,e]
 rfl
theorem learn_take {R : List Rw} {id : Nat} {o : Rw} {L : List Nat} {k : Nat} (hk : k < L.length) : learn R id o (L.take (k + 1)) = learn1 id (learn R id o (L.take k)) (L.getD k 0) (rowN R (L.getD k 0)) := by
 have e : L.getD k 0 = L[k] := by simp [List.getD,hk]
 unfold learn
 rw [List.take_succ_eq_append_getElem hk,List.foldl_append,e]
 rfl
theorem learnS_ris {id : Nat} : ∀ {r s : List Int},s.Pairwise (· < ·) → (learnS id s r).Pairwise (· < ·)
 | [],s,h => h
 | x :: r,s,h => by
  have ih := learnS_ris (id := id) (r := r) (s := if x = (id : Int) then s else putL s x)
  unfold learnS at ih ⊢
  rw [List.foldl_cons]
  apply ih
  split
  ·exact h
  ·exact putL_rises h
theorem okR_learnS {o r : Rw} {n i : Nat} (ok : OkR o n) (okr : OkR r n) (j : Nat) : OkR { o with wed := true,sus := learnS i o.sus (r.sus.take j) } n :=
 ⟨ok.n5,ok.ver,ok.tl,ok.ts,ok.got,ok.gl,ok.g12,fun x hx => by
  rcases mem_learnS.1 hx with h | ⟨h,_⟩
  ·exact ok.sus x h
  ·exact okr.sus x (List.mem_of_mem_take h),ris_iff.2 (learnS_ris (ris_iff.1 ok.ris)),fun h => ⟨rfl,(ok.rdy h).2⟩,ok.not⟩
theorem okR_learn {R : List Rw} {n i : Nat} (hR : ∀ k,k < n → OkR (rowN R k) n) : ∀ {L : List Nat} {o : Rw},OkR o n → (∀ k ∈ L,k < n) → OkR (learn R i o L) n
 | [],o,h,_ => h
 | k :: L,o,h,hL => by
  refine okR_learn hR (L := L) (o := learn1 i o k (rowN R k)) ?_ (fun x hx => hL x (List.mem_cons_of_mem _ hx))
  unfold learn1
  split
  ·exact h
  ·have := okR_learnS (i := i) h (hR k (hL k List.mem_cons_self)) (rowN R k).sus.length
   rw [List.take_length] at this
   exact this
theorem fitM_set {m : Mb} {i n : Nat} (ok : OkM m i n) {k : Nat} {r : Rw} (hr : OkR r n) : FitM { m with rows := m.rows.set k r } := by
 refine ⟨fun x hx => ?_,ok.fit.2⟩
 rcases List.mem_or_eq_of_mem_set hx with h | h
 ·exact ok.fit.1 x h
 ·rw [h];exact hr.fit
theorem Mw.sub {w X X5 : World} {B o : Nat} {m : Mb} {fp : Fp} {g off c : Nat} (h : Mw w X B o m fp g off c) (hb : Below X.heap.size X X5) : ∃ fp5,(∀ b,fp5 b → b < X.heap.size) ∧ B < X.heap.size ∧ (∀ b,fp5 b → fp b ∨ w.heap.size ≤ b) ∧ Mw X5 X5 B o m fp5 g off c ∧ ∀ (Y : World) (m' : Mb),Mw X5 Y B o m' fp5 g off c → Mw w Y B o m' fp g off c := by
 obtain ⟨fp1,hp,hf1,hgo⟩ := h.bcm.next
 have hlt := hp.flt
 have hB := hp.lt
 refine ⟨fp1,hlt,hB,hf1,⟨Bcm.refl (hp.below hb),(hb.cell (World.block_lt_of_cell? _ _ h.rws)).trans h.rws⟩,fun Y m' hY => ⟨hgo Y _ rfl (hY.bcm.first hb hB hlt),hY.rws⟩⟩
theorem Mw.bx {w X : World} {B o : Nat} {m : Mb} {fp : Fp} {g off c : Nat} (h : Mw w X B o m fp g off c) {b : Nat} {T : TypeId} {cs : Array Value} (hx : Bx w b T cs) (h1 : ¬ fp b) (h2 : b ≠ B) : Bx X b T cs := hx.wrt h.bcm.wrt (fun k => k.elim h1 h2)
theorem Mw.cel {w X : World} {B o : Nat} {m : Mb} {fp : Fp} {g off c : Nat} (h : Mw w X B o m fp g off c) {cl : Cel} {u : Value} {f : Fp} (hx : Cel.ow w cl u f) (h1 : ∀ b,f b → ¬ fp b ∧ b ≠ B) : Cel.ow X cl u f := Cel.ow_wrt hx h.bcm.wrt (fun b hb k => k.elim (h1 b hb).1 (h1 b hb).2)
structure Mk (w X : World) (B o : Nat) (m : Mb) (fp : Fp) : Prop where
 bcm : Bcm w X B o (mb5 m) fp
 rws : X.cell? ⟨B,o + 2,none⟩ = w.cell? ⟨B,o + 2,none⟩
theorem Mw.mk' {w X : World} {B o : Nat} {m : Mb} {fp : Fp} {g off c n : Nat} (h : Mw w X B o m fp g off c) (hc : w.cell? ⟨B,o + 2,none⟩ = some (.slice (some ⟨g,off,none⟩) n c)) (hl : m.rows.length = n) : Mk w X B o m fp := ⟨h.bcm,by rw [h.rws,hc,hl]⟩
theorem set_own {m : Mb} {i : Nat} (r : Rw) : ({ m with rows := m.rows.set i r } : Mb).rows.length = m.rows.length := by simp
end Go.Proofs.YtidnfdobljihoaaGreat