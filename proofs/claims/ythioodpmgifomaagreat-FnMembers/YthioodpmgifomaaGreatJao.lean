/-
  Texts in one: Nmp Nma Nmd Cln Nmg Nmh.
-/
import Derived.Test.YthioodpmgifomaaGreatJan
import Derived.Test.YthioodpmgifomaaGreatJae
import Derived.Test.YthioodpmgifomaaGreatJag
import Derived.Test.YthioodpmgifomaaGreatJaf
import Derived.Test.YthioodpmgifomaaGreatJab
import Derived.Test.YthioodpmgifomaaGreatJad
import Derived.Test.YthioodpmgifomaaGreatJac
import Derived.Shelf.Strconv.Clone
import Derived.Shelf.SlGeneric
import Derived.Lib.SliceRun
namespace Go.Proofs.YthioodpmgifomaaGreat
set_option linter.unusedVariables false
set_option linter.unusedSimpArgs false
open Go.RowKit Go.Sort
def nmM (id n : Int) : Mb := ⟨id,n,List.replicate (newRw n).got.length (newRw n),[],false⟩
theorem newRw_len (n : Int) : (newRw n).got.length = if inB n 1 5 = true then n.toNat else 0 := by
 unfold newRw
 split <;> rename_i h <;> simp [h,zeroRw]
theorem nm_ok (id n : Int) : okMb (nmM id n) = (newMb id n).2 ∧ ((newMb id n).2 = true → (newMb id n).1 = nmM id n) ∧ ((newMb id n).2 = false → (newMb id n).1 = zeroMb) := by
 cases e1 : inB n 1 5 with
 | false =>
  rw [newMb_no (.inl e1)]
  exact ⟨okMb_1 (by show (inB n 1 5 && _) = false;rw [e1];rfl),(fun h => by cases h),fun _ => rfl⟩
 | true =>
  cases e2 : inB id 0 (n - 1) with
  | false =>
   rw [newMb_no (.inr e2)]
   exact ⟨okMb_1 (by show (inB n 1 5 && (inB id 0 (n - 1) && _)) = false;rw [e1,e2];rfl),(fun h => by cases h),fun _ => rfl⟩
  | true =>
   have hq := newMb_yes e1 e2
   have hM : (newMb id n).1 = nmM id n := by rw [hq,nmM,newRw_len,if_pos e1]
   have h2 : (newMb id n).2 = true := by rw [hq]
   exact ⟨by rw [← hM,h2];exact new_okM h2,fun _ => hM,fun h => by rw [h2] at h;cases h⟩
theorem nm_p (id n : Int) (h1 : I64v id) (h2 : I64v n) : FitM (nmM id n) ∧ Mb64 (nmM id n) ∧ szMb (nmM id n) ≤ 1048576 ∧ (newRw n).got.length ≤ 5 := by
 cases e1 : inB n 1 5 with
 | false =>
  have e : nmM id n = ⟨id,n,[],[],false⟩ := by rw [nmM,newRw_len,if_neg (by rw [e1];decide)];rfl
  rw [e]
  exact ⟨⟨fun r hr => absurd hr List.not_mem_nil,fun x hx => absurd hx List.not_mem_nil⟩,⟨h1,h2,fun r hr => absurd hr List.not_mem_nil⟩,by simp [szMb,szRs,szP],by rw [newRw_len,if_neg (by rw [e1];decide)];omega⟩
 | true =>
  have hn := inB7.1 e1
  have hq := newMb_yes e1 (inB7.2 (by omega) : inB 0 0 (n - 1) = true)
  obtain ⟨i,k,ok⟩ := okMb_iff.1 (new_okM (id := 0) (n := n) (by rw [hq]))
  have hr : (newMb 0 n).1.rows = (nmM id n).rows := by rw [hq,nmM,newRw_len,if_pos e1]
  have hlen : (newRw n).got.length ≤ 5 := by rw [newRw_len,if_pos e1];omega
  have hk : ∀ r ∈ (nmM id n).rows,OkR r k := fun r h => ok.rowOk r (by rw [hr];exact h)
  refine ⟨⟨fun r h => (hk r h).fit,fun x hx => absurd hx List.not_mem_nil⟩,⟨h1,h2,fun r h => ?_⟩, ?_,hlen⟩
  ·have hr := hk r h
   have hv := hr.ver
   cases e : r.rdy with
   | true => have := (hr.rdy e).2.1;have := hr.n5;exact ⟨⟨by omega,by omega⟩,by omega,by omega⟩
   | false => rw [Rw64,(hr.not e).1];exact ⟨⟨by omega,by omega⟩,by omega,by omega⟩
  ·have e2 : szP (nmM id n).rows (nmM id n).rows.length ≤ 300 * (nmM id n).rows.length := by
    unfold szP
    rw [List.take_length]
    exact sum_le szRw 300 _ (fun r h => (hk r h).c8.2)
   have hl : (nmM id n).rows.length ≤ 5 := by show (List.replicate _ _).length ≤ 5;rw [List.length_replicate];exact hlen
   unfold szMb szRs
   have : (nmM id n).sung.length = 0 := rfl
   omega
theorem fld_got (x0 x1 x3 x4 x5 x6 x7 : Value) (a : Option Addr) (k c : Nat) (w : World) : (Instr.field 37 (.agg #[x0,x1,.slice a k c,x3,x4,x5,x6,x7]) 2).run Tryz.prog w = .ok (.slice a k c) w := by kernel_rfl
set_option maxRecDepth 100000 in
set_option maxHeartbeats 1600000 in
theorem implNewMember : ImplNewMember := by
 intro id n w h1 h2
 have hmix := mixed17
 have hfd := fld_got
 have T0 := mb_start w id n
 have hx := Bx.new w 27 #[.int .i64 0,.int .i64 0,.slice none 0 0,.slice none 0 0,.bool false]
 have HR0 : Hid (Bx ((w.alloc (.cells #[.int .i64 0,.int .i64 0,.slice none 0 0,.slice none 0 0,.bool false] 27)).alloc (.cells #[.int .i64 id,.int .i64 n,.slice none 0 0,.slice none 0 0,.bool false] 27)) w.heap.size 27 #[.int .i64 0,.int .i64 0,.slice none 0 0,.slice none 0 0,.bool false]) := hx.alloc _
 have HT0 : Hid (MO w ((w.alloc (.cells #[.int .i64 0,.int .i64 0,.slice none 0 0,.slice none 0 0,.bool false] 27)).alloc (.cells #[.int .i64 id,.int .i64 n,.slice none 0 0,.slice none 0 0,.bool false] 27)) (w.heap.size + 1) ⟨none,0,none,0⟩ ⟨id,n,[],[],false⟩ (fun _ => False)) := T0
 have hNr : ∀ X,Calls Tryz.prog 68 #[.int .i64 n] X fun e w' => AnsRw X w' e (newRw n) := fun X => implNewRow n X h2
 obtain ⟨k1,k2,k3⟩ := nm_ok id n
 have HK : Hid (okMb (nmM id n) = (newMb id n).2 ∧ ((newMb id n).2 = true → (newMb id n).1 = nmM id n) ∧ ((newMb id n).2 = false → (newMb id n).1 = zeroMb)) := ⟨k1,k2,k3⟩
 have HP : Hid (FitM (nmM id n) ∧ Mb64 (nmM id n) ∧ szMb (nmM id n) ≤ 1048576 ∧ (newRw n).got.length ≤ 5) := nm_p id n h1 h2
 have hN5 := HP.out.2.2.2
 have HNN : Hid (nmM id n = ⟨id,n,List.replicate (newRw n).got.length (newRw n),[],false⟩) := rfl
 clear hx T0 k1 k2 k3 h1 h2
 generalize hNr0 : newRw n = rr at *
 clear hNr0
 go_enter Tryz.func17,Tryz.ntmps17
 go_wp2_with fail
 refine (hNr _).mono ?_
 rintro e wN ⟨Ar,rfl,fr,hr1,hr2,hr3⟩
 have HTN : Hid (MO w wN (w.heap.size + 1) ⟨none,0,none,0⟩ ⟨id,n,[],[],false⟩ (fun _ => False)) := HT0.out.step hr3
 have HRN : Hid (Bx wN w.heap.size 27 #[.int .i64 0,.int .i64 0,.slice none 0 0,.slice none 0 0,.bool false]) := HR0.out.below hr3
 clear hr1 hr2 hr3
 unfold rwV rwC
 go_wp2_with fail
 clear HT0 HR0
 go_loopw [14] (fun v wr => ∃ k : Nat,k ≤ rr.got.length ∧ v = .int .i64 (k : Int) ∧ ∃ A R fp,Hid (R = List.replicate k rr) ∧ MO w wr (w.heap.size + 1) A ⟨id,n,R,[],false⟩ fp ∧ Bx wr w.heap.size 27 #[.int .i64 0,.int .i64 0,.slice none 0 0,.slice none 0 0,.bool false]) (fun v _ => rr.got.length - (intOf v).toNat)
 case atStart => exact ⟨0,Nat.zero_le _,rfl,_,[],_,rfl,HTN.out,HRN.out⟩
 case round =>
  obtain ⟨k,hk,rfl,A,R,fp,hR,M,hres⟩ := hrel
  clear HTN HRN
  by_cases hlt : k < rr.got.length
  ·have k1 : (k : Int) < (rr.got.length : Int) := by omega
   have HRl : Hid (R.length ≤ 1000000) := Nat.le_trans (by rw [hR.out,List.length_replicate];omega : R.length ≤ 100) (by decide)
   have HRes : Hid (Bx wr w.heap.size 27 #[.int .i64 0,.int .i64 0,.slice none 0 0,.slice none 0 0,.bool false]) := hres
   have HM : Hid (MO w wr (w.heap.size + 1) A ⟨id,n,R,[],false⟩ fp) := M
   have c2 : wr.drew.cell? ⟨w.heap.size + 1,2,none⟩ = some (.slice A.ra R.length A.rc) := M.own.at 2 rfl
   have hbd : Below wr.heap.size wr wr.drew := (Same.drewN wr 1).below
   clear M hres
   go_wp2_with fail
   refine gt_begin (S := fun X : World => X.cell? ⟨w.heap.size + 1,2,none⟩ = some (.slice A.ra R.length A.rc)) 7 hmix (by kernel_rfl) ?_
   have hHeld : (fun X : World => X.cell? ⟨w.heap.size + 1,2,none⟩ = some (.slice A.ra R.length A.rc)) wr.drew := c2
   refine gt_take (i := 0) (v := ?_) rfl (by kernel_rfl) (by kernel_rfl) (by kernel_rfl) (by kernel_rfl) (fun _ _ _ h => h) (Or.inl ⟨by rfl, ?_⟩) hHeld ?_
   rotate_left
   ·(intro X hSX;(try dsimp only at hSX);have g0 := hSX;go_simp;try with_reducible rfl)
   try simp only [Act.put,List.setIfInBounds_toArray,List.set_cons_zero,List.set_cons_succ]
   refine gt_take (i := 1) (v := ?_) rfl (by kernel_rfl) (by kernel_rfl) (by kernel_rfl) (by kernel_rfl) (fun _ _ _ h => h) (Or.inl ⟨by rfl, ?_⟩) hHeld ?_
   rotate_left
   ·(intro X hSX;(try dsimp only at hSX);have g0 := hSX;go_simp;try with_reducible rfl)
   try simp only [Act.put,List.setIfInBounds_toArray,List.set_cons_zero,List.set_cons_succ]
   refine gt_pure (i := 2) (v := ?_) rfl (by kernel_rfl) (by kernel_rfl) (by kernel_rfl) (fun _ _ _ h => h) (Or.inl ⟨by rfl, ?_⟩) ?_
   rotate_left
   ·(intro X;go_simp;try with_reducible rfl)
   try simp only [Act.put,List.setIfInBounds_toArray,List.set_cons_zero,List.set_cons_succ]
   refine gt_one (i := 3) rfl (by kernel_rfl) (by kernel_rfl) (fun K hK => ?_)
   go_simp
   go_at_call 68
   refine (hNr _).mono ?_
   rintro e w1 ⟨Ar,rfl,fr,hr1,hr2,hr3⟩
   have hb1 : Below wr.heap.size wr w1 := hbd.trans (hr3.mono hbd.size)
   have hA := HM.out.push hb1 hr1 (fun b hb => hr2 b hb) HRl.out
   have d2 : w1.cell? ⟨w.heap.size + 1,2,none⟩ = some (.slice A.ra R.length A.rc) := (HM.out.own.below hb1).at 2 rfl
   have d3 := ((HM.out.own.below hb1).alloc (.cells (rwC Ar rr) 37)).at 2 rfl
   refine hK.out _ _ d2 (fun hHeldN => ?_)
   clear hK hHeld
   have hHeld := hHeldN
   try simp only [Act.put,List.setIfInBounds_toArray,List.set_cons_zero,List.set_cons_succ]
   unfold rwV
   unfold rwC at hA d3 ⊢
   refine gt_one (i := 4) rfl (by kernel_rfl) (by kernel_rfl) (fun K hK => ?_)
   go_simp
   refine hK.out _ _ d3 (fun hHeldN => ?_)
   clear hK hHeld
   have hHeld := hHeldN
   try simp only [Act.put,List.setIfInBounds_toArray,List.set_cons_zero,List.set_cons_succ]
   refine gt_one (i := 5) rfl (by kernel_rfl) (by kernel_rfl) (fun K hK => ?_)
   refine step_append_of (by rfl) _ _ _ _ (by rfl) (.slice A.ra R.length A.rc) _ (by rfl) (by rfl) hA ⟨rfl,rfl,rfl,rfl⟩ ?_
   rintro v9 w4 ⟨a9,c9,rfl,q1,q2,b4,b5,fp9,hM9⟩
   refine hK.out _ _ q1 (fun hHeldN => ?_)
   clear hK hHeld
   have hHeld := hHeldN
   try simp only [Act.put,List.setIfInBounds_toArray,List.set_cons_zero,List.set_cons_succ]
   refine gt_take (i := 6) (v := ?_) rfl (by kernel_rfl) (by kernel_rfl) (by kernel_rfl) (by kernel_rfl) (fun _ _ _ h => h) (Or.inl ⟨by rfl, ?_⟩) hHeld ?_
   rotate_left
   ·(intro X hSX;(try dsimp only at hSX);have g0 := hSX;go_simp;try with_reducible rfl)
   try simp only [Act.put,List.setIfInBounds_toArray,List.set_cons_zero,List.set_cons_succ]
   refine gt_last rfl (by kernel_rfl) (by kernel_rfl) (fun K hK => ?_)
   go_simp
   refine hK.out _ _ ?_
   have HM9 : Hid (MO w (w4.setCell ⟨w.heap.size + 1,2,none⟩ (.slice a9 (R.length + 1) c9)) (w.heap.size + 1) ⟨a9,c9,A.sa,A.sc⟩ ⟨id,n,R ++ [rr],[],false⟩ fp9) := hM9
   have HRes9 : Hid (Bx (w4.setCell ⟨w.heap.size + 1,2,none⟩ (.slice a9 (R.length + 1) c9)) w.heap.size 27 #[.int .i64 0,.int .i64 0,.slice none 0 0,.slice none 0 0,.bool false]) := (b5.block w.heap.size (Nat.lt_succ_self _)).trans HRes.out
   have HR9 : Hid (R ++ [rr] = List.replicate (k + 1) rr) := by rw [Hid,hR.out,List.replicate_succ']
   clear hM9 hA d2 d3 hr1 hr2 hr3
   generalize w4.setCell ⟨w.heap.size + 1,2,none⟩ (.slice a9 (R.length + 1) c9) = W9 at *
   go_wp2
   go_roundw
   case rel => exact ⟨k + 1,by omega,by go_num,_,_,_,HR9,HM9.out,HRes9.out⟩
   case measure => simp [intOf];omega
  ·have k1 : ¬ ((k : Int) < (rr.got.length : Int)) := by omega
   have hM : ((⟨id,n,R,[],false⟩ : Mb)) = nmM id n := by rw [HNN.out,hR.out,show k = rr.got.length by omega]
   have HMm : Hid ((⟨id,n,R,[],false⟩ : Mb) = nmM id n) := hM
   have hMP : MbP wr A (⟨id,n,R,[],false⟩ : Mb) := ⟨⟨fp,M.ls⟩,by rw [hM];exact HP.out.1,by rw [hM];exact HP.out.2.1,by rw [hM];exact HP.out.2.2.1⟩
   have hCk := memI_any A (⟨id,n,R,[],false⟩ : Mb) wr hMP
   have HOk : Hid (okMb (⟨id,n,R,[],false⟩ : Mb) = (newMb id n).2) := by rw [Hid,hM];exact HK.out.1
   rw [HOk.out] at hCk
   unfold mbV mbC at hCk
   have HMM : Hid (MO w wr (w.heap.size + 1) A (⟨id,n,R,[],false⟩ : Mb) fp) := M
   have HRs : Hid (Bx wr w.heap.size 27 #[.int .i64 0,.int .i64 0,.slice none 0 0,.slice none 0 0,.bool false]) := hres
   obtain ⟨o0,o1,o2,o3,o4⟩ := Bx.r5 M.own
   simp only [List.length_nil] at o0 o1 o2 o3 o4 hCk
   clear M hres hR hM hMP
   cases hb : (newMb id n).2 with
   | false =>
    have HZ : Hid ((newMb id n).1 = zeroMb) := HK.out.2.2 hb
    have HZb : Hid ((newMb id n).2 = false) := hb
    rw [hb] at hCk
    go_wp2_with fail
    refine hCk.mono ?_
    rintro e w2 ⟨rfl,hb2⟩
    have hR2 := HRs.out.below hb2
    have HB2 : Hid (Below w.heap.size w w2) := HMM.out.below.trans (hb2.mono HMM.out.below.size)
    obtain ⟨z0,z1,z2,z3,z4⟩ := Bx.r5 hR2
    obtain ⟨f0,f1,f2,f3,f4⟩ := hR2.f5
    clear hCk hR2 hb2 o0 o1 o2 o3 o4
    go_wp2
    refine bodyPost_ret (v := .tuple #[mbV ⟨none,0,none,0⟩ zeroMb,.bool false]) (by simp [results,Tryz.results17,go_sem,mbV,mbC,zeroMb, *]) rfl ?_
    rw [HZ.out,HZb.out]
    exact ⟨_,rfl,ansM_zero ((wrt5 w2 w.heap.size).below HB2.out HB2.out.size (fun b h => by omega))⟩
   | true =>
    have HZ : Hid ((newMb id n).1 = (⟨id,n,R,[],false⟩ : Mb)) := by rw [Hid,HMm.out];exact HK.out.2.1 hb
    have HZb : Hid ((newMb id n).2 = true) := hb
    rw [hb] at hCk
    go_wp2_with fail
    refine hCk.mono ?_
    rintro e w2 ⟨rfl,hb2⟩
    have hR2 := HRs.out.below hb2
    have M2 := HMM.out.step hb2
    obtain ⟨z0,z1,z2,z3,z4⟩ := Bx.r5 hR2
    obtain ⟨f0,f1,f2,f3,f4⟩ := hR2.f5
    have HA : Hid (NewL w (((((w2.setCell ⟨w.heap.size,0,none⟩ (.int .i64 id)).setCell ⟨w.heap.size,1,none⟩ (.int .i64 n)).setCell ⟨w.heap.size,2,none⟩ (.slice A.ra R.length A.rc)).setCell ⟨w.heap.size,3,none⟩ (.slice A.sa 0 A.sc)).setCell ⟨w.heap.size,4,none⟩ (.bool false)) (mbCels (⟨id,n,R,[],false⟩ : Mb)) (mbVals A (⟨id,n,R,[],false⟩ : Mb))) := M2.ans (Nat.le_refl _) (Nat.le_succ _)
    clear o0 o1 o2 o3 o4
    obtain ⟨o0,o1,o2,o3,o4⟩ := Bx.r5 M2.own
    simp only [List.length_nil] at o0 o1 o2 o3 o4
    clear hCk hR2 hb2 M2
    go_wp2
    refine bodyPost_ret (v := .tuple #[mbV A (⟨id,n,R,[],false⟩ : Mb),.bool true]) (by simp [results,Tryz.results17,go_sem,mbV,mbC, *]) rfl ?_
    rw [HZ.out,HZb.out]
    exact ⟨_,rfl,HA.out⟩
end Go.Proofs.YthioodpmgifomaaGreat
namespace Go.Proofs.YthioodpmgifomaaGreat
set_option linter.unusedVariables false
set_option linter.unusedSimpArgs false
open Go.RowKit Go.Sort
def mb4 (m : Mb) : List Cel := [.v (.int .i64 m.id),lcl 8 rw8 m.rows,icl m.sung,.v (.bool m.done)]
def C4 (w : World) (B : Nat) (x0 x1 x2 x3 : Value) : Prop := w.cell? ⟨B,0,none⟩ = some x0 ∧ w.cell? ⟨B,1,none⟩ = some x1 ∧ w.cell? ⟨B,2,none⟩ = some x2 ∧ w.cell? ⟨B,3,none⟩ = some x3
structure Iw (w X : World) (B : Nat) (m : Mb) (fp : Fp) (g off c : Nat) : Prop where
 bcm : Bcm w X B 0 (mb4 m) fp
 rws : X.cell? ⟨B,1,none⟩ = some (.slice (some ⟨g,off,none⟩) m.rows.length c)
theorem Iw.start {w : World} {B : Nat} {m : Mb} {fp : Fp} (h : Plc w B 0 (mb4 m) fp) (hn : 0 < m.rows.length) : ∃ g off c,Iw w w B m fp g off c := by
 obtain ⟨g,off,c,f,h1,_⟩ := h.el (F := rw8) rw8_len (by omega) (j := 1) (L := m.rows) rfl (rowN_at hn)
 exact ⟨g,off,c,Bcm.refl h,h1⟩
theorem Iw.step {w X X' : World} {B : Nat} {m : Mb} {fp : Fp} {g off c : Nat} (h : Iw w X B m fp g off c) (hb : Below X.heap.size X X') : Iw w X' B m fp g off c := ⟨h.bcm.below hb,(hb.cell (World.block_lt_of_cell? _ _ h.rws)).trans h.rws⟩
theorem Iw.box {w X : World} {B : Nat} {m : Mb} {fp : Fp} {g off c : Nat} (h : Iw w X B m fp g off c) (hf : FitM m) : ∃ sa sc,C4 X B (.int .i64 m.id) (.slice (some ⟨g,off,none⟩) m.rows.length c) (.slice sa m.sung.length sc) (.bool m.done) ∧ MbS X ⟨some ⟨g,off,none⟩,c,sa,sc⟩ m := by
 obtain ⟨fp1,hp,_⟩ := h.bcm.next
 have hv := hp.pv
 obtain ⟨u0,c0,rfl⟩ := hv.at (j := 0) rfl
 obtain ⟨u2,c2,v2⟩ := hv.at (j := 1) rfl
 obtain ⟨u3,c3,v3⟩ := hv.at (j := 2) rfl
 obtain ⟨u4,c4,rfl⟩ := hv.at (j := 3) rfl
 have e2 : u2 = .slice (some ⟨g,off,none⟩) m.rows.length c := Option.some.inj (c2.symm.trans h.rws)
 subst e2
 obtain ⟨sa,sc,rfl,s1,s2,s3⟩ := vw_icl v3 hf.2
 have k := v2
 obtain ⟨_,_,_,e,k1,k2,_⟩ := k
 cases e
 exact ⟨sa,sc,⟨c0,c2,c3,c4⟩,v2,s1,by omega,by omega,hf.1⟩
theorem Iw.id' {w X : World} {B : Nat} {m : Mb} {fp : Fp} {g off c : Nat} (h : Iw w X B m fp g off c) : X.cell? ⟨B,0,none⟩ = some (.int .i64 m.id) ∧ X.cell? ⟨B,3,none⟩ = some (.bool m.done) := by
 obtain ⟨fp1,hp,_⟩ := h.bcm.next
 have hv := hp.pv
 obtain ⟨u0,c0,rfl⟩ := hv.at (j := 0) rfl
 obtain ⟨u4,c4,rfl⟩ := hv.at (j := 3) rfl
 exact ⟨c0,c4⟩
theorem Iw.row {w X : World} {B : Nat} {m : Mb} {fp : Fp} {g off c : Nat} (h : Iw w X B m fp g off c) (hf : FitM m) {k : Nat} (hk : k < m.rows.length) : ∃ Ak : Ra,C8 X g (off + k * 8) (.int .i64 (rowN m.rows k).ver) (.slice Ak.ta (rowN m.rows k).txt.length Ak.tc) (.slice Ak.ga (rowN m.rows k).got.length Ak.gc) (.slice Ak.sa (rowN m.rows k).sus.length Ak.sc) (.bool (rowN m.rows k).wed) (.bool (rowN m.rows k).rdy) (.int .i64 (rowN m.rows k).by_) (.slice Ak.ma (rowN m.rows k).trm.length Ak.mc) ∧ RwS X Ak (rowN m.rows k) := by
 obtain ⟨sa,sc,_,h2⟩ := h.box hf
 obtain ⟨g',off',Ak,e,h3,h4⟩ := h2.row hk
 cases e
 exact ⟨Ak,h3,h4⟩
theorem Iw.at {w X : World} {B : Nat} {m : Mb} {fp : Fp} {g off c : Nat} (h : Iw w X B m fp g off c) {k : Nat} (hk : k < m.rows.length) {j : Nat} {cl : Cel} (hj : (rw8 (rowN m.rows k))[j]? = some cl) : ∃ u f,X.cell? ⟨g,off + k * 8 + j,none⟩ = some u ∧ X.frozen? ⟨g,off + k * 8 + j,none⟩ = false ∧ Cel.ow X cl u f ∧ (∀ b,f b → b < X.heap.size) ∧
  ∀ (X1 : World) (c' : Cel) (u' : Value) (f' : Fp) (r' : Rw),(rw8 (rowN m.rows k)).set j c' = rw8 r' → Wrt f X X1 → Cel.ow X1 c' u' f' → (∀ b,f' b → f b ∨ X.heap.size ≤ b) → X1.cell? ⟨g,off + k * 8 + j,none⟩ = some u ∧ X1.frozen? ⟨g,off + k * 8 + j,none⟩ = false ∧ Iw w (X1.setCell ⟨g,off + k * 8 + j,none⟩ u') B { m with rows := m.rows.set k r' } fp g off c ∧ (u' = u → Iw w X1 B { m with rows := m.rows.set k r' } fp g off c) := by
 obtain ⟨fp1,hp,hf1,hgo⟩ := h.bcm.next
 obtain ⟨g',off',c',f,h1,hgB,hfg,hfs,hpl,hput⟩ := hp.el (F := rw8) rw8_len (by omega) (j := 1) (L := m.rows) rfl (rowN_at hk)
 have e := Option.some.inj (h1.symm.trans h.rws)
 cases e
 obtain ⟨u,fj,hu,hfz,hc,hsub,hnB,hset⟩ := hpl.at hj
 have hBX := hp.lt
 refine ⟨u,fj,hu,hfz,hc,Cel.ow_lt hc,fun X1 c' u' f' r' er hw hc' hf' => ?_⟩
 obtain ⟨k1,k2,k3,k4⟩ := hset X1 c' u' f' hw hc' hf'
 rw [er] at k3 k4
 have hBf : ¬ fj B := fun hb => hp.nB (hfs B (hsub B hb))
 have hr1 : X1.cell? ⟨B,1,none⟩ = some (.slice (some ⟨g,off,none⟩) m.rows.length c) := (World.cell?_of_block (hw.block B hBX hBf)).trans h.rws
 have key : ∀ Z,Bcm X Z g (off + k * 8) (rw8 r') f → Bcm w Z B 0 (mb4 { m with rows := m.rows.set k r' }) fp := fun Z hZ => hgo Z _ rfl (hput Z r' hZ)
 refine ⟨k1,k2,⟨key _ k3, ?_⟩,fun e => ⟨key _ (k4 e), ?_⟩⟩
 ·rw [World.cell?_setCell_other _ _ _ _ (by simp only [ne_eq,Addr.mk.injEq,not_and];intro e;exact absurd e hgB),hr1]
  simp
 ·rw [hr1];simp
theorem Iw.put {w X : World} {B : Nat} {m : Mb} {fp : Fp} {g off c : Nat} (h : Iw w X B m fp g off c) {k : Nat} (hk : k < m.rows.length) {j : Nat} {x y : Value} (hj : (rw8 (rowN m.rows k))[j]? = some (.v x)) {r' : Rw} (er : (rw8 (rowN m.rows k)).set j (.v y) = rw8 r') :
  X.cell? ⟨g,off + k * 8 + j,none⟩ = some x ∧ X.frozen? ⟨g,off + k * 8 + j,none⟩ = false ∧ Iw w (X.setCell ⟨g,off + k * 8 + j,none⟩ y) B { m with rows := m.rows.set k r' } fp g off c := by
 obtain ⟨u,f,h1,h2,⟨rfl,h3⟩,_,h4⟩ := h.at hk hj
 exact ⟨h1,h2,(h4 X (.v y) y (fun _ => False) r' er (Wrt.refl _ _) ⟨rfl,fun _ h => h⟩ (fun b hb => hb.elim)).2.2.1⟩
theorem Iw.rowAll {w X X1 : World} {B : Nat} {m : Mb} {fp : Fp} {g off c : Nat} (h : Iw w X B m fp g off c) {k : Nat} (hk : k < m.rows.length) (hb : Below X.heap.size X X1) {r' : Rw} {Ar : Ra} {fr : Fp} (hr : owL X1 (rwCels r') (rwVals Ar r') fr) (hfr : ∀ b,fr b → X.heap.size ≤ b) :
  Iw w ((((((((X1.setCell ⟨g,off + k * 8,none⟩ (.int .i64 r'.ver)).setCell ⟨g,off + k * 8 + 1,none⟩ (.slice Ar.ta r'.txt.length Ar.tc)).setCell ⟨g,off + k * 8 + 2,none⟩ (.slice Ar.ga r'.got.length Ar.gc)).setCell ⟨g,off + k * 8 + 3,none⟩ (.slice Ar.sa r'.sus.length Ar.sc)).setCell ⟨g,off + k * 8 + 4,none⟩ (.bool r'.wed)).setCell ⟨g,off + k * 8 + 5,none⟩ (.bool r'.rdy)).setCell ⟨g,off + k * 8 + 6,none⟩ (.int .i64 r'.by_)).setCell ⟨g,off + k * 8 + 7,none⟩ (.slice Ar.ma r'.trm.length Ar.mc)) B { m with rows := m.rows.set k r' } fp g off c := by
 obtain ⟨fp1,hp,hf1,hgo⟩ := h.bcm.next
 obtain ⟨g',off',c',f,h1,hgB,hfg,hfs,hpl,hput⟩ := hp.el (F := rw8) rw8_len (by omega) (j := 1) (L := m.rows) rfl (rowN_at hk)
 have e := Option.some.inj (h1.symm.trans h.rws)
 cases e
 have hA := hpl.all hb (ow_rw8 hr) rfl hfr
 have hB := hgo _ (mb4 { m with rows := m.rows.set k r' }) rfl (hput _ r' hA)
 refine ⟨hB, ?_⟩
 have hr1 : X1.cell? ⟨B,1,none⟩ = some (.slice (some ⟨g,off,none⟩) m.rows.length c) := (World.cell?_of_block (hb.block B hp.lt)).trans h.rws
 have := World.cell?_setCells_out g (rwC Ar r').toList (off + k * 8) X1 ⟨B,1,none⟩ (fun e _ => absurd e.symm hgB)
 have e2 := this.trans hr1
 simp only [List.length_set]
 exact e2
theorem Iw.free {w X : World} {B : Nat} {m : Mb} {fp : Fp} {g off c : Nat} (h : Iw w X B m fp g off c) {k : Nat} (hk : k < m.rows.length) : (X.frozen? ⟨g,off + k * 8,none⟩ = false ∧ X.frozen? ⟨g,off + k * 8 + 1,none⟩ = false ∧ X.frozen? ⟨g,off + k * 8 + 2,none⟩ = false ∧ X.frozen? ⟨g,off + k * 8 + 3,none⟩ = false) ∧ X.frozen? ⟨g,off + k * 8 + 4,none⟩ = false ∧ X.frozen? ⟨g,off + k * 8 + 5,none⟩ = false ∧ X.frozen? ⟨g,off + k * 8 + 6,none⟩ = false ∧ X.frozen? ⟨g,off + k * 8 + 7,none⟩ = false := by
 obtain ⟨fp1,hp,hf1,hgo⟩ := h.bcm.next
 obtain ⟨g',off',c',f,h1,hgB,hfg,hfs,⟨vs,hpc,hov,_⟩,hput⟩ := hp.el (F := rw8) rw8_len (by omega) (j := 1) (L := m.rows) rfl (rowN_at hk)
 have e := Option.some.inj (h1.symm.trans h.rws)
 cases e
 have hl : vs.length = 8 := owL_len hov
 exact ⟨⟨hpc.free 0 (by omega),hpc.free 1 (by omega),hpc.free 2 (by omega),hpc.free 3 (by omega)⟩,hpc.free 4 (by omega),hpc.free 5 (by omega),hpc.free 6 (by omega),hpc.free 7 (by omega)⟩
end Go.Proofs.YthioodpmgifomaaGreat
namespace Go.Proofs.YthioodpmgifomaaGreat
set_option linter.unusedVariables false
set_option linter.unusedSimpArgs false
open Go.RowKit Go.Sort
set_option maxHeartbeats 400000 in
theorem cnt_any (B : Nat) (a : Option Addr) (n c : Nat) (X : World) (h1 : X.cell? ⟨B,1,none⟩ = some (.slice a n c)) :
  Calls Tryz.prog 124 #[.pointer (some ⟨B,0,none⟩)] X fun e w' => e = .returned (.int .i64 (n : Int)) ∧ w' = X := by
 go_enter Tryz.func124,Tryz.ntmps124
 go_wp2
 go_ret
 exact ⟨rfl,rfl⟩
set_option maxRecDepth 100000 in
set_option maxHeartbeats 800000 in
theorem own_any (B i n g off c : Nat) (X : World) (h0 : X.cell? ⟨B,0,none⟩ = some (.int .i64 (i : Int))) (h1 : X.cell? ⟨B,1,none⟩ = some (.slice (some ⟨g,off,none⟩) n c)) (hi : i < n) :
  Calls Tryz.prog 117 #[.pointer (some ⟨B,0,none⟩)] X fun e w' => e = .returned (.pointer (some ⟨g,off + i * 8,none⟩)) ∧ Below X.heap.size X w' := by
 have hmix := mixed17
 have i0 : (0 : Int) ≤ (i : Int) := by omega
 have i1 : (i : Int) < (n : Int) := by omega
 have T : ∀ {x v},X.cell? x = some v → ∀ q : Bk X,q.w.cell? x = some v := fun h q => (q.h.cell (World.block_lt_of_cell? _ _ h)).trans h
 have p0 := T h0
 have p1 := T h1
 clear T h0 h1
 go_enter Tryz.func117,Tryz.ntmps117
 go_wp2_with fail
 refine wp_region_bk (by kernel_rfl) (by kernel_rfl) ?_
 repeat (go_big_quiet_step ((first | rfl)))
 refine wpQuiet_nil ?_
 intro wE hw'
 obtain ⟨⟨w11,hb11⟩,hw''⟩ := hw'
 have hwe : wE = w11 := hw''
 clear hw''
 subst hwe
 have HB : Hid (Below X.heap.size X wE) := hb11
 clear p0 p1 hb11
 go_wp2
 go_ret
 exact ⟨rfl,HB.out⟩
def othB (i n : Nat) (sus : List Int) (who : Int) : Bool := decide (who ≠ (i : Int)) && (inB who 0 ((n : Int) - 1) && decide (who ∉ sus))
set_option maxRecDepth 100000 in
set_option maxHeartbeats 1600000 in
theorem oth_any (B i n g off c : Nat) (sa : Option Addr) (sc : Nat) (sus : List Int) (who : Int) (X : World) (h0 : X.cell? ⟨B,0,none⟩ = some (.int .i64 (i : Int))) (h1 : X.cell? ⟨B,1,none⟩ = some (.slice (some ⟨g,off,none⟩) n c)) (hi : i < n) (hn : n ≤ 5) (h3 : X.cell? ⟨g,off + i * 8 + 3,none⟩ = some (.slice sa sus.length sc)) (hv : Vec X sa sus.length sus) (hm : sus.length ≤ maxLen) :
  Calls Tryz.prog 120 #[.pointer (some ⟨B,0,none⟩),.int .i64 who] X fun e w' => e = .returned (.bool (othB i n sus who)) ∧ Below X.heap.size X w' := by
 have HR : Hid (Below X.heap.size X X) := Below.refl _ _
 by_cases e1 : who = (i : Int)
 ·have HZ : Hid (othB i n sus who = false) := by rw [Hid,othB,e1];simp
  have e1' : (who != (i : Int)) = false := by simp [e1]
  clear e1
  go_enter Tryz.func120,Tryz.ntmps120
  go_wp2_with fail
  go_ret
  exact ⟨ret_bool (by rw [HZ.out]),HR.out⟩
 have e1' : (who != (i : Int)) = true := by simp [e1]
 have hC := fun X h => cnt_any B (some ⟨g,off,none⟩) n c X h
 have hwn : wrap64 ((n : Int) - 1) = (n : Int) - 1 := by unfold wrap64;omega
 cases e2 : inB who 0 ((n : Int) - 1) with
 | false =>
  have HZ : Hid (othB i n sus who = false) := by rw [Hid,othB,e2];simp
  clear e1
  go_enter Tryz.func120,Tryz.ntmps120
  go_wp2_with (first | (go_at_call 124;refine (hC _ h1).mono ?_;rintro e w' ⟨rfl,hw'⟩;rw [hw'];clear hw') | (go_at_call 129;refine (isW14_any _ _ _).mono ?_;rintro e w' ⟨rfl,hw'⟩;rw [hw',e2];clear hw'))
  go_ret
  exact ⟨ret_bool (by rw [HZ.out]),HR.out⟩
 | true =>
  have HZ : Hid (othB i n sus who = !decide (who ∈ sus)) := by rw [Hid,othB,e2,decide_eq_true e1];simp
  have hO := own_any B i n g off c X h0 h1 hi
  have HCon : Hid (∀ Y,Below X.heap.size X Y → Y.cell? ⟨g,off + i * 8 + 3,none⟩ = some (.slice sa sus.length sc) ∧ Calls Tryz.prog 130 #[.slice sa sus.length sc,.int .i64 who] Y fun e w' => e = .returned (.bool (decide (who ∈ sus))) ∧ w' = Y) := fun Y hY => ⟨(hY.cell (World.block_lt_of_cell? _ _ h3)).trans h3,con14_any sa sc sus who Y (hv.below hY (Nat.le_refl _)) hm⟩
  clear e1 hv hm HR
  generalize decide (who ∈ sus) = b at *
  go_enter Tryz.func120,Tryz.ntmps120
  go_wp2_with (first | (go_at_call 124;refine (hC _ h1).mono ?_;rintro e w' ⟨rfl,hw'⟩;rw [hw'];clear hw') | (go_at_call 129;refine (isW14_any _ _ _).mono ?_;rintro e w' ⟨rfl,hw'⟩;rw [hw',e2];clear hw') | (go_at_call 117;refine hO.mono ?_;rintro e w1 ⟨rfl,hb1⟩;obtain ⟨g3,hCn⟩ := HCon.out w1 hb1;have HB1 : Hid (Below X.heap.size X w1) := hb1;clear hb1 h0 h1 h3) | (go_at_call 130;refine hCn.mono ?_;rintro e w' ⟨rfl,hw'⟩;rw [hw'];clear hw'))
  go_ret
  exact ⟨ret_bool (by rw [HZ.out]),HB1.out⟩
end Go.Proofs.YthioodpmgifomaaGreat
namespace Go.Proofs.YthioodpmgifomaaGreat
set_option linter.unusedSimpArgs false
set_option linter.unusedVariables false
open Go.RowKit Go.Sort Go.Shelf
def Tryz.cloneL_ren : Go.Shelf.Ren := ⟨fun | 316 => 173 | n => n,fun | 9 => 9 | 3 => 3 | 4 => 4 | 37 => 22 | 0 => 0 | 127 => 215 | 5 => 5 | n => n,fun | n => n⟩
theorem Tryz.cloneL : Go.Proofs.LaysM.n316 Tryz.prog Tryz.cloneL_ren := {
 mixed := by kernel_rfl
 f316 := Tryz.func173.trans (congrArg some (by kernel_rfl))
 t0 := Tryz.underlying0
 a0 := Tryz.isAgg0
 z0 := Tryz.sizeOf0
 v0 := Tryz.zeroValue0
 t3 := Tryz.underlying3
 a3 := Tryz.isAgg3
 z3 := Tryz.sizeOf3
 v3 := Tryz.zeroValue3
 t4 := Tryz.underlying4
 a4 := Tryz.isAgg4
 z4 := Tryz.sizeOf4
 v4 := Tryz.zeroValue4
 t9 := Tryz.underlying9
 a9 := Tryz.isAgg9
 z9 := Tryz.sizeOf9
 v9 := Tryz.zeroValue9
 t37 := Tryz.underlying22
 a37 := Tryz.isAgg22
 z37 := Tryz.sizeOf22
 v37 := Tryz.zeroValue22
 t127 := Tryz.underlying215
 a127 := Tryz.isAgg215
 z127 := Tryz.sizeOf215
 v127 := Tryz.zeroValue215
 t5 := Tryz.underlying5
 a5 := Tryz.isAgg5
 z5 := Tryz.sizeOf5
 v5 := Tryz.zeroValue5
 i0 := by kernel_rfl
 i3 := by kernel_rfl
 i4 := by kernel_rfl
 i5 := by kernel_rfl
 i9 := by kernel_rfl
 i37 := by kernel_rfl
 i127 := by kernel_rfl }
set_option maxHeartbeats 400000 in
theorem clone_any (l : List UInt8) (w : World) (hl : l.length ≤ 1048576) :
  Calls Tryz.prog 118 #[.string (sv l)] w fun e w' => e = .returned (.string (sv l)) ∧ Below w.heap.size w w' := by
 have h := Any.stringslite_Clone Tryz.cloneL (sv l) w (by rw [sv_size];omega)
 go_enter Tryz.func118,Tryz.ntmps118
 go_wp2_with fail
 refine h.mono ?_
 rintro e w1 ⟨rfl,hb⟩
 have HB : Hid (Below w.heap.size w w1) := hb
 clear hb h
 go_wp2
 go_ret
 exact ⟨rfl,HB.out⟩
end Go.Proofs.YthioodpmgifomaaGreat
namespace Go.Proofs.YthioodpmgifomaaGreat
set_option linter.unusedVariables false
set_option linter.unusedSimpArgs false
open Go.RowKit Go.Sort
section
variable {P : Program} {l : List Oper} {Q : Exit → Act → World → Prop} {S : World → Prop}
theorem gt_oneN {i z : Nat} {o : Oper} {fuel : Nat} {listed : Array Bool} {a : Act} {w : World} (hn : ¬ S w) (hi : l[i]? = some o) (hr : Region.ready .any l.toArray listed = [i])
  (h : ∀ K' : Act → World → Prop,Shut (∀ a w,GT P l Q S z fuel (listed.setIfInBounds i true) a w → K' a w) → if Region.wanted o (yielded l.toArray a.tmps) = true then Oper.wp P o a w K' Q else K' (a.put o.dst undef) w) : GT P l Q S z (fuel + 1) listed a w := by
 have hi' : l.toArray[i]? = some o := by simpa using hi
 refine ⟨fun h0 => (by rw [hr] at h0;cases h0),fun j hj => ?_⟩
 rw [hr] at hj
 simp at hj
 subst hj
 exact wpOp_step hi' (fun K' hK => h K' (fun a w hW => hK a w ⟨fun _ hS => absurd hS hn,hW⟩))
theorem gt_oneZ {z : Nat} {o : Oper} {fuel : Nat} {listed : Array Bool} {a : Act} {w : World} (hi : l[z]? = some o) (hr : Region.ready .any l.toArray listed = [z])
  (h : ∀ K' : Act → World → Prop,Shut (∀ a w,GT P l Q S z fuel (listed.setIfInBounds z true) a w → K' a w) → if Region.wanted o (yielded l.toArray a.tmps) = true then Oper.wp P o a w K' Q else K' (a.put o.dst undef) w) : GT P l Q S z (fuel + 1) listed a w := by
 have hi' : l.toArray[z]? = some o := by simpa using hi
 refine ⟨fun h0 => (by rw [hr] at h0;cases h0),fun j hj => ?_⟩
 rw [hr] at hj
 simp at hj
 subst hj
 exact wpOp_step hi' (fun K' hK => h K' (fun a w hW => hK a w ⟨fun e _ => absurd rfl e,hW⟩))
end
set_option maxRecDepth 100000 in
set_option maxHeartbeats 800000 in
theorem cln_any (a : Option Addr) (c : Nat) (xs : List Int) (w : World) (hv : Vec w a xs.length xs) (hl : xs.length ≤ 1000000) :
  Calls Tryz.prog 176 #[.slice a xs.length c] w fun e w' => AnsL w w' e xs := by
 have q25 : ∀ (w : World) (a : Option Addr) (n c n' c' : Nat),(binOp .eql 25 (.slice a n c) (.slice none n' c')).run Tryz.prog w = .ok (.bool a.isNone) w := fun w a n c n' c' => Lib.run_eql_slice_nil w _ _ a n c n' c' Tryz.underlying25
 cases a with
 | none =>
  have hx : xs = [] := by
   rcases hv.2.2 with h | ⟨b,o,e,_⟩
   ·exact List.eq_nil_of_length_eq_zero h
   ·cases e
  subst hx
  clear hv
  go_enter Tryz.func176,Tryz.ntmps176
  go_wp2
  go_ret
  exact ⟨none,0,rfl,fun _ => False,ow_icl.2 ⟨none,0,none,rfl,OSo.nil _ _ (fun _ h => by cases h),fun b => by simp⟩,fun _ h => h.elim,Below.refl _ _⟩
 | some ad =>
  have hA := vec_copied (c := c) hv hl
  clear hv
  go_enter Tryz.func176,Tryz.ntmps176
  go_wp2_with (at_builtin;refine wpList_append_of (by rfl) _ _ _ _ (by rfl) _ _ (by rfl) (by rfl) hA ⟨rfl,rfl,rfl,rfl⟩ ?_;rintro v1 w1 ⟨a1,e1,f1,rfl,q1,q2,q3⟩;have HQ : Hid (NewO w w1 (icl xs) (.slice a1 xs.length e1)) := ⟨f1,q1,q2,q3⟩;clear q1 q2 q3 hA)
  go_ret
  exact ⟨a1,e1,rfl,HQ.out⟩
end Go.Proofs.YthioodpmgifomaaGreat
namespace Go.Proofs.YthioodpmgifomaaGreat
set_option linter.unusedVariables false
set_option linter.unusedSimpArgs false
open Go.RowKit Go.Sort
attribute [local irreducible] sv
set_option maxRecDepth 100000 in
set_option maxHeartbeats 3200000 in
theorem anw_any (A : Ra) (r : Rw) (w : World) (hv : RwP w A r) (hg : 0 < r.got.length) (hs : szRw r ≤ 1000) :
  Calls Tryz.prog 126 #[rwV A r] w fun e w' => AnsRw w w' e r := by
 have hmix := mixed17
 unfold szRw at hs
 have hb1 := oneA16 w (.cells #[.int .i64 r.ver,.slice A.ta r.txt.length A.tc,.slice A.ga r.got.length A.gc,.slice A.sa r.sus.length A.sc,.bool r.wed,.bool r.rdy,.int .i64 r.by_,.slice A.ma r.trm.length A.mc] 37)
 have hb2 := oneA16 (w.alloc (.cells #[.int .i64 r.ver,.slice A.ta r.txt.length A.tc,.slice A.ga r.got.length A.gc,.slice A.sa r.sus.length A.sc,.bool r.wed,.bool r.rdy,.int .i64 r.by_,.slice A.ma r.trm.length A.mc] 37)) (.cells #[.int .i64 0,.slice none 0 0,.slice none 0 0,.slice none 0 0,.bool false,.bool false,.int .i64 0,.slice none 0 0] 37)
 have hb3 := oneA16 ((w.alloc (.cells #[.int .i64 r.ver,.slice A.ta r.txt.length A.tc,.slice A.ga r.got.length A.gc,.slice A.sa r.sus.length A.sc,.bool r.wed,.bool r.rdy,.int .i64 r.by_,.slice A.ma r.trm.length A.mc] 37)).alloc (.cells #[.int .i64 0,.slice none 0 0,.slice none 0 0,.slice none 0 0,.bool false,.bool false,.int .i64 0,.slice none 0 0] 37)) (.cells #[] 9)
 have hx1 : Bx (((w.alloc (.cells #[.int .i64 r.ver,.slice A.ta r.txt.length A.tc,.slice A.ga r.got.length A.gc,.slice A.sa r.sus.length A.sc,.bool r.wed,.bool r.rdy,.int .i64 r.by_,.slice A.ma r.trm.length A.mc] 37)).alloc (.cells #[.int .i64 0,.slice none 0 0,.slice none 0 0,.slice none 0 0,.bool false,.bool false,.int .i64 0,.slice none 0 0] 37)).alloc (.cells #[] 9)) w.heap.size 37 #[.int .i64 r.ver,.slice A.ta r.txt.length A.tc,.slice A.ga r.got.length A.gc,.slice A.sa r.sus.length A.sc,.bool r.wed,.bool r.rdy,.int .i64 r.by_,.slice A.ma r.trm.length A.mc] := ((Bx.new w 37 #[.int .i64 r.ver,.slice A.ta r.txt.length A.tc,.slice A.ga r.got.length A.gc,.slice A.sa r.sus.length A.sc,.bool r.wed,.bool r.rdy,.int .i64 r.by_,.slice A.ma r.trm.length A.mc]).alloc _).alloc _
 have hx2 : Bx (((w.alloc (.cells #[.int .i64 r.ver,.slice A.ta r.txt.length A.tc,.slice A.ga r.got.length A.gc,.slice A.sa r.sus.length A.sc,.bool r.wed,.bool r.rdy,.int .i64 r.by_,.slice A.ma r.trm.length A.mc] 37)).alloc (.cells #[.int .i64 0,.slice none 0 0,.slice none 0 0,.slice none 0 0,.bool false,.bool false,.int .i64 0,.slice none 0 0] 37)).alloc (.cells #[] 9)) (w.heap.size + 1) 37 #[.int .i64 0,.slice none 0 0,.slice none 0 0,.slice none 0 0,.bool false,.bool false,.int .i64 0,.slice none 0 0] := by
  have := (Bx.new (w.alloc (.cells #[.int .i64 r.ver,.slice A.ta r.txt.length A.tc,.slice A.ga r.got.length A.gc,.slice A.sa r.sus.length A.sc,.bool r.wed,.bool r.rdy,.int .i64 r.by_,.slice A.ma r.trm.length A.mc] 37)) 37 #[.int .i64 0,.slice none 0 0,.slice none 0 0,.slice none 0 0,.bool false,.bool false,.int .i64 0,.slice none 0 0]).alloc (.cells #[] 9)
  simp only [World.size_alloc] at this
  exact this
 have hb12 : Below w.heap.size w ((w.alloc (.cells #[.int .i64 r.ver,.slice A.ta r.txt.length A.tc,.slice A.ga r.got.length A.gc,.slice A.sa r.sus.length A.sc,.bool r.wed,.bool r.rdy,.int .i64 r.by_,.slice A.ma r.trm.length A.mc] 37)).alloc (.cells #[.int .i64 0,.slice none 0 0,.slice none 0 0,.slice none 0 0,.bool false,.bool false,.int .i64 0,.slice none 0 0] 37)) := hb1.trans (hb2.mono hb1.size)
 have hb13 : Below w.heap.size w (((w.alloc (.cells #[.int .i64 r.ver,.slice A.ta r.txt.length A.tc,.slice A.ga r.got.length A.gc,.slice A.sa r.sus.length A.sc,.bool r.wed,.bool r.rdy,.int .i64 r.by_,.slice A.ma r.trm.length A.mc] 37)).alloc (.cells #[.int .i64 0,.slice none 0 0,.slice none 0 0,.slice none 0 0,.bool false,.bool false,.int .i64 0,.slice none 0 0] 37)).alloc (.cells #[] 9)) := hb12.trans (hb3.mono hb12.size)
 have HO0 : Hid (Cel.ow (((w.alloc (.cells #[.int .i64 r.ver,.slice A.ta r.txt.length A.tc,.slice A.ga r.got.length A.gc,.slice A.sa r.sus.length A.sc,.bool r.wed,.bool r.rdy,.int .i64 r.by_,.slice A.ma r.trm.length A.mc] 37)).alloc (.cells #[.int .i64 0,.slice none 0 0,.slice none 0 0,.slice none 0 0,.bool false,.bool false,.int .i64 0,.slice none 0 0] 37)).alloc (.cells #[] 9)) (scl []) (.slice (some ⟨w.heap.size + 1 + 1,0,none⟩) 0 0) (fun _ => False)) := ow_scl.2 ⟨_,0,none,rfl,OSo.nil _ _ (plainS _ _),fun b => by simp⟩
 have HX1 : Hid (Bx (((w.alloc (.cells #[.int .i64 r.ver,.slice A.ta r.txt.length A.tc,.slice A.ga r.got.length A.gc,.slice A.sa r.sus.length A.sc,.bool r.wed,.bool r.rdy,.int .i64 r.by_,.slice A.ma r.trm.length A.mc] 37)).alloc (.cells #[.int .i64 0,.slice none 0 0,.slice none 0 0,.slice none 0 0,.bool false,.bool false,.int .i64 0,.slice none 0 0] 37)).alloc (.cells #[] 9)) w.heap.size 37 #[.int .i64 r.ver,.slice A.ta r.txt.length A.tc,.slice A.ga r.got.length A.gc,.slice A.sa r.sus.length A.sc,.bool r.wed,.bool r.rdy,.int .i64 r.by_,.slice A.ma r.trm.length A.mc]) := hx1
 have HX2 : Hid (Bx (((w.alloc (.cells #[.int .i64 r.ver,.slice A.ta r.txt.length A.tc,.slice A.ga r.got.length A.gc,.slice A.sa r.sus.length A.sc,.bool r.wed,.bool r.rdy,.int .i64 r.by_,.slice A.ma r.trm.length A.mc] 37)).alloc (.cells #[.int .i64 0,.slice none 0 0,.slice none 0 0,.slice none 0 0,.bool false,.bool false,.int .i64 0,.slice none 0 0] 37)).alloc (.cells #[] 9)) (w.heap.size + 1) 37 #[.int .i64 0,.slice none 0 0,.slice none 0 0,.slice none 0 0,.bool false,.bool false,.int .i64 0,.slice none 0 0]) := hx2
 have HB0 : Hid (Below w.heap.size w (((w.alloc (.cells #[.int .i64 r.ver,.slice A.ta r.txt.length A.tc,.slice A.ga r.got.length A.gc,.slice A.sa r.sus.length A.sc,.bool r.wed,.bool r.rdy,.int .i64 r.by_,.slice A.ma r.trm.length A.mc] 37)).alloc (.cells #[.int .i64 0,.slice none 0 0,.slice none 0 0,.slice none 0 0,.bool false,.bool false,.int .i64 0,.slice none 0 0] 37)).alloc (.cells #[] 9))) := hb13
 have HV : Hid (RwP w A r) := hv
 have hsz : w.heap.size + 1 + 1 ≤ (((w.alloc (.cells #[.int .i64 r.ver,.slice A.ta r.txt.length A.tc,.slice A.ga r.got.length A.gc,.slice A.sa r.sus.length A.sc,.bool r.wed,.bool r.rdy,.int .i64 r.by_,.slice A.ma r.trm.length A.mc] 37)).alloc (.cells #[.int .i64 0,.slice none 0 0,.slice none 0 0,.slice none 0 0,.bool false,.bool false,.int .i64 0,.slice none 0 0] 37)).alloc (.cells #[] 9)).heap.size := by simp only [World.size_alloc];omega
 have HSz : Hid (w.heap.size + 1 + 1 ≤ (((w.alloc (.cells #[.int .i64 r.ver,.slice A.ta r.txt.length A.tc,.slice A.ga r.got.length A.gc,.slice A.sa r.sus.length A.sc,.bool r.wed,.bool r.rdy,.int .i64 r.by_,.slice A.ma r.trm.length A.mc] 37)).alloc (.cells #[.int .i64 0,.slice none 0 0,.slice none 0 0,.slice none 0 0,.bool false,.bool false,.int .i64 0,.slice none 0 0] 37)).alloc (.cells #[] 9)).heap.size) := hsz
 obtain ⟨⟨c0,c1,c2,c3⟩,c4,c5,c6,c7⟩ := Bx.r8 hx1
 clear hb1 hb2 hb3 hb12 hb13 hx1 hx2 hv hsz
 unfold rwV rwC
 go_enter Tryz.func126,Tryz.ntmps126
 go_wp2_with fail
 generalize ((w.alloc (.cells #[.int .i64 r.ver,.slice A.ta r.txt.length A.tc,.slice A.ga r.got.length A.gc,.slice A.sa r.sus.length A.sc,.bool r.wed,.bool r.rdy,.int .i64 r.by_,.slice A.ma r.trm.length A.mc] 37)).alloc (.cells #[.int .i64 0,.slice none 0 0,.slice none 0 0,.slice none 0 0,.bool false,.bool false,.int .i64 0,.slice none 0 0] 37)).alloc (.cells #[] 9) = W0 at *
 clear c0 c1 c2 c3 c4 c5 c6 c7
 go_loopw [3,10] (fun v k wr => ∃ (j : Nat) (a : Option Addr) (cc : Nat) (Z : List (List UInt8)) (fz : Fp),j ≤ r.txt.length ∧ k = .int .i64 (j : Int) ∧ v = .slice a Z.length cc ∧ Hid (Z = r.txt.take j) ∧ Cel.ow wr (scl Z) (.slice a Z.length cc) fz ∧ (∀ b,fz b → w.heap.size + 1 + 1 ≤ b) ∧ Bx wr w.heap.size 37 #[.int .i64 r.ver,.slice A.ta r.txt.length A.tc,.slice A.ga r.got.length A.gc,.slice A.sa r.sus.length A.sc,.bool r.wed,.bool r.rdy,.int .i64 r.by_,.slice A.ma r.trm.length A.mc] ∧ Bx wr (w.heap.size + 1) 37 #[.int .i64 0,.slice none 0 0,.slice none 0 0,.slice none 0 0,.bool false,.bool false,.int .i64 0,.slice none 0 0] ∧ Below w.heap.size w wr) (fun _ k _ => r.txt.length - (intOf k).toNat)
 case atStart => exact ⟨0,some ⟨w.heap.size + 1 + 1,0,none⟩,0,[],_,Nat.zero_le _,rfl,rfl,rfl,HO0.out,fun b h => h.elim,HX1.out,HX2.out,HB0.out⟩
 case round =>
  obtain ⟨j,a,cc,Z,fz,hj,rfl,rfl,hZ,hO,hfz,hx1,hx2,hb⟩ := hrel
  have HO : Hid (Cel.ow wr (scl Z) (.slice a Z.length cc) fz) := hO
  have HY1 : Hid (Bx wr w.heap.size 37 #[.int .i64 r.ver,.slice A.ta r.txt.length A.tc,.slice A.ga r.got.length A.gc,.slice A.sa r.sus.length A.sc,.bool r.wed,.bool r.rdy,.int .i64 r.by_,.slice A.ma r.trm.length A.mc]) := hx1
  have HY2 : Hid (Bx wr (w.heap.size + 1) 37 #[.int .i64 0,.slice none 0 0,.slice none 0 0,.slice none 0 0,.bool false,.bool false,.int .i64 0,.slice none 0 0]) := hx2
  have HB : Hid (Below w.heap.size w wr) := hb
  have hsr := hx2.lt
  clear hO HX1 HX2 HB0 HO0 HSz
  by_cases hlt : j < r.txt.length
  ·rcases (HV.out.below hb).txt.txs with h0 | ⟨tb,tq,hta,htc⟩
   ·omega
   have hck := htc j hlt
   have hlen : (r.txt.getD j []).length ≤ 1048576 := by have := totS_at r.txt hlt;omega
   have hC := clone_any (r.txt.getD j []) wr hlen
   have HN : Hid (r.txt.take (j + 1) = Z ++ [r.txt.getD j []]) := by rw [Hid,hZ.out,List.take_succ_eq_append_getElem hlt];simp [List.getD,hlt]
   have HZl : Hid (Z.length ≤ 1000000) := by rw [Hid,hZ.out,List.length_take];omega
   have k0 : (0 : Int) ≤ (j : Int) := by omega
   have k1 : (j : Int) < (r.txt.length : Int) := by omega
   rw [hta]
   clear hx1 hx2 hb htc hZ hlen
   generalize r.txt.getD j [] = t at *
   go_wp2_with (first | (go_at_call 118;refine hC.mono ?_;rintro e w1 ⟨rfl,hb1⟩;have HY1a : Hid (Bx w1 w.heap.size 37 #[.int .i64 r.ver,.slice A.ta r.txt.length A.tc,.slice A.ga r.got.length A.gc,.slice A.sa r.sus.length A.sc,.bool r.wed,.bool r.rdy,.int .i64 r.by_,.slice A.ma r.trm.length A.mc]) := HY1.out.below hb1;have HY2a : Hid (Bx w1 (w.heap.size + 1) 37 #[.int .i64 0,.slice none 0 0,.slice none 0 0,.slice none 0 0,.bool false,.bool false,.int .i64 0,.slice none 0 0]) := HY2.out.below hb1;have HB1 : Hid (Below w.heap.size w w1) := HB.out.trans (hb1.mono HB.out.size);have hs1 := hb1.size;obtain ⟨a',c',ea,hA⟩ := ow_txt_app t (Cel.ow_below HO.out hb1) HZl.out;cases ea;clear hb1 hck) | (at_builtin;refine wpList_append_of (by rfl) _ _ _ _ (by rfl) _ _ (by rfl) (by rfl) hA ⟨rfl,rfl,rfl,rfl⟩ ?_;rintro v1 w2 ⟨a1,e1,f1,rfl,q1,q2,q3⟩;have HQ1 : Hid (Cel.ow w2 (scl (Z ++ [t])) (.slice a1 (Z.length + 1) e1) f1) := q1;have HQ2 : Hid (∀ b,f1 b → fz b ∨ w1.heap.size ≤ b) := q2;have HQ3 : Hid (Wrt fz w1 w2) := q3;clear q1 q2 q3 hA))
   have HL : Hid ((Z ++ [t]).length = Z.length + 1) := by rw [Hid,List.length_append];rfl
   go_roundw
   case rel => exact ⟨j + 1,a1,e1,Z ++ [t],f1,by omega,by go_num,by rw [HL.out],HN.out.symm,by rw [HL.out];exact HQ1.out,fun b hb => (HQ2.out b hb).elim (hfz b) (fun h => by omega),by rw [← hta];exact HY1a.out.wrt HQ3.out (fun k => by have := hfz _ k;omega),HY2a.out.wrt HQ3.out (fun k => by have := hfz _ k;omega),HQ3.out.below HB1.out HB1.out.size (fun b hb => by have := hfz b hb;omega)⟩
   case measure => simp [intOf];omega
  ·have k1 : ¬ ((j : Int) < (r.txt.length : Int)) := by omega
   have ej : j = r.txt.length := by omega
   have eZ : Z = r.txt := by rw [hZ.out,ej,List.take_length]
   subst eZ
   have hrp := HV.out.below hb
   have KS : ∀ X,Below wr.heap.size wr X → X.cell? ⟨w.heap.size,2,none⟩ = some (.slice A.ga r.got.length A.gc) ∧ X.cell? ⟨w.heap.size,3,none⟩ = some (.slice A.sa r.sus.length A.sc) ∧ X.cell? ⟨w.heap.size,7,none⟩ = some (.slice A.ma r.trm.length A.mc) := fun X hX => by
    obtain ⟨⟨d0,d1,d2,d3⟩,d4,d5,d6,d7⟩ := Bx.r8 (HY1.out.below hX)
    exact ⟨d2,d3,d7⟩
   have hbd : Below wr.heap.size wr wr.drew := (Same.drewN wr 1).below
   have hC1 := cln_any A.ga A.gc r.got wr.drew (hrp.below hbd).got.vec (by omega)
   have HC2 : Hid (∀ X,Below wr.heap.size wr X → Calls Tryz.prog 176 #[.slice A.sa r.sus.length A.sc] X fun e w' => AnsL X w' e r.sus) := fun X hX => cln_any A.sa A.sc r.sus X (hrp.below hX).sus.vec (by omega)
   have HC3 : Hid (∀ X,Below wr.heap.size wr X → Calls Tryz.prog 176 #[.slice A.ma r.trm.length A.mc] X fun e w' => AnsL X w' e r.trm) := fun X hX => cln_any A.ma A.mc r.trm X (hrp.below hX).trm.vec (by omega)
   have HGa : Hid (∃ gb go,A.ga = some ⟨gb,go,none⟩ ∧ gb < w.heap.size) := by
    rcases HV.out.got.vec.2.2 with h | ⟨gb,go,e,h⟩
    ·omega
    ·exact ⟨gb,go,e,World.block_lt_of_cell? _ _ (h 0 hg)⟩
   have hwr := HB.out.size
   clear hrp hx1 hx2 hb hZ hs ej HV
   go_wp2_with fail
   refine gt_begin (S := fun X : World => X.cell? ⟨w.heap.size,2,none⟩ = some (.slice A.ga r.got.length A.gc) ∧ X.cell? ⟨w.heap.size,3,none⟩ = some (.slice A.sa r.sus.length A.sc) ∧ X.cell? ⟨w.heap.size,7,none⟩ = some (.slice A.ma r.trm.length A.mc)) 13 hmix (by kernel_rfl) ?_
   have hHeld : (fun X : World => X.cell? ⟨w.heap.size,2,none⟩ = some (.slice A.ga r.got.length A.gc) ∧ X.cell? ⟨w.heap.size,3,none⟩ = some (.slice A.sa r.sus.length A.sc) ∧ X.cell? ⟨w.heap.size,7,none⟩ = some (.slice A.ma r.trm.length A.mc)) wr.drew := (KS _ hbd)
   refine gt_take (i := 0) (v := ?_) rfl (by kernel_rfl) (by kernel_rfl) (by kernel_rfl) (by kernel_rfl) (fun _ _ _ h => h) (Or.inl ⟨by rfl, ?_⟩) hHeld ?_
   rotate_left
   ·(intro X hSX;(try dsimp only at hSX);obtain ⟨g0,g1,g2⟩ := hSX;go_simp;try with_reducible rfl)
   try simp only [Act.put,List.setIfInBounds_toArray,List.set_cons_zero,List.set_cons_succ]
   refine gt_take (i := 1) (v := ?_) rfl (by kernel_rfl) (by kernel_rfl) (by kernel_rfl) (by kernel_rfl) (fun _ _ _ h => h) (Or.inl ⟨by rfl, ?_⟩) hHeld ?_
   rotate_left
   ·(intro X hSX;(try dsimp only at hSX);obtain ⟨g0,g1,g2⟩ := hSX;go_simp;try with_reducible rfl)
   try simp only [Act.put,List.setIfInBounds_toArray,List.set_cons_zero,List.set_cons_succ]
   refine gt_take (i := 2) (v := ?_) rfl (by kernel_rfl) (by kernel_rfl) (by kernel_rfl) (by kernel_rfl) (fun _ _ _ h => h) (Or.inl ⟨by rfl, ?_⟩) hHeld ?_
   rotate_left
   ·(intro X hSX;(try dsimp only at hSX);obtain ⟨g0,g1,g2⟩ := hSX;go_simp;try with_reducible rfl)
   try simp only [Act.put,List.setIfInBounds_toArray,List.set_cons_zero,List.set_cons_succ]
   refine gt_take (i := 4) (v := ?_) rfl (by kernel_rfl) (by kernel_rfl) (by kernel_rfl) (by kernel_rfl) (fun _ _ _ h => h) (Or.inl ⟨by rfl, ?_⟩) hHeld ?_
   rotate_left
   ·(intro X hSX;(try dsimp only at hSX);obtain ⟨g0,g1,g2⟩ := hSX;go_simp;try with_reducible rfl)
   try simp only [Act.put,List.setIfInBounds_toArray,List.set_cons_zero,List.set_cons_succ]
   refine gt_take (i := 5) (v := ?_) rfl (by kernel_rfl) (by kernel_rfl) (by kernel_rfl) (by kernel_rfl) (fun _ _ _ h => h) (Or.inl ⟨by rfl, ?_⟩) hHeld ?_
   rotate_left
   ·(intro X hSX;(try dsimp only at hSX);obtain ⟨g0,g1,g2⟩ := hSX;go_simp;try with_reducible rfl)
   try simp only [Act.put,List.setIfInBounds_toArray,List.set_cons_zero,List.set_cons_succ]
   refine gt_take (i := 7) (v := ?_) rfl (by kernel_rfl) (by kernel_rfl) (by kernel_rfl) (by kernel_rfl) (fun _ _ _ h => h) (Or.inl ⟨by rfl, ?_⟩) hHeld ?_
   rotate_left
   ·(intro X hSX;(try dsimp only at hSX);obtain ⟨g0,g1,g2⟩ := hSX;go_simp;try with_reducible rfl)
   try simp only [Act.put,List.setIfInBounds_toArray,List.set_cons_zero,List.set_cons_succ]
   refine gt_take (i := 8) (v := ?_) rfl (by kernel_rfl) (by kernel_rfl) (by kernel_rfl) (by kernel_rfl) (fun _ _ _ h => h) (Or.inl ⟨by rfl, ?_⟩) hHeld ?_
   rotate_left
   ·(intro X hSX;(try dsimp only at hSX);obtain ⟨g0,g1,g2⟩ := hSX;go_simp;try with_reducible rfl)
   try simp only [Act.put,List.setIfInBounds_toArray,List.set_cons_zero,List.set_cons_succ]
   refine gt_pure (i := 10) (v := ?_) rfl (by kernel_rfl) (by kernel_rfl) (by kernel_rfl) (fun _ _ _ h => h) (Or.inl ⟨by rfl, ?_⟩) ?_
   rotate_left
   ·(intro X;go_simp;try with_reducible rfl)
   try simp only [Act.put,List.setIfInBounds_toArray,List.set_cons_zero,List.set_cons_succ]
   refine gt_one (i := 3) rfl (by kernel_rfl) (by kernel_rfl) (fun K hK => ?_)
   go_simp
   go_at_call 176
   refine hC1.mono ?_
   rintro e V1 ⟨a1,e1,rfl,f1,o1,p1,b1⟩
   have hbV1 : Below wr.heap.size wr V1 := hbd.trans (b1.mono hbd.size)
   refine hK.out _ _ (KS _ hbV1) (fun hHeldN => ?_)
   clear hK hHeld
   have hHeld := hHeldN
   try simp only [Act.put,List.setIfInBounds_toArray,List.set_cons_zero,List.set_cons_succ]
   refine gt_one (i := 6) rfl (by kernel_rfl) (by kernel_rfl) (fun K hK => ?_)
   go_simp
   go_at_call 176
   refine (HC2.out V1 hbV1).mono ?_
   rintro e V2 ⟨a2,e2,rfl,f2,o2,p2,b2⟩
   have hbV2 : Below wr.heap.size wr V2 := hbV1.trans (b2.mono hbV1.size)
   refine hK.out _ _ (KS _ hbV2) (fun hHeldN => ?_)
   clear hK hHeld
   have hHeld := hHeldN
   try simp only [Act.put,List.setIfInBounds_toArray,List.set_cons_zero,List.set_cons_succ]
   refine gt_one (i := 9) rfl (by kernel_rfl) (by kernel_rfl) (fun K hK => ?_)
   go_simp
   go_at_call 176
   refine (HC3.out V2 hbV2).mono ?_
   rintro e V3 ⟨a3,e3,rfl,f3,o3,p3,b3⟩
   have hbV3 : Below wr.heap.size wr V3 := hbV2.trans (b3.mono hbV2.size)
   refine hK.out _ _ (KS _ hbV3) (fun hHeldN => ?_)
   clear hK hHeld
   have hHeld := hHeldN
   try simp only [Act.put,List.setIfInBounds_toArray,List.set_cons_zero,List.set_cons_succ]
   have hX3 : Bx V3 w.heap.size 37 #[.int .i64 r.ver,.slice A.ta r.txt.length A.tc,.slice A.ga r.got.length A.gc,.slice A.sa r.sus.length A.sc,.bool r.wed,.bool r.rdy,.int .i64 r.by_,.slice A.ma r.trm.length A.mc] := HY1.out.below hbV3
   have hX4 : Bx (V3.setCell ⟨w.heap.size,1,none⟩ (.slice a r.txt.length cc)) w.heap.size 37 #[.int .i64 r.ver,.slice a r.txt.length cc,.slice A.ga r.got.length A.gc,.slice A.sa r.sus.length A.sc,.bool r.wed,.bool r.rdy,.int .i64 r.by_,.slice A.ma r.trm.length A.mc] := by simpa using hX3.setC 1 (.slice a r.txt.length cc)
   have hX5 : Bx ((V3.setCell ⟨w.heap.size,1,none⟩ (.slice a r.txt.length cc)).setCell ⟨w.heap.size,2,none⟩ (.slice a1 r.got.length e1)) w.heap.size 37 #[.int .i64 r.ver,.slice a r.txt.length cc,.slice a1 r.got.length e1,.slice A.sa r.sus.length A.sc,.bool r.wed,.bool r.rdy,.int .i64 r.by_,.slice A.ma r.trm.length A.mc] := by simpa using hX4.setC 2 (.slice a1 r.got.length e1)
   have hX6 : Bx (((V3.setCell ⟨w.heap.size,1,none⟩ (.slice a r.txt.length cc)).setCell ⟨w.heap.size,2,none⟩ (.slice a1 r.got.length e1)).setCell ⟨w.heap.size,3,none⟩ (.slice a2 r.sus.length e2)) w.heap.size 37 #[.int .i64 r.ver,.slice a r.txt.length cc,.slice a1 r.got.length e1,.slice a2 r.sus.length e2,.bool r.wed,.bool r.rdy,.int .i64 r.by_,.slice A.ma r.trm.length A.mc] := by simpa using hX5.setC 3 (.slice a2 r.sus.length e2)
   have hX7 : Bx ((((V3.setCell ⟨w.heap.size,1,none⟩ (.slice a r.txt.length cc)).setCell ⟨w.heap.size,2,none⟩ (.slice a1 r.got.length e1)).setCell ⟨w.heap.size,3,none⟩ (.slice a2 r.sus.length e2)).setCell ⟨w.heap.size,7,none⟩ (.slice a3 r.trm.length e3)) w.heap.size 37 #[.int .i64 r.ver,.slice a r.txt.length cc,.slice a1 r.got.length e1,.slice a2 r.sus.length e2,.bool r.wed,.bool r.rdy,.int .i64 r.by_,.slice a3 r.trm.length e3] := by simpa using hX6.setC 7 (.slice a3 r.trm.length e3)
   have hs3 := hbV3.size
   have hs12 := b2.size
   have hs23 := b3.size
   have hs2 := hbV2.size
   have hs1 := hbV1.size
   have hW7 : Wrt (fun x => x = w.heap.size) V3 ((((V3.setCell ⟨w.heap.size,1,none⟩ (.slice a r.txt.length cc)).setCell ⟨w.heap.size,2,none⟩ (.slice a1 r.got.length e1)).setCell ⟨w.heap.size,3,none⟩ (.slice a2 r.sus.length e2)).setCell ⟨w.heap.size,7,none⟩ (.slice a3 r.trm.length e3)) := (((Wrt.set V3 w.heap.size 1 _).trans (Wrt.set _ w.heap.size 2 _) (fun _ _ h => h)).trans (Wrt.set _ w.heap.size 3 _) (fun _ _ h => h)).trans (Wrt.set _ w.heap.size 7 _) (fun _ _ h => h)
   have hR3 : Bx V3 (w.heap.size + 1) 37 #[.int .i64 0,.slice none 0 0,.slice none 0 0,.slice none 0 0,.bool false,.bool false,.int .i64 0,.slice none 0 0] := HY2.out.below hbV3
   have HNe : Hid (∀ X : World,X.cell? ⟨w.heap.size,2,none⟩ = some (.slice a1 r.got.length e1) → ¬ (X.cell? ⟨w.heap.size,2,none⟩ = some (.slice A.ga r.got.length A.gc) ∧ X.cell? ⟨w.heap.size,3,none⟩ = some (.slice A.sa r.sus.length A.sc) ∧ X.cell? ⟨w.heap.size,7,none⟩ = some (.slice A.ma r.trm.length A.mc))) := fun X h hk => by
    have e := Option.some.inj (h.symm.trans hk.1)
    obtain ⟨g1,q1,k1,e',hf1,_⟩ := ow_int_set o1 hg
    obtain ⟨gb,go,hga,hlt⟩ := HGa.out
    rw [hga] at e
    rw [e] at e'
    cases e'
    have := p1 _ hf1
    have hd : wr.drew.heap.size = wr.heap.size := rfl
    omega
   have HFin : Hid (Bx ((((V3.setCell ⟨w.heap.size,1,none⟩ (.slice a r.txt.length cc)).setCell ⟨w.heap.size,2,none⟩ (.slice a1 r.got.length e1)).setCell ⟨w.heap.size,3,none⟩ (.slice a2 r.sus.length e2)).setCell ⟨w.heap.size,7,none⟩ (.slice a3 r.trm.length e3)) w.heap.size 37 #[.int .i64 r.ver,.slice a r.txt.length cc,.slice a1 r.got.length e1,.slice a2 r.sus.length e2,.bool r.wed,.bool r.rdy,.int .i64 r.by_,.slice a3 r.trm.length e3] ∧ Bx ((((V3.setCell ⟨w.heap.size,1,none⟩ (.slice a r.txt.length cc)).setCell ⟨w.heap.size,2,none⟩ (.slice a1 r.got.length e1)).setCell ⟨w.heap.size,3,none⟩ (.slice a2 r.sus.length e2)).setCell ⟨w.heap.size,7,none⟩ (.slice a3 r.trm.length e3)) (w.heap.size + 1) 37 #[.int .i64 0,.slice none 0 0,.slice none 0 0,.slice none 0 0,.bool false,.bool false,.int .i64 0,.slice none 0 0] ∧ ∃ f,owL ((((V3.setCell ⟨w.heap.size,1,none⟩ (.slice a r.txt.length cc)).setCell ⟨w.heap.size,2,none⟩ (.slice a1 r.got.length e1)).setCell ⟨w.heap.size,3,none⟩ (.slice a2 r.sus.length e2)).setCell ⟨w.heap.size,7,none⟩ (.slice a3 r.trm.length e3)) (rwCels r) (rwVals ⟨a,cc,a1,e1,a2,e2,a3,e3⟩ r) f ∧ (∀ b,f b → w.heap.size + 1 + 1 ≤ b) ∧ Below w.heap.size w ((((V3.setCell ⟨w.heap.size,1,none⟩ (.slice a r.txt.length cc)).setCell ⟨w.heap.size,2,none⟩ (.slice a1 r.got.length e1)).setCell ⟨w.heap.size,3,none⟩ (.slice a2 r.sus.length e2)).setCell ⟨w.heap.size,7,none⟩ (.slice a3 r.trm.length e3))) := by
    have hd : wr.drew.heap.size = wr.heap.size := rfl
    have q0 : Cel.ow V3 (scl r.txt) (.slice a r.txt.length cc) fz := Cel.ow_below HO.out hbV3
    have q1 : Cel.ow V3 (icl r.got) (.slice a1 r.got.length e1) f1 := Cel.ow_below (Cel.ow_below o1 b2) b3
    have q2 : Cel.ow V3 (icl r.sus) (.slice a2 r.sus.length e2) f2 := Cel.ow_below o2 b3
    have l0 := Cel.ow_lt HO.out
    have l1 := Cel.ow_lt o1
    have l2 := Cel.ow_lt o2
    have hall : ∀ b,(fz b ∨ f1 b ∨ f2 b ∨ f3 b) → w.heap.size + 1 + 1 ≤ b := by
     rintro b (k | k | k | k)
     ·exact hfz b k
     ·have := p1 b k;omega
     ·have := p2 b k;omega
     ·have := p3 b k;omega
    have hL := owL4 q0 q1 q2 o3 (fun b k k' => by
     have := l0 b k
     rcases k' with k' | k' | k'
     ·have := p1 b k';omega
     ·have := p2 b k';omega
     ·have := p3 b k';omega) (fun b k k' => by
     have := l1 b k
     rcases k' with k' | k'
     ·have := p2 b k';omega
     ·have := p3 b k';omega) (fun b k k' => by
     have := l2 b k
     have := p3 b k'
     omega)
    have hB3 : Below w.heap.size w V3 := HB.out.trans (hbV3.mono HB.out.size)
    exact ⟨hX7,hR3.wrt hW7 (fun e => by omega),_,owL_wrt hL hW7 (fun b hb e => by have := hall b hb;omega),hall,hW7.below hB3 hB3.size (fun b e => by omega)⟩
   have x1 := hX3.at 1 (v := .slice A.ta r.txt.length A.tc) rfl
   have y1 := hX3.f 1
   have x2 := hX4.at 2 (v := .slice A.ga r.got.length A.gc) rfl
   have y2 := hX4.f 2
   have x3 := hX5.at 3 (v := .slice A.sa r.sus.length A.sc) rfl
   have y3 := hX5.f 3
   have x7 := hX6.at 7 (v := .slice A.ma r.trm.length A.mc) rfl
   have y7 := hX6.f 7
   have n5 := HNe.out _ (hX5.at 2 (v := .slice a1 r.got.length e1) rfl)
   have n6 := HNe.out _ (hX6.at 2 (v := .slice a1 r.got.length e1) rfl)
   have k4 : (V3.setCell ⟨w.heap.size,1,none⟩ (.slice a r.txt.length cc)).cell? ⟨w.heap.size,2,none⟩ = some (.slice A.ga r.got.length A.gc) ∧ (V3.setCell ⟨w.heap.size,1,none⟩ (.slice a r.txt.length cc)).cell? ⟨w.heap.size,3,none⟩ = some (.slice A.sa r.sus.length A.sc) ∧ (V3.setCell ⟨w.heap.size,1,none⟩ (.slice a r.txt.length cc)).cell? ⟨w.heap.size,7,none⟩ = some (.slice A.ma r.trm.length A.mc) := ⟨x2,hX4.at 3 (v := .slice A.sa r.sus.length A.sc) rfl,hX4.at 7 (v := .slice A.ma r.trm.length A.mc) rfl⟩
   clear o1 o2 o3 p1 p2 p3 b1 b2 b3 hX3 hX4 hX5 hX6 hX7 hW7 hR3 HNe HY1 HY2 HC2 HC3 hbV1 hbV2 hbV3 hbd KS HGa
   refine gt_one (i := 11) rfl (by kernel_rfl) (by kernel_rfl) (fun K hK => ?_)
   go_simp
   refine hK.out _ _ k4 (fun hHeldN => ?_)
   clear hK hHeld
   have hHeld := hHeldN
   try simp only [Act.put,List.setIfInBounds_toArray,List.set_cons_zero,List.set_cons_succ]
   refine gt_pure (i := 12) (v := ?_) rfl (by kernel_rfl) (by kernel_rfl) (by kernel_rfl) (fun _ _ _ h => h) (Or.inl ⟨by rfl, ?_⟩) ?_
   rotate_left
   ·(intro X;go_simp;try with_reducible rfl)
   try simp only [Act.put,List.setIfInBounds_toArray,List.set_cons_zero,List.set_cons_succ]
   refine gt_oneZ rfl (by kernel_rfl) (fun K hK => ?_)
   go_simp
   refine hK.out _ _ ?_
   try simp only [Act.put,List.setIfInBounds_toArray,List.set_cons_zero,List.set_cons_succ]
   refine gt_pure (i := 14) (v := ?_) rfl (by kernel_rfl) (by kernel_rfl) (by kernel_rfl) (fun _ _ _ h => h) (Or.inl ⟨by rfl, ?_⟩) ?_
   rotate_left
   ·(intro X;go_simp;try with_reducible rfl)
   try simp only [Act.put,List.setIfInBounds_toArray,List.set_cons_zero,List.set_cons_succ]
   refine gt_oneN (i := 15) n5 rfl (by kernel_rfl) (fun K hK => ?_)
   go_simp
   refine hK.out _ _ ?_
   try simp only [Act.put,List.setIfInBounds_toArray,List.set_cons_zero,List.set_cons_succ]
   refine gt_pure (i := 16) (v := ?_) rfl (by kernel_rfl) (by kernel_rfl) (by kernel_rfl) (fun _ _ _ h => h) (Or.inl ⟨by rfl, ?_⟩) ?_
   rotate_left
   ·(intro X;go_simp;try with_reducible rfl)
   try simp only [Act.put,List.setIfInBounds_toArray,List.set_cons_zero,List.set_cons_succ]
   refine gt_oneN (i := 17) n6 rfl (by kernel_rfl) (fun K hK => ?_)
   go_simp
   refine hK.out _ _ ?_
   try simp only [Act.put,List.setIfInBounds_toArray,List.set_cons_zero,List.set_cons_succ]
   refine gt_end (by kernel_rfl) ?_
   clear hHeld x1 x2 x3 x7 y1 y2 y3 y7 n5 n6 k4
   obtain ⟨hX7,hR7,f,hL7,hf7,hB7⟩ := HFin.out
   generalize (((V3.setCell ⟨w.heap.size,1,none⟩ (.slice a r.txt.length cc)).setCell ⟨w.heap.size,2,none⟩ (.slice a1 r.got.length e1)).setCell ⟨w.heap.size,3,none⟩ (.slice a2 r.sus.length e2)).setCell ⟨w.heap.size,7,none⟩ (.slice a3 r.trm.length e3) = W7 at *
   have HN : Hid (∀ {z0 z1 z2 z3 z4 z5 z6 z7 : Value},NewL w ((((((((W7.setCell ⟨w.heap.size + 1,0,none⟩ z0).setCell ⟨w.heap.size + 1,1,none⟩ z1).setCell ⟨w.heap.size + 1,2,none⟩ z2).setCell ⟨w.heap.size + 1,3,none⟩ z3).setCell ⟨w.heap.size + 1,4,none⟩ z4).setCell ⟨w.heap.size + 1,5,none⟩ z5).setCell ⟨w.heap.size + 1,6,none⟩ z6).setCell ⟨w.heap.size + 1,7,none⟩ z7) (rwCels r) (rwVals ⟨a,cc,a1,e1,a2,e2,a3,e3⟩ r)) := fun {z0 z1 z2 z3 z4 z5 z6 z7} => ⟨f,owL_wrt hL7 (wrt8 W7 (w.heap.size + 1)) (fun b hb e => by have := hf7 b hb;omega),fun b hb => by have := hf7 b hb;omega,(wrt8 W7 (w.heap.size + 1)).below hB7 hB7.size (fun b e => by omega)⟩
   obtain ⟨⟨x0,x1,x2,x3⟩,x4,x5,x6,x7⟩ := Bx.r8 hX7
   obtain ⟨⟨z0,z1,z2,z3⟩,z4,z5,z6,z7⟩ := Bx.r8 hR7
   obtain ⟨⟨f0,f1',f2',f3'⟩,f4,f5,f6,f7⟩ := hR7.f8
   clear HFin hX7 hR7 hL7 hf7 hB7
   go_wp2
   refine bodyPost_ret (v := rwV ⟨a,cc,a1,e1,a2,e2,a3,e3⟩ r) (by simp [results,Tryz.results126,go_sem,rwV,rwC, *]) rfl ?_
   exact ⟨_,rfl,HN.out⟩
end Go.Proofs.YthioodpmgifomaaGreat