/-
  Texts in one: Mda Mdb Mdc Mdd Rzl Mde Hrs Mdf.
-/
import Derived.Test.YtidnfdobljihoaaGreatJak
import Derived.Test.YtidnfdobljihoaaGreatJaj
import Derived.Test.YtidnfdobljihoaaGreatJae
import Derived.Test.YtidnfdobljihoaaGreatJac
import Derived.Test.YtidnfdobljihoaaGreatJaa
import Derived.Deep.CutRange
namespace Go.Proofs.YtidnfdobljihoaaGreat
set_option linter.unusedVariables false
set_option linter.unusedSimpArgs false
open Go.RowKit Go.Sort
structure MD (w X Y : World) (p : Nat) (a : Option Addr) (len cap : Nat) (bs : Nat → Int) (o : Nat) (m : Mb) (fp : Fp) : Prop where
 cc : Cc w Y p a len cap bs
 res : Bx Y X.heap.size 27 #[.int .i64 0,.int .i64 0,.slice none 0 0,.slice none 0 0,.bool false]
 plc : Plc Y o 0 (mb5 m) fp
 fpl : ∀ b,fp b → X.heap.size < b
 hpo : p < X.heap.size
 ho : X.heap.size < o
 gr : X.grownBy Y (some p)
section
variable {w X Y Y' : World} {p : Nat} {a : Option Addr} {len cap : Nat} {bs : Nat → Int} {o : Nat} {m m' : Mb} {fp : Fp}
theorem MD.lt (h : MD w X Y p a len cap bs o m fp) : w.heap.size ≤ X.heap.size := by have := h.cc.hp;have := h.hpo;omega
theorem MD.drawn (h : MD w X Y p a len cap bs o m fp) (hg : Y.grownBy Y' (some p)) (hc : Cc w Y' p a len cap bs) : MD w X Y' p a len cap bs o m fp := by
 have h1 := h.hpo
 have h2 := h.ho
 exact ⟨hc,h.res.grown hg (by simp;omega),h.plc.wrt (Wrt.of_grown hg) (fun b hb e => by cases e;rcases hb with hb | hb;have := h.fpl _ hb;omega;omega),h.fpl,h1,h2,grown_trans h.gr hg⟩
theorem MD.step (h : MD w X Y p a len cap bs o m fp) (hb : Below Y.heap.size Y Y') : MD w X Y' p a len cap bs o m fp :=
 ⟨h.cc.step hb,h.res.below hb,h.plc.below hb,h.fpl,h.hpo,h.ho,grown_trans h.gr ⟨hb.os,hb.tape,hb.output,hb.size,fun x hx _ => hb.block x hx⟩⟩
theorem MD.act (h : MD w X Y p a len cap bs o m fp) (hb : Bcm Y Y' o 0 (mb5 m') fp) : ∃ fp',MD w X Y' p a len cap bs o m' fp' := by
 have h1 := h.hpo
 have h2 := h.ho
 have h3 := h.lt
 obtain ⟨fp1,hp,hf,_⟩ := hb.next
 have hs := h.gr.size
 have hw : ∀ b,(fp b ∨ b = o) → X.heap.size < b := fun b hb => by rcases hb with hb | hb;exact h.fpl b hb;omega
 exact ⟨fp1,h.cc.wrt hb.wrt (fun k => by have := hw p k;omega) (fun b k => by have := hw b k;omega),h.res.wrt hb.wrt (fun k => by have := hw _ k;omega),hp,fun b hb => by rcases hf b hb with k | k;exact h.fpl b k;have := h.res.lt;omega,h1,h2,grown_wrt h.gr hb.wrt (fun b k => by have := hw b k;omega)⟩
theorem MD.far (h : MD w X Y p a len cap bs o m fp) {f : Fp} (hw : Wrt f Y Y') (hd : ∀ b,f b → X.heap.size < b ∧ b ≠ o ∧ ¬ fp b) : MD w X Y' p a len cap bs o m fp := by
 have h1 := h.hpo
 have h2 := h.ho
 have h3 := h.lt
 exact ⟨h.cc.wrt hw (fun k => by have := (hd p k).1;omega) (fun b k => by have := (hd b k).1;omega),h.res.wrt hw (fun k => by have := (hd _ k).1;omega),h.plc.wrt hw (fun b hb k => by rcases hb with hb | hb;exact (hd b k).2.2 hb;exact (hd b k).2.1 hb),h.fpl,h1,h2,grown_wrt h.gr hw (fun b k => by have := (hd b k).1;omega)⟩
end
def AnsDm (w X X' : World) (p : Nat) (a : Option Addr) (len cap : Nat) (bs : Nat → Int) (e : Ending) (m : Mb) : Prop := ∃ (A : Ma) (fp : Fp),e = .returned (mbV A m) ∧ owL X' (mbCels m) (mbVals A m) fp ∧ (∀ b,fp b → X.heap.size ≤ b) ∧ Cc w X' p a len cap bs ∧ X.grownBy X' (some p)
def Vb (m : Mb) (q : Int) : Prop := ∀ r ∈ m.rows,r.ver ≤ q
theorem Vb.mono {m : Mb} {p q : Int} (h : Vb m p) (hq : p ≤ q) : Vb m q := fun r hr => Int.le_trans (h r hr) hq
theorem Vb.row {m : Mb} {q : Int} (h : Vb m q) (hq : 0 ≤ q) (j : Nat) : (rowN m.rows j).ver ≤ q := by
 rcases Nat.lt_or_ge j m.rows.length with hj | hj
 ·exact h _ (List.mem_of_getElem? (rowN_at hj))
 ·unfold rowN
  rw [List.getD_eq_getElem?_getD,List.getElem?_eq_none hj]
  exact hq
theorem Vb.set {m m' : Mb} {q : Int} {j : Nat} {r : Rw} (h : Vb m q) (e : m'.rows = m.rows.set j r) (hr : r.ver ≤ q + 1) : Vb m' (q + 1) := fun x hx => by
 rw [e] at hx
 rcases List.mem_or_eq_of_mem_set hx with k | k
 ·have := h x k;omega
 ·rw [k];exact hr
theorem vb_say {m : Mb} {q : Int} (h : Vb m q) (hq : 0 ≤ q) (t : List UInt8) : Vb (sayMb m t).1 (q + 1) := by
 unfold sayMb
 split
 ·exact h.mono (by omega)
 ·exact h.set rfl (by have := h.row hq m.i;simp only [Mb.own];omega)
theorem vb_doubt {m : Mb} {q : Int} (h : Vb m q) (hq : 0 ≤ q) (who : Int) : Vb (doubtMb m who).1 (q + 1) := by
 unfold doubtMb
 split
 ·exact h.mono (by omega)
 ·exact h.set rfl (by have := h.row hq m.i;simp only [Mb.own];omega)
theorem vb_heard {m : Mb} {q : Int} (h : Vb m q) {r : Rw} (hr : r.ver ≤ q + 1) (fr : Int) : Vb (heardMb m fr r).1 (q + 1) := by
 unfold heardMb
 split
 ·exact h.mono (by omega)
 ·exact h.set rfl hr
theorem vb_step {m : Mb} {i n : Nat} (ok : OkM m i n) {q : Int} (h : Vb m q) (hq : 0 ≤ q) : Vb (stepMb m) (q + 1) := by
 unfold stepMb
 split
 ·exact h.mono (by omega)
 ·rename_i hn
  refine h.set rfl ?_
  have S := step_stg ok (by cases e : m.done with | false => rfl | true => exact absurd (.inl e) hn)
  have := h.row hq i
  have hv := S.ver
  rw [S.e5]
  split
  ·omega
  ·simp only;omega
theorem vb_new (i n : Int) : Vb (newMb i n).1 0 := by
 unfold newMb
 split
 ·intro r hr
  rw [(List.mem_replicate.1 hr).2]
  unfold newRw
  split <;> exact Int.le_refl _
 ·exact fun r hr => absurd hr List.not_mem_nil
attribute [local irreducible] sv
set_option maxRecDepth 100000 in
set_option maxHeartbeats 6400000 in
theorem drawMb_any {w X : World} {p : Nat} {a : Option Addr} {len cap : Nat} {bs : Nat → Int} (h : Cc w X p a len cap bs) :
  Calls Tryz.prog 138 #[.pointer (some ⟨p,0,none⟩)] X fun e X' => ∃ m,((∃ i n,OkM m i n) ∧ Vb m 13) ∧ AnsDm w X X' p a len cap bs e m := by
 have hpX := h.lt
 have hwp := h.hp
 have b0 := oneA16 X (.cells #[.int .i64 0,.int .i64 0,.slice none 0 0,.slice none 0 0,.bool false] 27)
 have HR0 : Hid (Bx (X.alloc (.cells #[.int .i64 0,.int .i64 0,.slice none 0 0,.slice none 0 0,.bool false] 27)) X.heap.size 27 #[.int .i64 0,.int .i64 0,.slice none 0 0,.slice none 0 0,.bool false]) := Bx.new X _ _
 have HC0 : Hid (Cc w (X.alloc (.cells #[.int .i64 0,.int .i64 0,.slice none 0 0,.slice none 0 0,.bool false] 27)) p a len cap bs) := h.step b0
 have HG0 : Hid (X.grownBy (X.alloc (.cells #[.int .i64 0,.int .i64 0,.slice none 0 0,.slice none 0 0,.bool false] 27)) (some p)) := ⟨b0.os,b0.tape,b0.output,b0.size,fun x hx _ => b0.block x hx⟩
 clear h b0
 generalize hWW : X.alloc (.cells #[.int .i64 0,.int .i64 0,.slice none 0 0,.slice none 0 0,.bool false] 27) = W0 at *
 go_enter Tryz.func138,Tryz.ntmps138
 go_wp2_with fail
 refine (belowC 4 4 rfl HC0.out (by omega) (by omega)).mono ?_
 rintro e W1 ⟨y,rfl,hy,c1,g1⟩
 obtain ⟨n,hn⟩ : ∃ n : Nat,Hid (n = 1 + y) := ⟨_,rfl⟩
 have hn5 : 1 ≤ n ∧ n ≤ 4 := by have := hn.out;omega
 have en : (1 : Int) + (y : Int) = (n : Int) := by have := hn.out;omega
 have HC1 : Hid (Cc w W1 p a len cap bs) := c1
 have HG1 : Hid (X.grownBy W1 (some p)) := grown_trans HG0.out g1
 have HR1 : Hid (Bx W1 X.heap.size 27 #[.int .i64 0,.int .i64 0,.slice none 0 0,.slice none 0 0,.bool false]) := HR0.out.grown g1 (by simp;omega)
 have hB2 := belowC n (n : Int) rfl c1 (by omega) (by omega)
 clear c1 g1 HR0 HC0 HG0
 go_wp2_with fail
 rw [en] at *
 clear en
 refine hB2.mono ?_
 rintro e W2 ⟨i,rfl,hi,c2,g2⟩
 have HC2 : Hid (Cc w W2 p a len cap bs) := c2
 have HG2 : Hid (X.grownBy W2 (some p)) := grown_trans HG1.out g2
 have HR2 : Hid (Bx W2 X.heap.size 27 #[.int .i64 0,.int .i64 0,.slice none 0 0,.slice none 0 0,.bool false]) := HR1.out.grown g2 (by simp;omega)
 have hN := nmbS_any (i : Int) (n : Int) W2
 clear hB2 c2 g2 HR1 HC1 HG1
 go_wp2_with fail
 refine hN.mono ?_
 rintro e W3 ⟨A,rfl,f0,hl,hf0,hb3⟩
 have hnew : (newMb (i : Int) (n : Int)).2 = true ∧ (newMb (i : Int) (n : Int)).1.id = (i : Int) ∧ (newMb (i : Int) (n : Int)).1.n = (n : Int) := by
  unfold newMb
  rw [if_pos ⟨inB7.2 (by omega),inB7.2 (by omega)⟩]
  exact ⟨rfl,rfl,rfl⟩
 have hok0 : OkM (newMb (i : Int) (n : Int)).1 i n := by
  obtain ⟨i',n',ok⟩ := okMb_iff.1 (new_okM hnew.1)
  have e1 : i' = i := by have := ok.hid;rw [hnew.2.1] at this;omega
  have e2 : n' = n := by have := ok.hn;rw [hnew.2.2] at this;omega
  rw [e1,e2] at ok
  exact ok
 have HVb : Hid (Vb (newMb (i : Int) (n : Int)).1 0) := vb_new _ _
 generalize hb0 : (newMb (i : Int) (n : Int)).2 = bb0 at *
 generalize hm0 : (newMb (i : Int) (n : Int)).1 = m0 at *
 clear hnew hb0 hm0 hN
 have hba := oneA16 W3 (.cells #[.int .i64 m0.id,.int .i64 m0.n,.slice A.ra m0.rows.length A.rc,.slice A.sa m0.sung.length A.sc,.bool m0.done] 27)
 have hxb := Bx.new W3 27 #[.int .i64 m0.id,.int .i64 m0.n,.slice A.ra m0.rows.length A.rc,.slice A.sa m0.sung.length A.sc,.bool m0.done]
 have hW23 := hb3.size
 have hXW := HG2.out.size
 have hrl := HR2.out.lt
 have hfl := owL_lt hl
 have HM : Hid (MD w X (W3.alloc (.cells #[.int .i64 m0.id,.int .i64 m0.n,.slice A.ra m0.rows.length A.rc,.slice A.sa m0.sung.length A.sc,.bool m0.done] 27)) p a len cap bs W3.heap.size m0 f0) := by
  refine ⟨(HC2.out.step hb3).step hba,(HR2.out.below hb3).below hba,box_plc hxb (owL_below hl hba) (fun k => by have := hfl _ k;omega),fun b hb => by have := hf0 b hb;omega,hpX,by omega, ?_⟩
  have hg1 : W2.grownBy W3 (some p) := ⟨hb3.os,hb3.tape,hb3.output,hb3.size,fun x hx _ => hb3.block x hx⟩
  have hg2 : W3.grownBy (W3.alloc (.cells #[.int .i64 m0.id,.int .i64 m0.n,.slice A.ra m0.rows.length A.rc,.slice A.sa m0.sung.length A.sc,.bool m0.done] 27)) (some p) := ⟨hba.os,hba.tape,hba.output,hba.size,fun x hx _ => hba.block x hx⟩
  exact grown_trans (grown_trans HG2.out hg1) hg2
 have HOk : Hid (OkM m0 i n) := hok0
 unfold mbV mbC
 clear hl hf0 hb3 hba hxb hok0 HR2 HC2 HG2 hfl
 go_wp2_with fail
 generalize W3.alloc (.cells #[.int .i64 m0.id,.int .i64 m0.n,.slice A.ra m0.rows.length A.rc,.slice A.sa m0.sung.length A.sc,.bool m0.done] 27) = W4 at *
 generalize W3.heap.size = o at *
 refine (belowC 14 14 rfl HM.out.cc (by omega) (by omega)).mono ?_
 rintro e W5 ⟨K,rfl,hK,c5,g5⟩
 have HM5 : Hid (MD w X W5 p a len cap bs o m0 f0) := HM.out.drawn g5 c5
 clear c5 g5 HM
 go_wp2_with fail
 go_loopw [6] (fun v wr => ∃ (k : Nat) (m : Mb) (fp : Fp),k ≤ 13 ∧ v = .int .i64 (k : Int) ∧ OkM m i n ∧ Vb m (13 - (k : Int)) ∧ MD w X wr p a len cap bs o m fp) (fun v _ => (intOf v).toNat)
 case atStart => exact ⟨K,m0,f0,by omega,rfl,HOk.out,HVb.out.mono (by omega),HM5.out⟩
 case round =>
  obtain ⟨k,m,fp,hk,rfl,ok,hvb0,hM⟩ := hrel
  have HV : Hid (Vb m (13 - (k : Int))) := hvb0
  have HQ : Hid (0 ≤ 13 - (k : Int)) := (by omega : 0 ≤ 13 - (k : Int))
  clear hvb0
  have HM : Hid (MD w X wr p a len cap bs o m fp) := hM
  have HO : Hid (OkM m i n) := ok
  clear hM ok HM5 HOk
  by_cases hk0 : 0 < k
  ·have k1 : (0 : Int) < (k : Int) := by omega
   have wk : wrap64 ((k : Int) - 1) = ((k - 1 : Nat) : Int) := by unfold wrap64;omega
   have HF : Hid (∀ (Y : World) (m' : Mb) (fp' : Fp),OkM m' i n → Vb m' (13 - (k : Int) + 1) → MD w X Y p a len cap bs o m' fp' → ∃ (k' : Nat) (m : Mb) (fp : Fp),k' ≤ 13 ∧ (Value.int .i64 ((k : Int) - 1)) = .int .i64 (k' : Int) ∧ OkM m i n ∧ Vb m (13 - (k' : Int)) ∧ MD w X Y p a len cap bs o m fp) := fun Y m' fp' h1 hq h2 => ⟨k - 1,m',fp',by omega,by congr 1;omega,h1,hq.mono (by omega),h2⟩
   clear wk
   have hB6 := belowC 6 6 rfl HM.out.cc (by omega) (by omega)
   go_wp2_with fail
   refine hB6.mono ?_
   rintro e Y1 ⟨y,rfl,hy6,c6,g6⟩
   have HM1 : Hid (MD w X Y1 p a len cap bs o m fp) := HM.out.drawn g6 c6
   clear c6 g6 hB6 HM
   have hys : y = 0 ∨ y = 1 ∨ y = 2 ∨ y = 3 ∨ y = 4 ∨ y = 5 := by omega
   rcases hys with rfl | rfl | rfl | rfl | rfl | rfl
   ·have hT := textR 3 3 rfl (by omega) HM1.out.cc
    go_wp2_with fail
    refine hT.mono ?_
    rintro e Y2 ⟨t,rfl,ht,c7,g7⟩
    have HM2 : Hid (MD w X Y2 p a len cap bs o m fp) := HM1.out.drawn g7 c7
    have hS := saySp_any o 0 m i n t fp Y2 HM2.out.plc HO.out (by omega)
    clear hT c7 g7 HM1
    go_wp2_with fail
    refine hS.mono ?_
    rintro e Y3 ⟨rfl,hBc⟩
    obtain ⟨fp3,h3⟩ := HM2.out.act hBc
    have HE : Hid _ := HF.out Y3 _ fp3 (say_loc HO.out t).1 (vb_say HV.out HQ.out t) h3
    clear hS hBc h3 HM2 HF
    generalize (sayMb m t).2 = sb at *
    go_wp2
    go_roundw
    case rel => exact HE.out
    case measure => simp [intOf];omega
   ·have hT := textR 3 3 rfl (by omega) HM1.out.cc
    go_wp2_with fail
    refine hT.mono ?_
    rintro e Y2 ⟨t,rfl,ht,c7,g7⟩
    have HM2 : Hid (MD w X Y2 p a len cap bs o m fp) := HM1.out.drawn g7 c7
    have hS := saySp_any o 0 m i n t fp Y2 HM2.out.plc HO.out (by omega)
    clear hT c7 g7 HM1
    go_wp2_with fail
    refine hS.mono ?_
    rintro e Y3 ⟨rfl,hBc⟩
    obtain ⟨fp3,h3⟩ := HM2.out.act hBc
    have HE : Hid _ := HF.out Y3 _ fp3 (say_loc HO.out t).1 (vb_say HV.out HQ.out t) h3
    clear hS hBc h3 HM2 HF
    generalize (sayMb m t).2 = sb at *
    go_wp2
    go_roundw
    case rel => exact HE.out
    case measure => simp [intOf];omega
   ·have hO := onceC 3 HM1.out.cc (by omega)
    go_wp2_with fail
    refine hO.mono ?_
    rintro e Y2 ⟨t,rfl,c7,g7⟩
    have HM2 : Hid (MD w X Y2 p a len cap bs o m fp) := HM1.out.drawn g7 c7
    clear hO c7 g7 HM1
    cases t with
    | false =>
     have HE : Hid _ := HF.out Y2 m fp HO.out (HV.out.mono (by omega)) HM2.out
     clear HF HM2
     go_wp2
     go_roundw
     case rel => exact HE.out
     case measure => simp [intOf];omega
    | true =>
     have hB7 := belowC n (n : Int) rfl HM2.out.cc (by omega) (by omega)
     go_wp2_with fail
     refine hB7.mono ?_
     rintro e Y3 ⟨who,rfl,hwho,c8,g8⟩
     have HM3 : Hid (MD w X Y3 p a len cap bs o m fp) := HM2.out.drawn g8 c8
     have hS := dbtSp_any o 0 m i n (who : Int) fp Y3 HM3.out.plc HO.out
     clear hB7 c8 g8 HM2
     go_wp2_with fail
     refine hS.mono ?_
     rintro e Y4 ⟨rfl,hBc⟩
     obtain ⟨fp3,h3⟩ := HM3.out.act hBc
     have HE : Hid _ := HF.out Y4 _ fp3 (doubt_loc HO.out (who : Int)).1 (vb_doubt HV.out HQ.out (who : Int)) h3
     clear hS hBc h3 HM3 HF
     generalize (doubtMb m (who : Int)).2 = sb at *
     go_wp2
     go_roundw
     case rel => exact HE.out
     case measure => simp [intOf];omega
   ·have hD := drawRw_any n (n : Int) rfl (by omega) HM1.out.cc
    go_wp2_with fail
    refine hD.mono ?_
    rintro e Y2 ⟨Ar,r,fr,rfl,hSr,hlr,hfr,c7,g7⟩
    have HM2 : Hid (MD w X Y2 p a len cap bs o m fp) := HM1.out.drawn g7 c7
    have hlrt := owL_lt hlr
    have hr2 := HM2.out.plc.lt
    have HFP2 : Hid (∀ b,fp b → b < Y2.heap.size) := HM2.out.plc.flt
    have HXY : Hid (X.heap.size < Y2.heap.size) := HM2.out.res.lt
    have hba := oneA16 Y2 (.cells #[.int .i64 r.ver,.slice Ar.ta r.txt.length Ar.tc,.slice Ar.ga r.got.length Ar.gc,.slice Ar.sa r.sus.length Ar.sc,.bool r.wed,.bool r.rdy,.int .i64 r.by_,.slice Ar.ma r.trm.length Ar.mc] 37)
    have hxr := Bx.new Y2 37 #[.int .i64 r.ver,.slice Ar.ta r.txt.length Ar.tc,.slice Ar.ga r.got.length Ar.gc,.slice Ar.sa r.sus.length Ar.sc,.bool r.wed,.bool r.rdy,.int .i64 r.by_,.slice Ar.ma r.trm.length Ar.mc]
    have HX3 : Hid (Bx (Y2.alloc (.cells #[.int .i64 r.ver,.slice Ar.ta r.txt.length Ar.tc,.slice Ar.ga r.got.length Ar.gc,.slice Ar.sa r.sus.length Ar.sc,.bool r.wed,.bool r.rdy,.int .i64 r.by_,.slice Ar.ma r.trm.length Ar.mc] 37)) Y2.heap.size 37 #[.int .i64 r.ver,.slice Ar.ta r.txt.length Ar.tc,.slice Ar.ga r.got.length Ar.gc,.slice Ar.sa r.sus.length Ar.sc,.bool r.wed,.bool r.rdy,.int .i64 r.by_,.slice Ar.ma r.trm.length Ar.mc]) := hxr
    have HM3 : Hid (MD w X (Y2.alloc (.cells #[.int .i64 r.ver,.slice Ar.ta r.txt.length Ar.tc,.slice Ar.ga r.got.length Ar.gc,.slice Ar.sa r.sus.length Ar.sc,.bool r.wed,.bool r.rdy,.int .i64 r.by_,.slice Ar.ma r.trm.length Ar.mc] 37)) p a len cap bs o m fp) := HM2.out.step hba
    have HL3 : Hid (owL (Y2.alloc (.cells #[.int .i64 r.ver,.slice Ar.ta r.txt.length Ar.tc,.slice Ar.ga r.got.length Ar.gc,.slice Ar.sa r.sus.length Ar.sc,.bool r.wed,.bool r.rdy,.int .i64 r.by_,.slice Ar.ma r.trm.length Ar.mc] 37)) (rwCels r) (rwVals Ar r) fr) := owL_below hlr hba
    have HSr : Hid (SmR r) := hSr
    have hY12 := g7.size
    have HFr : Hid (∀ b,fr b → p < b) := fun b hb => by have := hfr b hb;have := HM1.out.cc.lt;omega
    have hB7 := belowC n (n : Int) rfl HM3.out.cc (by omega) (by omega)
    have hoY : o < Y2.heap.size := hr2
    clear hD c7 g7 hba hxr HM2 HM1 hlr hSr hfr hr2
    unfold rwV rwC
    go_wp2_with fail
    refine hB7.mono ?_
    rintro e Y4 ⟨F,rfl,hF,c8,g8⟩
    have HM4 : Hid (MD w X Y4 p a len cap bs o m fp) := HM3.out.drawn g8 c8
    have hpY : p < Y2.heap.size := by have := HM3.out.hpo;have := HM3.out.ho;omega
    have hx4 := HX3.out.grown g8 (by simp;omega)
    have HL4 : Hid (owL Y4 (rwCels r) (rwVals Ar r) fr) := owL_wrt HL3.out (Wrt.of_grown g8) (fun b hb e => by cases e;have := HFr.out _ hb;omega)
    have hFl : F < m.rows.length := by rw [HO.out.len];exact hF
    have hF1 : (F : Int) < (m.rows.length : Int) := by omega
    have hF0 : (0 : Int) ≤ (F : Int) := by omega
    obtain ⟨gg,go,gc,M4⟩ := Mw.start HM4.out.plc (by omega)
    obtain ⟨_,_,v0,_,⟨rfl,_⟩,_⟩ := M4.at hFl (j := 0) (cl := .v (.int .i64 (rowN m.rows F).ver)) rfl
    have d2 := M4.rws
    simp only [Nat.add_zero,Nat.zero_add] at v0 d2
    have hvb := (HO.out.ok F hF).ver
    have wv : wrap64 ((rowN m.rows F).ver + 1) = (rowN m.rows F).ver + 1 := by unfold wrap64;omega
    obtain ⟨⟨x0,x1,x2,x3⟩,x4,x5,x6,x7⟩ := Bx.r8 hx4
    have z0 := hx4.f 0
    have HX5 : Hid (Bx (Y4.setCell ⟨Y2.heap.size,0,none⟩ (.int .i64 ((rowN m.rows F).ver + 1))) Y2.heap.size 37 #[.int .i64 ((rowN m.rows F).ver + 1),.slice Ar.ta r.txt.length Ar.tc,.slice Ar.ga r.got.length Ar.gc,.slice Ar.sa r.sus.length Ar.sc,.bool r.wed,.bool r.rdy,.int .i64 r.by_,.slice Ar.ma r.trm.length Ar.mc]) := by have := hx4.setC 0 (.int .i64 ((rowN m.rows F).ver + 1));rw [Hid];simpa using this
    have hW5 := Wrt.set Y4 Y2.heap.size 0 (.int .i64 ((rowN m.rows F).ver + 1))
    have HM5 : Hid (MD w X (Y4.setCell ⟨Y2.heap.size,0,none⟩ (.int .i64 ((rowN m.rows F).ver + 1))) p a len cap bs o m fp) := HM4.out.far hW5 (fun b k => by have := HXY.out;rw [k];exact ⟨this,by omega,fun k => by have := HFP2.out _ k;omega⟩)
    have HL5 : Hid (owL (Y4.setCell ⟨Y2.heap.size,0,none⟩ (.int .i64 ((rowN m.rows F).ver + 1))) (rwCels r) (rwVals Ar r) fr) := owL_wrt HL4.out hW5 (fun b hb e => by have := hlrt b hb;omega)
    have hrw : RwS (Y4.setCell ⟨Y2.heap.size,0,none⟩ (.int .i64 ((rowN m.rows F).ver + 1))) Ar { r with ver := (rowN m.rows F).ver + 1 } := by
     have := it_rws (owL_it HL5.out (lo := 0) (fun b _ => Nat.zero_le b)) HSr.out.fit HSr.out.sz
     exact ⟨this.txt,this.got,this.sus,this.trm,this.mt,this.mg,this.ms,this.mm⟩
    have hS := hrdSp_any o 0 m i n (F : Int) Ar { r with ver := (rowN m.rows F).ver + 1 } fp _ HM5.out.plc HO.out hrw ⟨by omega,by omega⟩
    unfold rwV rwC at hS
    simp only at hS
    clear hB7 c8 g8 HM4 HX3 HM3 HL3 HL4 M4 hx4 hrw hW5
    go_upto_region 19 with fail
    clear x0 x1 x2 x3 x4 x5 x6 x7 z0 v0 d2
    generalize Y4.setCell ⟨Y2.heap.size,0,none⟩ (.int .i64 ((rowN m.rows F).ver + 1)) = Y5 at *
    obtain ⟨⟨x0,x1,x2,x3⟩,x4,x5,x6,x7⟩ := Bx.r8 HX5.out
    go_wp2_with fail
    refine hS.mono ?_
    rintro e Y6 ⟨rfl,hBc⟩
    obtain ⟨fp3,h3⟩ := HM5.out.act hBc
    have HE : Hid _ := HF.out Y6 _ fp3 (heard_loc HO.out (F : Int) { r with ver := (rowN m.rows F).ver + 1 }).1 (vb_heard HV.out (Int.add_le_add_right (HV.out.row HQ.out F) 1) (F : Int)) h3
    clear hS hBc h3 HM5 HF x0 x1 x2 x3 x4 x5 x6 x7
    generalize (heardMb m (F : Int) { r with ver := (rowN m.rows F).ver + 1 }).2 = sb at *
    go_wp2
    go_roundw
    case rel => exact HE.out
    case measure => simp [intOf];omega
   ·have hD := drawRw_any n (n : Int) rfl (by omega) HM1.out.cc
    go_wp2_with fail
    refine hD.mono ?_
    rintro e Y2 ⟨Ar,r,fr,rfl,hSr,hlr,hfr,c7,g7⟩
    have HM2 : Hid (MD w X Y2 p a len cap bs o m fp) := HM1.out.drawn g7 c7
    have hlrt := owL_lt hlr
    have hr2 := HM2.out.plc.lt
    have HFP2 : Hid (∀ b,fp b → b < Y2.heap.size) := HM2.out.plc.flt
    have HXY : Hid (X.heap.size < Y2.heap.size) := HM2.out.res.lt
    have hba := oneA16 Y2 (.cells #[.int .i64 r.ver,.slice Ar.ta r.txt.length Ar.tc,.slice Ar.ga r.got.length Ar.gc,.slice Ar.sa r.sus.length Ar.sc,.bool r.wed,.bool r.rdy,.int .i64 r.by_,.slice Ar.ma r.trm.length Ar.mc] 37)
    have hxr := Bx.new Y2 37 #[.int .i64 r.ver,.slice Ar.ta r.txt.length Ar.tc,.slice Ar.ga r.got.length Ar.gc,.slice Ar.sa r.sus.length Ar.sc,.bool r.wed,.bool r.rdy,.int .i64 r.by_,.slice Ar.ma r.trm.length Ar.mc]
    have HX3 : Hid (Bx (Y2.alloc (.cells #[.int .i64 r.ver,.slice Ar.ta r.txt.length Ar.tc,.slice Ar.ga r.got.length Ar.gc,.slice Ar.sa r.sus.length Ar.sc,.bool r.wed,.bool r.rdy,.int .i64 r.by_,.slice Ar.ma r.trm.length Ar.mc] 37)) Y2.heap.size 37 #[.int .i64 r.ver,.slice Ar.ta r.txt.length Ar.tc,.slice Ar.ga r.got.length Ar.gc,.slice Ar.sa r.sus.length Ar.sc,.bool r.wed,.bool r.rdy,.int .i64 r.by_,.slice Ar.ma r.trm.length Ar.mc]) := hxr
    have HM3 : Hid (MD w X (Y2.alloc (.cells #[.int .i64 r.ver,.slice Ar.ta r.txt.length Ar.tc,.slice Ar.ga r.got.length Ar.gc,.slice Ar.sa r.sus.length Ar.sc,.bool r.wed,.bool r.rdy,.int .i64 r.by_,.slice Ar.ma r.trm.length Ar.mc] 37)) p a len cap bs o m fp) := HM2.out.step hba
    have HL3 : Hid (owL (Y2.alloc (.cells #[.int .i64 r.ver,.slice Ar.ta r.txt.length Ar.tc,.slice Ar.ga r.got.length Ar.gc,.slice Ar.sa r.sus.length Ar.sc,.bool r.wed,.bool r.rdy,.int .i64 r.by_,.slice Ar.ma r.trm.length Ar.mc] 37)) (rwCels r) (rwVals Ar r) fr) := owL_below hlr hba
    have HSr : Hid (SmR r) := hSr
    have hY12 := g7.size
    have HFr : Hid (∀ b,fr b → p < b) := fun b hb => by have := hfr b hb;have := HM1.out.cc.lt;omega
    have hB7 := belowC n (n : Int) rfl HM3.out.cc (by omega) (by omega)
    have hoY : o < Y2.heap.size := hr2
    clear hD c7 g7 hba hxr HM2 HM1 hlr hSr hfr hr2
    unfold rwV rwC
    go_wp2_with fail
    refine hB7.mono ?_
    rintro e Y4 ⟨F,rfl,hF,c8,g8⟩
    have HM4 : Hid (MD w X Y4 p a len cap bs o m fp) := HM3.out.drawn g8 c8
    have hpY : p < Y2.heap.size := by have := HM3.out.hpo;have := HM3.out.ho;omega
    have hx4 := HX3.out.grown g8 (by simp;omega)
    have HL4 : Hid (owL Y4 (rwCels r) (rwVals Ar r) fr) := owL_wrt HL3.out (Wrt.of_grown g8) (fun b hb e => by cases e;have := HFr.out _ hb;omega)
    have hFl : F < m.rows.length := by rw [HO.out.len];exact hF
    have hF1 : (F : Int) < (m.rows.length : Int) := by omega
    have hF0 : (0 : Int) ≤ (F : Int) := by omega
    obtain ⟨gg,go,gc,M4⟩ := Mw.start HM4.out.plc (by omega)
    obtain ⟨_,_,v0,_,⟨rfl,_⟩,_⟩ := M4.at hFl (j := 0) (cl := .v (.int .i64 (rowN m.rows F).ver)) rfl
    have d2 := M4.rws
    simp only [Nat.add_zero,Nat.zero_add] at v0 d2
    have hvb := (HO.out.ok F hF).ver
    have wv : wrap64 ((rowN m.rows F).ver + 1) = (rowN m.rows F).ver + 1 := by unfold wrap64;omega
    obtain ⟨⟨x0,x1,x2,x3⟩,x4,x5,x6,x7⟩ := Bx.r8 hx4
    have z0 := hx4.f 0
    have HX5 : Hid (Bx (Y4.setCell ⟨Y2.heap.size,0,none⟩ (.int .i64 ((rowN m.rows F).ver + 1))) Y2.heap.size 37 #[.int .i64 ((rowN m.rows F).ver + 1),.slice Ar.ta r.txt.length Ar.tc,.slice Ar.ga r.got.length Ar.gc,.slice Ar.sa r.sus.length Ar.sc,.bool r.wed,.bool r.rdy,.int .i64 r.by_,.slice Ar.ma r.trm.length Ar.mc]) := by have := hx4.setC 0 (.int .i64 ((rowN m.rows F).ver + 1));rw [Hid];simpa using this
    have hW5 := Wrt.set Y4 Y2.heap.size 0 (.int .i64 ((rowN m.rows F).ver + 1))
    have HM5 : Hid (MD w X (Y4.setCell ⟨Y2.heap.size,0,none⟩ (.int .i64 ((rowN m.rows F).ver + 1))) p a len cap bs o m fp) := HM4.out.far hW5 (fun b k => by have := HXY.out;rw [k];exact ⟨this,by omega,fun k => by have := HFP2.out _ k;omega⟩)
    have HL5 : Hid (owL (Y4.setCell ⟨Y2.heap.size,0,none⟩ (.int .i64 ((rowN m.rows F).ver + 1))) (rwCels r) (rwVals Ar r) fr) := owL_wrt HL4.out hW5 (fun b hb e => by have := hlrt b hb;omega)
    have hrw : RwS (Y4.setCell ⟨Y2.heap.size,0,none⟩ (.int .i64 ((rowN m.rows F).ver + 1))) Ar { r with ver := (rowN m.rows F).ver + 1 } := by
     have := it_rws (owL_it HL5.out (lo := 0) (fun b _ => Nat.zero_le b)) HSr.out.fit HSr.out.sz
     exact ⟨this.txt,this.got,this.sus,this.trm,this.mt,this.mg,this.ms,this.mm⟩
    have hS := hrdSp_any o 0 m i n (F : Int) Ar { r with ver := (rowN m.rows F).ver + 1 } fp _ HM5.out.plc HO.out hrw ⟨by omega,by omega⟩
    unfold rwV rwC at hS
    simp only at hS
    clear hB7 c8 g8 HM4 HX3 HM3 HL3 HL4 M4 hx4 hrw hW5
    go_upto_region 19 with fail
    clear x0 x1 x2 x3 x4 x5 x6 x7 z0 v0 d2
    generalize Y4.setCell ⟨Y2.heap.size,0,none⟩ (.int .i64 ((rowN m.rows F).ver + 1)) = Y5 at *
    obtain ⟨⟨x0,x1,x2,x3⟩,x4,x5,x6,x7⟩ := Bx.r8 HX5.out
    go_wp2_with fail
    refine hS.mono ?_
    rintro e Y6 ⟨rfl,hBc⟩
    obtain ⟨fp3,h3⟩ := HM5.out.act hBc
    have HE : Hid _ := HF.out Y6 _ fp3 (heard_loc HO.out (F : Int) { r with ver := (rowN m.rows F).ver + 1 }).1 (vb_heard HV.out (Int.add_le_add_right (HV.out.row HQ.out F) 1) (F : Int)) h3
    clear hS hBc h3 HM5 HF x0 x1 x2 x3 x4 x5 x6 x7
    generalize (heardMb m (F : Int) { r with ver := (rowN m.rows F).ver + 1 }).2 = sb at *
    go_wp2
    go_roundw
    case rel => exact HE.out
    case measure => simp [intOf];omega
   ·have hS := stpSp_any o 0 m i n fp Y1 HM1.out.plc HO.out
    go_wp2_with fail
    refine hS.mono ?_
    rintro e Y2 ⟨rfl,hBc⟩
    obtain ⟨fp3,h3⟩ := HM1.out.act hBc
    have HE : Hid _ := HF.out Y2 _ fp3 (stepM HO.out).ok (vb_step HO.out HV.out HQ.out) h3
    clear hS hBc h3 HM1 HF
    go_wp2
    go_roundw
    case rel => exact HE.out
    case measure => simp [intOf];omega
  ·have k1 : ¬ ((0 : Int) < (k : Int)) := by omega
   obtain ⟨vs,hpc,hov,hnB⟩ := HM.out.plc
   obtain ⟨A9,rfl,hl9⟩ := mb5_ow hov
   have hl5 : (mbC A9 m).toList.length = 5 := rfl
   have c0 := hpc.cell 0 (by rw [hl5];omega)
   have c1 := hpc.cell 1 (by rw [hl5];omega)
   have c2 := hpc.cell 2 (by rw [hl5];omega)
   have c3 := hpc.cell 3 (by rw [hl5];omega)
   have c4 := hpc.cell 4 (by rw [hl5];omega)
   simp only [Nat.zero_add] at c0 c1 c2 c3 c4
   replace c0 : wr.cell? ⟨o,0,none⟩ = some (.int .i64 m.id) := c0
   replace c1 : wr.cell? ⟨o,1,none⟩ = some (.int .i64 m.n) := c1
   replace c2 : wr.cell? ⟨o,2,none⟩ = some (.slice A9.ra m.rows.length A9.rc) := c2
   replace c3 : wr.cell? ⟨o,3,none⟩ = some (.slice A9.sa m.sung.length A9.sc) := c3
   replace c4 : wr.cell? ⟨o,4,none⟩ = some (.bool m.done) := c4
   obtain ⟨r0,r1,r2,r3,r4⟩ := Bx.r5 HM.out.res
   obtain ⟨f0',f1,f2,f3,f4⟩ := HM.out.res.f5
   have HA : Hid (∀ {x0 x1 x2 x3 x4 : Value},owL (((((wr.setCell ⟨X.heap.size,0,none⟩ x0).setCell ⟨X.heap.size,1,none⟩ x1).setCell ⟨X.heap.size,2,none⟩ x2).setCell ⟨X.heap.size,3,none⟩ x3).setCell ⟨X.heap.size,4,none⟩ x4) (mbCels m) (mbVals A9 m) fp ∧ Cc w (((((wr.setCell ⟨X.heap.size,0,none⟩ x0).setCell ⟨X.heap.size,1,none⟩ x1).setCell ⟨X.heap.size,2,none⟩ x2).setCell ⟨X.heap.size,3,none⟩ x3).setCell ⟨X.heap.size,4,none⟩ x4) p a len cap bs ∧ X.grownBy (((((wr.setCell ⟨X.heap.size,0,none⟩ x0).setCell ⟨X.heap.size,1,none⟩ x1).setCell ⟨X.heap.size,2,none⟩ x2).setCell ⟨X.heap.size,3,none⟩ x3).setCell ⟨X.heap.size,4,none⟩ x4) (some p)) := fun {x0 x1 x2 x3 x4} => by
    have hw := wrt5 wr X.heap.size (a := x0) (b := x1) (c := x2) (d := x3) (e := x4)
    have h1 := HM.out.hpo
    have h3 := HM.out.lt
    exact ⟨owL_wrt hl9 hw (fun b hb e => by have := HM.out.fpl b hb;omega),HM.out.cc.wrt hw (by omega) (fun b e => by omega),grown_wrt HM.out.gr hw (fun b e => by omega)⟩
   have HFL : Hid (∀ b,fp b → X.heap.size ≤ b) := fun b hb => by have := HM.out.fpl b hb;omega
   clear hpc hov hl9 HM hnB hl5
   go_wp2
   refine bodyPost_ret (v := .agg #[.int .i64 m.id,.int .i64 m.n,.slice A9.ra m.rows.length A9.rc,.slice A9.sa m.sung.length A9.sc,.bool m.done]) (by simp [results,Tryz.results138,go_sem, *]) rfl ?_
   exact ⟨m,⟨⟨i,n,HO.out⟩,HV.out.mono (by omega)⟩,A9,fp,rfl,HA.out.1,HFL.out,HA.out.2⟩
end Go.Proofs.YtidnfdobljihoaaGreat
namespace Go.Proofs.YtidnfdobljihoaaGreat
set_option linter.unusedVariables false
set_option linter.unusedSimpArgs false
open Go.RowKit Go.Sort
structure DmS (m : Mb) (n : Nat) : Prop where
 id' : -1 ≤ m.id ∧ m.id ≤ 7
 hn : m.n = (n : Int)
 n5 : 1 ≤ n ∧ n ≤ 5
 ok : ∀ r ∈ m.rows,OkR r n
 rl : m.rows.length ≤ 5
 sl : m.sung.length ≤ 61
 sg : ∀ x ∈ m.sung,-1 ≤ x ∧ x ≤ 62
 vb : Vb m 13
theorem OkM.dms {m : Mb} {i n : Nat} (h : OkM m i n) (hv : Vb m 13) : DmS m n := by
 have h5 := h.n5
 have hl := h.lt
 exact ⟨by rw [h.hid];omega,h.hn,h5,h.rowOk,by rw [h.len];omega,by have := h.sl;omega,fun x hx => by have := h.elem hx;omega,hv⟩
theorem DmS.own {m : Mb} {n : Nat} (h : DmS m n) (hok : okMb m = true) : m.own.ver < 1000000 := by
 have := h.vb.row (by omega) m.i
 unfold Mb.own
 omega
theorem DmS.fit {m : Mb} {n : Nat} (h : DmS m n) : FitM m := ⟨fun r hr => (h.ok r hr).fit,fun x hx => by have := h.sg x hx;omega⟩
theorem DmS.i64 {m : Mb} {n : Nat} (h : DmS m n) : Mb64 m := by
 have h1 := h.id'
 have h5 := h.n5
 refine ⟨⟨by omega,by omega⟩,⟨by rw [h.hn];omega,by rw [h.hn];omega⟩,fun r hr => ?_⟩
 have hr := h.ok r hr
 have hv := hr.ver
 cases e : r.rdy with
 | true => have := (hr.rdy e).2.1;exact ⟨⟨by omega,by omega⟩,by omega,by omega⟩
 | false => rw [Rw64,(hr.not e).1];exact ⟨⟨by omega,by omega⟩,by omega,by omega⟩
theorem DmS.sz {m : Mb} {n : Nat} (h : DmS m n) : szMb m ≤ 1048576 := by
 have e2 : szP m.rows m.rows.length ≤ 300 * m.rows.length := by
  unfold szP
  rw [List.take_length]
  exact sum_le szRw 300 m.rows (fun r hr => (h.ok r hr).c8.2)
 have := h.rl
 have := h.sl
 unfold szMb szRs
 omega
theorem ow_tailF {α : Type} {F : α → List Cel} {s : Nat} (hF : ∀ x,(F x).length = s) (hs : 0 < s) {w : World} {x : α} {xs : List α} {g off c : Nat} {f : Fp} (h : Cel.ow w (lcl s F (x :: xs)) (.slice (some ⟨g,off,none⟩) (xs.length + 1) c) f) :
  (c = 1 → Cel.ow w (lcl s F xs) (.slice (some ⟨g,off,none⟩) 0 0) (fun _ => False) ∧ xs = []) ∧ (1 < c → ∃ f',Cel.ow w (lcl s F xs) (.slice (some ⟨g,off + s,none⟩) xs.length (c - 1)) f' ∧ ∀ b,f' b → f b) := by
 obtain ⟨a0,c0,us,G,f0,e,ho,hl,hn,hf⟩ := h
 cases e
 have hlen : (x :: xs).length = xs.length + 1 := rfl
 rw [hlen] at ho
 rcases ho with ⟨h0,_⟩ | ⟨g0,off0,e,ho,rfl⟩
 ·omega
 cases e
 have hle := ho.le
 refine ⟨fun hc => ?_,fun hc => ?_⟩
 ·have : xs = [] := List.eq_nil_of_length_eq_zero (by omega)
  subst this
  exact ⟨⟨_,0,[],none,fun _ => False,rfl,OSo.nil _ _ (plainS _ _),⟨rfl,fun _ h => h⟩,fun _ _ h => h,fun b => by simp⟩,rfl⟩
 ·rw [List.flatMap_cons] at hl
  obtain ⟨u1,u2,f1,f2,rfl,l1,l2,hd,hff⟩ := owL_split hl
  have hu1 : u1.length = s := by rw [owL_len l1,hF]
  refine ⟨fun b => some g = some b ∨ f2 b,⟨some ⟨g,off + s,none⟩,c - 1,u2,some g,f2,rfl,OSo.of ?_,l2,fun b hb hk => hn b hb ((hff b).2 (.inr hk)),fun b => Iff.rfl⟩,fun b hb => (hf b).2 (hb.imp id (fun h => (hff b).2 (.inr h)))⟩
  have hm : (xs.length + 1) * s = xs.length * s + s := by rw [Nat.add_mul,Nat.one_mul]
  have hlu := ho.len
  rw [List.length_append,hu1,hm] at hlu
  have hcs : (c - 1) * s + s = c * s := by
   have : c = (c - 1) + 1 := by omega
   rw [this,Nat.add_mul,Nat.one_mul]
   simp
  refine ⟨by omega,by omega,by have := ho.max;omega,ho.blk,fun i hi => ?_,fun i hi => ?_,fun i hi => ?_⟩
  ·have := ho.cell (s + i) (by rw [hm];omega)
   rw [show off + s + i = off + (s + i) by omega,this,List.getElem?_append_right (by omega),hu1]
   simp
  ·have := ho.some (s + i) (by omega)
   rwa [show off + s + i = off + (s + i) by omega]
  ·have := ho.free (s + i) (by omega)
   rwa [show off + s + i = off + (s + i) by omega]
set_option maxRecDepth 100000 in
set_option maxHeartbeats 6400000 in
theorem drawMa_any {w X : World} {p : Nat} {a : Option Addr} {len cap : Nat} {bs : Nat → Int} (h : Cc w X p a len cap bs) :
  Calls Tryz.prog 77 #[.pointer (some ⟨p,0,none⟩)] X fun e X' => ∃ m n,DmS m n ∧ AnsDm w X X' p a len cap bs e m := by
 have hmix := mixed17
 have hpX := h.lt
 have hwp := h.hp
 have b0 := oneA16 X (.cells #[.int .i64 0,.int .i64 0,.slice none 0 0,.slice none 0 0,.bool false] 27)
 have HR0 : Hid (Bx (X.alloc (.cells #[.int .i64 0,.int .i64 0,.slice none 0 0,.slice none 0 0,.bool false] 27)) X.heap.size 27 #[.int .i64 0,.int .i64 0,.slice none 0 0,.slice none 0 0,.bool false]) := Bx.new X _ _
 have HC0 : Hid (Cc w (X.alloc (.cells #[.int .i64 0,.int .i64 0,.slice none 0 0,.slice none 0 0,.bool false] 27)) p a len cap bs) := h.step b0
 have HG0 : Hid (X.grownBy (X.alloc (.cells #[.int .i64 0,.int .i64 0,.slice none 0 0,.slice none 0 0,.bool false] 27)) (some p)) := ⟨b0.os,b0.tape,b0.output,b0.size,fun x hx _ => b0.block x hx⟩
 have hX0 : X.heap.size < (X.alloc (.cells #[.int .i64 0,.int .i64 0,.slice none 0 0,.slice none 0 0,.bool false] 27)).heap.size := HR0.out.lt
 clear h b0
 generalize hWW : X.alloc (.cells #[.int .i64 0,.int .i64 0,.slice none 0 0,.slice none 0 0,.bool false] 27) = W0 at *
 have hD := drawMb_any HC0.out
 go_enter Tryz.func77,Tryz.ntmps77
 go_wp2_with fail
 refine hD.mono ?_
 rintro e W3 ⟨m0,⟨⟨i,n,hok⟩,hvb⟩,A,f0,rfl,hl,hf0,c3,g3⟩
 have HO0 : Hid (DmS m0 n) := hok.dms hvb
 have HN0 : Hid (m0.rows.length = n ∧ 1 ≤ n) := ⟨hok.len,hok.n5.1⟩
 have HSl : Hid (m0.sung.length ≤ 60) := hok.sl
 have hba := oneA16 W3 (.cells #[.int .i64 m0.id,.int .i64 m0.n,.slice A.ra m0.rows.length A.rc,.slice A.sa m0.sung.length A.sc,.bool m0.done] 27)
 have hxb := Bx.new W3 27 #[.int .i64 m0.id,.int .i64 m0.n,.slice A.ra m0.rows.length A.rc,.slice A.sa m0.sung.length A.sc,.bool m0.done]
 have hrl := (HR0.out.grown g3 (by simp;omega)).lt
 have hfl := owL_lt hl
 have HM : Hid (MD w X (W3.alloc (.cells #[.int .i64 m0.id,.int .i64 m0.n,.slice A.ra m0.rows.length A.rc,.slice A.sa m0.sung.length A.sc,.bool m0.done] 27)) p a len cap bs W3.heap.size m0 f0) := by
  refine ⟨c3.step hba,(HR0.out.grown g3 (by simp;omega)).below hba,box_plc hxb (owL_below hl hba) (fun k => by have := hfl _ k;omega),fun b hb => by have := hf0 b hb;omega,hpX,by omega, ?_⟩
  have hg2 : W3.grownBy (W3.alloc (.cells #[.int .i64 m0.id,.int .i64 m0.n,.slice A.ra m0.rows.length A.rc,.slice A.sa m0.sung.length A.sc,.bool m0.done] 27)) (some p) := ⟨hba.os,hba.tape,hba.output,hba.size,fun x hx _ => hba.block x hx⟩
  exact grown_trans (grown_trans HG0.out g3) hg2
 unfold mbV mbC
 clear hl hf0 hba hxb hok HR0 HC0 HG0 hfl c3 g3 hD
 go_wp2_with fail
 generalize W3.alloc (.cells #[.int .i64 m0.id,.int .i64 m0.n,.slice A.ra m0.rows.length A.rc,.slice A.sa m0.sung.length A.sc,.bool m0.done] 27) = W4 at *
 generalize W3.heap.size = o at *
 refine (onceC 12 HM.out.cc (by omega)).mono ?_
 rintro e W5 ⟨t,rfl,c5,g5⟩
 have HM5 : Hid (MD w X W5 p a len cap bs o m0 f0) := HM.out.drawn g5 c5
 clear c5 g5 HM
 go_upto_if 7 with fail
 go_cut [7] from 8 to 35 (fun _ wx => ∃ (m : Mb) (fp : Fp),DmS m n ∧ MD w X wx p a len cap bs o m fp)
 case first =>
  cases t with
  | false =>
   go_wp2
   go_meet
   case rel => exact ⟨m0,f0,HO0.out,HM5.out⟩
  | true =>
   have hB6 := belowC 4 4 rfl HM5.out.cc (by omega) (by omega)
   go_wp2_with fail
   refine hB6.mono ?_
   rintro e Y1 ⟨y,rfl,hy6,c6,g6⟩
   have HM1 : Hid (MD w X Y1 p a len cap bs o m0 f0) := HM5.out.drawn g6 c6
   clear c6 g6 hB6 HM5
   have hys : y = 0 ∨ y = 1 ∨ y = 2 ∨ y = 3 := by omega
   rcases hys with rfl | rfl | rfl | rfl
   ·have hF := fromC (-1) 7 (by omega) (by omega) (by omega) HM1.out.cc
    go_wp2_with fail
    refine hF.mono ?_
    rintro e Y2 ⟨x,rfl,hx1,hx2,c7,g7⟩
    have M2 := HM1.out.drawn g7 c7
    obtain ⟨v0,z0,hB⟩ := (Bcm.refl M2.plc).put (j := 0) (x := .int .i64 m0.id) rfl (.int .i64 x)
    obtain ⟨fp3,M3⟩ := M2.act (m' := { m0 with id := x }) hB
    simp only [Nat.zero_add] at v0 z0 M3
    have HE : Hid (∃ (m : Mb) (fp : Fp),DmS m n ∧ MD w X (Y2.setCell ⟨o,0,none⟩ (.int .i64 x)) p a len cap bs o m fp) := ⟨{ m0 with id := x },fp3,⟨⟨hx1,hx2⟩,HO0.out.hn,HO0.out.n5,HO0.out.ok,HO0.out.rl,HO0.out.sl,HO0.out.sg,HO0.out.vb⟩,M3⟩
    clear hF c7 g7 M2 hB M3 HM1
    go_wp2
    go_meet
    case rel => exact HE.out
   ·obtain ⟨gg,go,gc,M1w⟩ := Mw.start HM1.out.plc (by have := HN0.out;omega)
    obtain ⟨u,f,hu,hfz,how,hsub,hnB,hput⟩ := HM1.out.plc.at (j := 2) (c := lcl 8 rw8 m0.rows) rfl
    obtain rfl := Option.some.inj (hu.symm.trans M1w.rws)
    simp only [Nat.zero_add] at hu hfz hput
    obtain ⟨r0,R,hR⟩ : ∃ r0 R,m0.rows = r0 :: R := by
     cases e : m0.rows with
     | nil => have := HN0.out;rw [e] at this;simp at this;omega
     | cons r0 R => exact ⟨r0,R,rfl⟩
    have hl9 : m0.rows.length = R.length + 1 := by rw [hR];rfl
    have hcap : R.length + 1 ≤ gc := by
     have := how
     obtain ⟨_,_,_,_,_,e,ho,_⟩ := this
     cases e
     have := ho.le.1
     omega
    rw [hl9] at hu how
    rw [hR] at how
    have HD : Hid (∀ (u' : Value) (f' : Fp),Cel.ow Y1 (lcl 8 rw8 R) u' f' → (∀ b,f' b → f b) → ∃ (m : Mb) (fp : Fp),DmS m n ∧ MD w X (Y1.setCell ⟨o,2,none⟩ u') p a len cap bs o m fp) := fun u' f' h1 h2 => by
     obtain ⟨_,_,k3,_⟩ := hput Y1 (lcl 8 rw8 R) u' f' (Wrt.refl _ _) h1 (fun b hb => .inl (h2 b hb))
     obtain ⟨fp3,M3⟩ := HM1.out.act (m' := { m0 with rows := R }) k3
     exact ⟨{ m0 with rows := R },fp3,⟨HO0.out.id',HO0.out.hn,HO0.out.n5,fun r hr => HO0.out.ok r (by rw [hR];exact List.mem_cons_of_mem _ hr),by have := HO0.out.rl;simp only;omega,HO0.out.sl,HO0.out.sg,fun r hr => HO0.out.vb r (by rw [hR];exact List.mem_cons_of_mem _ hr)⟩,M3⟩
    have n1 : (1 : Int) ≤ ((R.length + 1 : Nat) : Int) := by omega
    have n2 : (1 : Int) ≤ (R.length : Int) + 1 := by omega
    obtain ⟨t1,t2⟩ := ow_tailF rw8_len (by omega) how
    by_cases hc1 : gc = 1
    ·subst hc1
     obtain ⟨k1,k2⟩ := t1 rfl
     subst k2
     have HE : Hid _ := HD.out _ _ k1 (fun b hb => hb.elim)
     clear hput how t1 t2 HD k1 HM1 M1w hR hl9
     go_wp2
     go_meet
     case rel => exact HE.out
    ·obtain ⟨f',k1,k2⟩ := t2 (by omega)
     have HE : Hid _ := HD.out _ f' k1 k2
     clear hput how t1 t2 HD k1 HM1 M1w hR hl9
     go_wp2
     go_meet
     case rel => exact HE.out
   ·obtain ⟨u,f,hu,hfz,how,hsub,hnB,hput⟩ := HM1.out.plc.at (j := 3) (c := icl m0.sung) rfl
    obtain ⟨sa,sc,_,rfl,_⟩ := ow_icl.1 how
    simp only [Nat.zero_add] at hu
    have hF := fromC (-1) 62 (by omega) (by omega) (by omega) (HM1.out.step (Same.drewN Y1 1).below).cc
    clear hfz how hput
    go_wp2_with fail
    refine gt_begin (S := fun X : World => X.cell? ⟨o,3,none⟩ = some (.slice sa m0.sung.length sc)) 7 hmix (by kernel_rfl) ?_
    have hHeld : (fun X : World => X.cell? ⟨o,3,none⟩ = some (.slice sa m0.sung.length sc)) Y1.drew := (hu)
    refine gt_take (i := 0) (v := ?_) rfl (by kernel_rfl) (by kernel_rfl) (by kernel_rfl) (by kernel_rfl) (fun _ _ _ h => h) (Or.inl ⟨by rfl, ?_⟩) hHeld ?_
    rotate_left
    ·(intro X hSX;(try dsimp only at hSX);have g0 := hSX;go_simp;try with_reducible rfl)
    try simp only [Act.put,List.setIfInBounds_toArray,List.set_cons_zero,List.set_cons_succ]
    refine gt_take (i := 1) (v := ?_) rfl (by kernel_rfl) (by kernel_rfl) (by kernel_rfl) (by kernel_rfl) (fun _ _ _ h => h) (Or.inl ⟨by rfl, ?_⟩) hHeld ?_
    rotate_left
    ·(intro X hSX;(try dsimp only at hSX);have g0 := hSX;go_simp;try with_reducible rfl)
    try simp only [Act.put,List.setIfInBounds_toArray,List.set_cons_zero,List.set_cons_succ]
    refine gt_pure (i := 2) (v := ?_) rfl (by kernel_rfl) (by kernel_rfl) (by kernel_rfl) (fun _ _ _ h => h) (Or.inl ⟨by rfl, ?_⟩) ?_
    rotate_left
    ·(intro X;go_simp;try with_reducible rfl)
    try simp only [Act.put,List.setIfInBounds_toArray,List.set_cons_zero,List.set_cons_succ]
    refine gt_one (i := 3) rfl (by kernel_rfl) (by kernel_rfl) (fun K hK => ?_)
    go_simp
    go_at_call 116
    refine hF.mono ?_
    rintro e Y2 ⟨x,rfl,hx1,hx2,c7,g7⟩
    have M2 := (HM1.out.step (Same.drewN Y1 1).below).drawn g7 c7
    obtain ⟨u,f,hu2,hfz,how,hsub,hnB,hput⟩ := M2.plc.at (j := 3) (c := icl m0.sung) rfl
    simp only [Nat.zero_add] at hu2 hput hfz
    have hu3 : Y2.cell? ⟨o,3,none⟩ = some (.slice sa m0.sung.length sc) := g7.cell (show (Y1.drewN 1).cell? ⟨o,3,none⟩ = _ from hu) (by have := HM1.out.hpo;have := HM1.out.ho;simp;omega)
    obtain rfl := Option.some.inj (hu2.symm.trans hu3)
    obtain ⟨a',c',ea,hA⟩ := ow_int_app x how (by have := HSl.out;omega)
    cases ea
    refine hK.out _ _ hu3 (fun hHeldN => ?_)
    clear hK hHeld
    have hHeld := hHeldN
    try simp only [Act.put,List.setIfInBounds_toArray,List.set_cons_zero,List.set_cons_succ]
    refine gt_one (i := 4) rfl (by kernel_rfl) (by kernel_rfl) (fun K hK => ?_)
    go_simp
    refine hK.out _ _ (((oneA16 Y2 (.cells #[.int .i64 x] 2)).cell (World.block_lt_of_cell? _ _ hu3)).trans hu3) (fun hHeldN => ?_)
    clear hK hHeld
    have hHeld := hHeldN
    try simp only [Act.put,List.setIfInBounds_toArray,List.set_cons_zero,List.set_cons_succ]
    refine gt_one (i := 5) rfl (by kernel_rfl) (by kernel_rfl) (fun K hK => ?_)
    refine step_append_of (by rfl) _ _ _ _ (by rfl) (.slice sa m0.sung.length sc) _ (by rfl) (by rfl) hA ⟨rfl,rfl,rfl,rfl⟩ ?_
    rintro v' w4 ⟨a4,c4,f4,rfl,q1,q2,q3⟩
    obtain ⟨k1,k2,k3,_⟩ := hput w4 (icl (m0.sung ++ [x])) _ f4 q3 q1 q2
    refine hK.out _ _ k1 (fun hHeldN => ?_)
    clear hK hHeld
    have hHeld := hHeldN
    try simp only [Act.put,List.setIfInBounds_toArray,List.set_cons_zero,List.set_cons_succ]
    refine gt_take (i := 6) (v := ?_) rfl (by kernel_rfl) (by kernel_rfl) (by kernel_rfl) (by kernel_rfl) (fun _ _ _ h => h) (Or.inl ⟨by rfl, ?_⟩) hHeld ?_
    rotate_left
    ·(intro X hSX;(try dsimp only at hSX);have g0 := hSX;go_simp;try with_reducible rfl)
    try simp only [Act.put,List.setIfInBounds_toArray,List.set_cons_zero,List.set_cons_succ]
    obtain ⟨fp3,M3⟩ := M2.act (m' := { m0 with sung := m0.sung ++ [x] }) k3
    have HE : Hid (∃ (m : Mb) (fp : Fp),DmS m n ∧ MD w X (w4.setCell ⟨o,3,none⟩ (.slice a4 (m0.sung.length + 1) c4)) p a len cap bs o m fp) := ⟨{ m0 with sung := m0.sung ++ [x] },fp3,⟨HO0.out.id',HO0.out.hn,HO0.out.n5,HO0.out.ok,HO0.out.rl,by have := HSl.out;simp;omega,fun y hy => by
     rcases List.mem_append.1 hy with h | h
     ·exact HO0.out.sg y h
     ·have : y = x := by simpa using h
      omega,HO0.out.vb⟩,M3⟩
    refine gt_last rfl (by kernel_rfl) (by kernel_rfl) (fun K hK => ?_)
    go_simp
    refine hK.out _ _ ?_
    clear hK hHeld hF c7 g7 M2 hA hput q1 q2 q3 k3 M3 HM1 how hu hu2 hu3
    go_wp2_with fail
    go_meet
    case rel => exact HE.out
   ·obtain ⟨v0,z0,hB⟩ := (Bcm.refl HM1.out.plc).put (j := 4) (x := .bool m0.done) rfl (.bool (!m0.done))
    obtain ⟨fp3,M3⟩ := HM1.out.act (m' := { m0 with done := !m0.done }) hB
    simp only [Nat.zero_add] at v0 z0 M3
    have HE : Hid (∃ (m : Mb) (fp : Fp),DmS m n ∧ MD w X (Y1.setCell ⟨o,4,none⟩ (.bool (!m0.done))) p a len cap bs o m fp) := ⟨{ m0 with done := !m0.done },fp3,⟨HO0.out.id',HO0.out.hn,HO0.out.n5,HO0.out.ok,HO0.out.rl,HO0.out.sl,HO0.out.sg,HO0.out.vb⟩,M3⟩
    clear hB M3 HM1
    go_wp2
    go_meet
    case rel => exact HE.out
 case rest =>
  obtain ⟨m,fp,hO,hM⟩ := hcut
  generalize wc = Y9 at *
  have HM : Hid (MD w X Y9 p a len cap bs o m fp) := hM
  have HO : Hid (DmS m n) := hO
  clear hM hO HM5 HO0 HN0
  obtain ⟨vs,hpc,hov,hnB⟩ := HM.out.plc
  obtain ⟨A9,rfl,hl9⟩ := mb5_ow hov
  have hl5 : (mbC A9 m).toList.length = 5 := rfl
  have c0 := hpc.cell 0 (by rw [hl5];omega)
  have c1 := hpc.cell 1 (by rw [hl5];omega)
  have c2 := hpc.cell 2 (by rw [hl5];omega)
  have c3 := hpc.cell 3 (by rw [hl5];omega)
  have c4 := hpc.cell 4 (by rw [hl5];omega)
  simp only [Nat.zero_add] at c0 c1 c2 c3 c4
  replace c0 : Y9.cell? ⟨o,0,none⟩ = some (.int .i64 m.id) := c0
  replace c1 : Y9.cell? ⟨o,1,none⟩ = some (.int .i64 m.n) := c1
  replace c2 : Y9.cell? ⟨o,2,none⟩ = some (.slice A9.ra m.rows.length A9.rc) := c2
  replace c3 : Y9.cell? ⟨o,3,none⟩ = some (.slice A9.sa m.sung.length A9.sc) := c3
  replace c4 : Y9.cell? ⟨o,4,none⟩ = some (.bool m.done) := c4
  obtain ⟨r0,r1,r2,r3,r4⟩ := Bx.r5 HM.out.res
  obtain ⟨f0',f1,f2,f3,f4⟩ := HM.out.res.f5
  have HA : Hid (∀ {x0 x1 x2 x3 x4 : Value},owL (((((Y9.setCell ⟨X.heap.size,0,none⟩ x0).setCell ⟨X.heap.size,1,none⟩ x1).setCell ⟨X.heap.size,2,none⟩ x2).setCell ⟨X.heap.size,3,none⟩ x3).setCell ⟨X.heap.size,4,none⟩ x4) (mbCels m) (mbVals A9 m) fp ∧ Cc w (((((Y9.setCell ⟨X.heap.size,0,none⟩ x0).setCell ⟨X.heap.size,1,none⟩ x1).setCell ⟨X.heap.size,2,none⟩ x2).setCell ⟨X.heap.size,3,none⟩ x3).setCell ⟨X.heap.size,4,none⟩ x4) p a len cap bs ∧ X.grownBy (((((Y9.setCell ⟨X.heap.size,0,none⟩ x0).setCell ⟨X.heap.size,1,none⟩ x1).setCell ⟨X.heap.size,2,none⟩ x2).setCell ⟨X.heap.size,3,none⟩ x3).setCell ⟨X.heap.size,4,none⟩ x4) (some p)) := fun {x0 x1 x2 x3 x4} => by
   have hw := wrt5 Y9 X.heap.size (a := x0) (b := x1) (c := x2) (d := x3) (e := x4)
   have h1 := HM.out.hpo
   have h3 := HM.out.lt
   exact ⟨owL_wrt hl9 hw (fun b hb e => by have := HM.out.fpl b hb;omega),HM.out.cc.wrt hw (by omega) (fun b e => by omega),grown_wrt HM.out.gr hw (fun b e => by omega)⟩
  have HFL : Hid (∀ b,fp b → X.heap.size ≤ b) := fun b hb => by have := HM.out.fpl b hb;omega
  clear hpc hov hl9 HM hnB hl5
  go_wp2
  refine bodyPost_ret (v := .agg #[.int .i64 m.id,.int .i64 m.n,.slice A9.ra m.rows.length A9.rc,.slice A9.sa m.sung.length A9.sc,.bool m.done]) (by simp [results,Tryz.results77,go_sem, *]) rfl ?_
  exact ⟨m,n,HO.out,A9,fp,rfl,HA.out.1,HFL.out,HA.out.2⟩
end Go.Proofs.YtidnfdobljihoaaGreat
namespace Go.Proofs.YtidnfdobljihoaaGreat
set_option linter.unusedVariables false
set_option linter.unusedSimpArgs false
open Go.RowKit Go.Sort
def DrM (w w' : World) (A : Ma) (m : Mb) (n : Nat) : Prop := It w' (mbCels m) (mbVals A m) w.heap.size w'.heap.size ∧ DmS m n ∧ Below w.heap.size w w'
section
variable {w Y Y' : World} {p : Nat} {a : Option Addr} {len cap : Nat} {bs : Nat → Int} {o : Nat} {A : Ma} {m : Mb} {fp : Fp}
end
set_option maxRecDepth 100000 in
set_option maxHeartbeats 3200000 in
theorem drawMo_any (a : Option Addr) (len cap : Nat) (bs : Nat → Int) (w : World) (hv : BVec w a len bs) (hl : len ≤ 4096) :
  Calls Tryz.prog 38 #[.slice a len cap] w fun e w' => ∃ (A : Ma) (m : Mb) (n : Nat),e = .returned (mbV A m) ∧ DrM w w' A m n := by
 have hmix := mixed17
 have hb0 := oneA16 w (.cells #[.int .i64 0,.int .i64 0,.slice none 0 0,.slice none 0 0,.bool false] 27)
 have HR : Hid (Bx (w.alloc (.cells #[.int .i64 0,.int .i64 0,.slice none 0 0,.slice none 0 0,.bool false] 27)) w.heap.size 27 #[.int .i64 0,.int .i64 0,.slice none 0 0,.slice none 0 0,.bool false]) := Bx.new w _ _
 have hN := newC a len cap bs w _ hb0 hv hl
 generalize hX0 : w.alloc (.cells #[.int .i64 0,.int .i64 0,.slice none 0 0,.slice none 0 0,.bool false] 27) = X0 at *
 clear hb0
 go_enter Tryz.func38,Tryz.ntmps38
 go_wp2_with fail
 refine hN.mono ?_
 rintro e X1 ⟨p,rfl,hp,c1,hb1⟩
 have HR1 : Hid (Bx X1 w.heap.size 27 #[.int .i64 0,.int .i64 0,.slice none 0 0,.slice none 0 0,.bool false]) := HR.out.below hb1
 have hwp : w.heap.size < p := by have := HR.out.lt;omega
 have hp1 := c1.lt
 have hD := drawMa_any c1
 clear hN c1 hb1 HR
 go_wp2_with fail
 refine hD.mono ?_
 rintro e X2 ⟨m,n,hS,A,fp,rfl,hlo,hf,c2,g2⟩
 have HS : Hid (DmS m n) := hS
 have hw2 := HR1.out.grown g2 (by simp;omega)
 have HE : Hid (∀ {x0 x1 x2 x3 x4 : Value},DrM w (((((X2.setCell ⟨w.heap.size,0,none⟩ x0).setCell ⟨w.heap.size,1,none⟩ x1).setCell ⟨w.heap.size,2,none⟩ x2).setCell ⟨w.heap.size,3,none⟩ x3).setCell ⟨w.heap.size,4,none⟩ x4) A m n) := fun {x0 x1 x2 x3 x4} => by
  have hw := wrt5 X2 w.heap.size (a := x0) (b := x1) (c := x2) (d := x3) (e := x4)
  exact ⟨owL_it (owL_wrt hlo hw (fun b hb e => by have := hf b hb;omega)) (fun b hb => by have := hf b hb;omega),HS.out,hw.below c2.below c2.below.size (fun b e => by rw [e];exact Nat.le_refl _)⟩
 obtain ⟨z0,z1,z2,z3,z4⟩ := Bx.r5 hw2
 obtain ⟨f0,f1,f2,f3,f4⟩ := hw2.f5
 unfold mbV mbC
 clear hD hS hlo hf c2 g2 hw2 HR1
 go_wp2
 refine bodyPost_ret (v := .agg #[.int .i64 m.id,.int .i64 m.n,.slice A.ra m.rows.length A.rc,.slice A.sa m.sung.length A.sc,.bool m.done]) (by simp [results,Tryz.results38,go_sem, *]) rfl ?_
 exact ⟨A,m,n,rfl,HE.out⟩
set_option maxRecDepth 100000 in
set_option maxHeartbeats 3200000 in
theorem drawSt_any17 (a : Option Addr) (len cap : Nat) (bs : Nat → Int) (w : World) (hv : BVec w a len bs) (hl : len ≤ 4096) :
  Calls Tryz.prog 8 #[.slice a len cap] w fun e w' => ∃ (A : Ma) (m : Mb) (n : Nat),e = .returned (mbV A m) ∧ DrM w w' A m n := by
 have hb0 := oneA16 w (.cells #[.int .i64 0,.int .i64 0,.slice none 0 0,.slice none 0 0,.bool false] 27)
 have HR : Hid (Bx (w.alloc (.cells #[.int .i64 0,.int .i64 0,.slice none 0 0,.slice none 0 0,.bool false] 27)) w.heap.size 27 #[.int .i64 0,.int .i64 0,.slice none 0 0,.slice none 0 0,.bool false]) := Bx.new w _ _
 have hD := drawMo_any a len cap bs (w.alloc (.cells #[.int .i64 0,.int .i64 0,.slice none 0 0,.slice none 0 0,.bool false] 27)) (hv.below hb0 (Nat.le_refl _)) hl
 have HB0 : Hid (Below w.heap.size w (w.alloc (.cells #[.int .i64 0,.int .i64 0,.slice none 0 0,.slice none 0 0,.bool false] 27))) := hb0
 generalize hX0 : w.alloc (.cells #[.int .i64 0,.int .i64 0,.slice none 0 0,.slice none 0 0,.bool false] 27) = X0 at *
 clear hb0 hv
 go_enter Tryz.func8,Tryz.ntmps8
 go_wp2_with fail
 refine hD.mono ?_
 rintro e X2 ⟨A,m,n,rfl,hI,hS,hb⟩
 have hw2 := HR.out.below hb
 have hwl := HR.out.lt
 have HE : Hid (∀ {x0 x1 x2 x3 x4 : Value},DrM w (((((X2.setCell ⟨w.heap.size,0,none⟩ x0).setCell ⟨w.heap.size,1,none⟩ x1).setCell ⟨w.heap.size,2,none⟩ x2).setCell ⟨w.heap.size,3,none⟩ x3).setCell ⟨w.heap.size,4,none⟩ x4) A m n) := fun {x0 x1 x2 x3 x4} => by
  have hw := wrt5 X2 w.heap.size (a := x0) (b := x1) (c := x2) (d := x3) (e := x4)
  have hbb := HB0.out.trans (hb.mono HB0.out.size)
  obtain ⟨f,h1,h2⟩ := hI
  exact ⟨owL_it (owL_wrt h1 hw (fun b hb e => by have := (h2 b hb).1;omega)) (fun b hb => by have := (h2 b hb).1;omega),hS,hw.below hbb hbb.size (fun b e => by rw [e];exact Nat.le_refl _)⟩
 obtain ⟨z0,z1,z2,z3,z4⟩ := Bx.r5 hw2
 obtain ⟨f0,f1,f2,f3,f4⟩ := hw2.f5
 unfold mbV mbC
 clear hD hS hI hb hw2 HR HB0
 go_wp2
 refine bodyPost_ret (v := .agg #[.int .i64 m.id,.int .i64 m.n,.slice A.ra m.rows.length A.rc,.slice A.sa m.sung.length A.sc,.bool m.done]) (by simp [results,Tryz.results8,go_sem, *]) rfl ?_
 exact ⟨A,m,n,rfl,HE.out⟩
set_option maxRecDepth 100000 in
set_option maxHeartbeats 3200000 in
theorem drawVo_any17 (a : Option Addr) (len cap : Nat) (bs : Nat → Int) (w : World) (hv : BVec w a len bs) (hl : len ≤ 4096) :
  Calls Tryz.prog 10 #[.slice a len cap] w fun e w' => ∃ (A : Ma) (m : Mb) (n : Nat),e = .returned (mbV A m) ∧ DrM w w' A m n := by
 have hb0 := oneA16 w (.cells #[.int .i64 0,.int .i64 0,.slice none 0 0,.slice none 0 0,.bool false] 27)
 have HR : Hid (Bx (w.alloc (.cells #[.int .i64 0,.int .i64 0,.slice none 0 0,.slice none 0 0,.bool false] 27)) w.heap.size 27 #[.int .i64 0,.int .i64 0,.slice none 0 0,.slice none 0 0,.bool false]) := Bx.new w _ _
 have hD := drawMo_any a len cap bs (w.alloc (.cells #[.int .i64 0,.int .i64 0,.slice none 0 0,.slice none 0 0,.bool false] 27)) (hv.below hb0 (Nat.le_refl _)) hl
 have HB0 : Hid (Below w.heap.size w (w.alloc (.cells #[.int .i64 0,.int .i64 0,.slice none 0 0,.slice none 0 0,.bool false] 27))) := hb0
 generalize hX0 : w.alloc (.cells #[.int .i64 0,.int .i64 0,.slice none 0 0,.slice none 0 0,.bool false] 27) = X0 at *
 clear hb0 hv
 go_enter Tryz.func10,Tryz.ntmps10
 go_wp2_with fail
 refine hD.mono ?_
 rintro e X2 ⟨A,m,n,rfl,hI,hS,hb⟩
 have hw2 := HR.out.below hb
 have hwl := HR.out.lt
 have HE : Hid (∀ {x0 x1 x2 x3 x4 : Value},DrM w (((((X2.setCell ⟨w.heap.size,0,none⟩ x0).setCell ⟨w.heap.size,1,none⟩ x1).setCell ⟨w.heap.size,2,none⟩ x2).setCell ⟨w.heap.size,3,none⟩ x3).setCell ⟨w.heap.size,4,none⟩ x4) A m n) := fun {x0 x1 x2 x3 x4} => by
  have hw := wrt5 X2 w.heap.size (a := x0) (b := x1) (c := x2) (d := x3) (e := x4)
  have hbb := HB0.out.trans (hb.mono HB0.out.size)
  obtain ⟨f,h1,h2⟩ := hI
  exact ⟨owL_it (owL_wrt h1 hw (fun b hb e => by have := (h2 b hb).1;omega)) (fun b hb => by have := (h2 b hb).1;omega),hS,hw.below hbb hbb.size (fun b e => by rw [e];exact Nat.le_refl _)⟩
 obtain ⟨z0,z1,z2,z3,z4⟩ := Bx.r5 hw2
 obtain ⟨f0,f1,f2,f3,f4⟩ := hw2.f5
 unfold mbV mbC
 clear hD hS hI hb hw2 HR HB0
 go_wp2
 refine bodyPost_ret (v := .agg #[.int .i64 m.id,.int .i64 m.n,.slice A.ra m.rows.length A.rc,.slice A.sa m.sung.length A.sc,.bool m.done]) (by simp [results,Tryz.results10,go_sem, *]) rfl ?_
 exact ⟨A,m,n,rfl,HE.out⟩
attribute [local irreducible] sv
end Go.Proofs.YtidnfdobljihoaaGreat
namespace Go.Proofs.YtidnfdobljihoaaGreat
set_option linter.unusedVariables false
set_option linter.unusedSimpArgs false
open Go.RowKit Go.Sort
end Go.Proofs.YtidnfdobljihoaaGreat
namespace Go.Proofs.YtidnfdobljihoaaGreat
set_option linter.unusedVariables false
set_option linter.unusedSimpArgs false
open Go.RowKit Go.Sort
attribute [local irreducible] sv
set_option maxRecDepth 100000 in
set_option maxHeartbeats 3200000 in
theorem likeRw_any (A B : Ra) (r : Rw) (w : World) (hv : RwS w A r) (hu : RwS w B r) :
  Calls Tryz.prog 20 #[rwV A r,rwV B r] w fun e w' => e = .returned (.bool true) ∧ Grew w w' := by
 have hB0 : Grew w ((w.alloc (.cells (rwC A r) 37)).alloc (.cells (rwC B r) 37)) := ((Grew.refl _).alloc _).alloc _
 have hx : Bx ((w.alloc (.cells (rwC A r) 37)).alloc (.cells (rwC B r) 37)) w.heap.size 37 (rwC A r) := (Bx.new w _ _).alloc _
 have hy : Bx ((w.alloc (.cells (rwC A r) 37)).alloc (.cells (rwC B r) 37)) (w.heap.size + 1) 37 (rwC B r) := by
  have := Bx.new (w.alloc (.cells (rwC A r) 37)) 37 (rwC B r)
  simpa using this
 have h0 := hv.below hB0.1
 have g0 := hu.below hB0.1
 have hT := likeSV_any A.ta B.ta A.tc B.tc r.txt _ h0.txt g0.txt h0.mt
 have hE : ∀ X,Below w.heap.size w X → ∀ (x y : Option Addr) (c d : Nat) (l : List Int),Vec w x l.length l → Vec w y l.length l → l.length ≤ maxLen → Calls Tryz.prog 37 #[.slice x l.length c,.slice y l.length d] X fun e w' => e = .returned (.bool true) ∧ Grew X w' := fun X h x y c d l h1 h2 h3 => (like_any x y l.length c l.length d l l X (h1.below h (Nat.le_refl _)) (h2.below h (Nat.le_refl _)) h3).mono (fun e w' ⟨h4,q,h5⟩ => ⟨by rw [h4,sameB_self],by rw [h5];exact (Grew.refl _).drewN q⟩)
 obtain ⟨ver,txt,got,sus,wed,rdy,by_,trm⟩ := r
 obtain ⟨ta,tc,ga,gc,sa,sc,ma,mc⟩ := A
 obtain ⟨ub,uc,vb,vc,xb,xc,yb,yc⟩ := B
 have HV : Hid (RwS w ⟨ta,tc,ga,gc,sa,sc,ma,mc⟩ ⟨ver,txt,got,sus,wed,rdy,by_,trm⟩) := hv
 have HU : Hid (RwS w ⟨ub,uc,vb,vc,xb,xc,yb,yc⟩ ⟨ver,txt,got,sus,wed,rdy,by_,trm⟩) := hu
 have hG := fun X h => hE X h ga vb gc vc got HV.out.got HU.out.got HV.out.mg
 have hS := fun X h => hE X h sa xb sc xc sus HV.out.sus HU.out.sus HV.out.ms
 have hM := fun X h => hE X h ma yb mc yc trm HV.out.trm HU.out.trm HV.out.mm
 have HX : Hid (∀ X,Grew ((w.alloc (.cells (rwC ⟨ta,tc,ga,gc,sa,sc,ma,mc⟩ ⟨ver,txt,got,sus,wed,rdy,by_,trm⟩) 37)).alloc (.cells (rwC ⟨ub,uc,vb,vc,xb,xc,yb,yc⟩ ⟨ver,txt,got,sus,wed,rdy,by_,trm⟩) 37)) X → Bx X w.heap.size 37 #[.int .i64 ver,.slice ta txt.length tc,.slice ga got.length gc,.slice sa sus.length sc,.bool wed,.bool rdy,.int .i64 by_,.slice ma trm.length mc] ∧ Bx X (w.heap.size + 1) 37 #[.int .i64 ver,.slice ub txt.length uc,.slice vb got.length vc,.slice xb sus.length xc,.bool wed,.bool rdy,.int .i64 by_,.slice yb trm.length yc]) := fun X h => ⟨hx.below h.1,hy.below h.1⟩
 have n1 : (ver == ver) = true := by simp
 have n2 : (by_ == by_) = true := by simp
 have n3 : (wed == wed) = true := by simp
 have n4 : (rdy == rdy) = true := by simp
 unfold rwV
 unfold rwC at *
 simp only at hT ⊢
 generalize hWW : (w.alloc (.cells #[.int .i64 ver,.slice ta txt.length tc,.slice ga got.length gc,.slice sa sus.length sc,.bool wed,.bool rdy,.int .i64 by_,.slice ma trm.length mc] 37)).alloc (.cells #[.int .i64 ver,.slice ub txt.length uc,.slice vb got.length vc,.slice xb sus.length xc,.bool wed,.bool rdy,.int .i64 by_,.slice yb trm.length yc] 37) = W at *
 have HG0 : Hid (Grew w W) := hB0
 obtain ⟨⟨c0,c1,_,_⟩,_⟩ := Bx.r8 (HX.out W (Grew.refl _)).1
 obtain ⟨⟨d0,d1,_,_⟩,_⟩ := Bx.r8 (HX.out W (Grew.refl _)).2
 clear hv hu hx hy h0 g0 hE hB0
 go_enter Tryz.func20,Tryz.ntmps20
 go_wp2_with fail
 refine hT.mono ?_
 rintro e w1 ⟨rfl,hg1⟩
 obtain ⟨⟨_,_,c2,_⟩,_⟩ := Bx.r8 (HX.out w1 hg1).1
 obtain ⟨⟨_,_,d2,_⟩,_⟩ := Bx.r8 (HX.out w1 hg1).2
 have HG1 : Hid (Grew W w1) := hg1
 clear hT hg1 c0 c1 d0 d1
 go_wp2_with fail
 refine (hG w1 (HG0.out.trans HG1.out).1).mono ?_
 rintro e w2 ⟨rfl,hg2⟩
 have HG2 : Hid (Grew W w2) := HG1.out.trans hg2
 obtain ⟨⟨_,_,_,c3⟩,_⟩ := Bx.r8 (HX.out w2 HG2.out).1
 obtain ⟨⟨_,_,_,d3⟩,_⟩ := Bx.r8 (HX.out w2 HG2.out).2
 clear hg2 c2 d2 hG
 go_wp2_with fail
 refine (hS w2 (HG0.out.trans HG2.out).1).mono ?_
 rintro e w3 ⟨rfl,hg3⟩
 have HG3 : Hid (Grew W w3) := HG2.out.trans hg3
 obtain ⟨_,c4,c5,c6,c7⟩ := Bx.r8 (HX.out w3 HG3.out).1
 obtain ⟨_,d4,d5,d6,d7⟩ := Bx.r8 (HX.out w3 HG3.out).2
 clear hg3 c3 d3 hS
 go_wp2_with fail
 refine (hM w3 (HG0.out.trans HG3.out).1).mono ?_
 rintro e w4 ⟨rfl,hg4⟩
 have HG4 : Hid (Grew w w4) := HG0.out.trans (HG3.out.trans hg4)
 clear hg4 c4 c5 c6 c7 d4 d5 d6 d7 hM
 go_wp2
 go_ret
 exact ⟨rfl,HG4.out⟩
end Go.Proofs.YtidnfdobljihoaaGreat
namespace Go.Proofs.YtidnfdobljihoaaGreat
set_option linter.unusedVariables false
set_option linter.unusedSimpArgs false
open Go.RowKit Go.Sort
set_option maxRecDepth 100000 in
set_option maxHeartbeats 3200000 in
theorem likeMb_any (A D : Ma) (m : Mb) (w : World) (hv : MbS w A m) (hu : MbS w D m) :
  Calls Tryz.prog 11 #[mbV A m,mbV D m] w fun e w' => e = .returned (.bool true) ∧ Below w.heap.size w w' := by
 have hmix := mixed17
 have hB0 : Below w.heap.size w ((w.alloc (.cells #[.int .i64 m.id,.int .i64 m.n,.slice A.ra m.rows.length A.rc,.slice A.sa m.sung.length A.sc,.bool m.done] 27)).alloc (.cells #[.int .i64 m.id,.int .i64 m.n,.slice D.ra m.rows.length D.rc,.slice D.sa m.sung.length D.sc,.bool m.done] 27)) := (oneA16 w _).trans ((oneA16 _ _).mono (oneA16 w _).size)
 have hx : Bx ((w.alloc (.cells #[.int .i64 m.id,.int .i64 m.n,.slice A.ra m.rows.length A.rc,.slice A.sa m.sung.length A.sc,.bool m.done] 27)).alloc (.cells #[.int .i64 m.id,.int .i64 m.n,.slice D.ra m.rows.length D.rc,.slice D.sa m.sung.length D.sc,.bool m.done] 27)) w.heap.size 27 #[.int .i64 m.id,.int .i64 m.n,.slice A.ra m.rows.length A.rc,.slice A.sa m.sung.length A.sc,.bool m.done] := (Bx.new w _ _).alloc _
 have hy : Bx ((w.alloc (.cells #[.int .i64 m.id,.int .i64 m.n,.slice A.ra m.rows.length A.rc,.slice A.sa m.sung.length A.sc,.bool m.done] 27)).alloc (.cells #[.int .i64 m.id,.int .i64 m.n,.slice D.ra m.rows.length D.rc,.slice D.sa m.sung.length D.sc,.bool m.done] 27)) (w.heap.size + 1) 27 #[.int .i64 m.id,.int .i64 m.n,.slice D.ra m.rows.length D.rc,.slice D.sa m.sung.length D.sc,.bool m.done] := by
  have := Bx.new (w.alloc (.cells #[.int .i64 m.id,.int .i64 m.n,.slice A.ra m.rows.length A.rc,.slice A.sa m.sung.length A.sc,.bool m.done] 27)) 27 #[.int .i64 m.id,.int .i64 m.n,.slice D.ra m.rows.length D.rc,.slice D.sa m.sung.length D.sc,.bool m.done]
  simpa using this
 have hm := hv.mr
 unfold maxLen at hm
 have hE : ∀ X,Below w.heap.size w X → Calls Tryz.prog 37 #[.slice A.sa m.sung.length A.sc,.slice D.sa m.sung.length D.sc] X fun e w' => e = .returned (.bool true) ∧ Below X.heap.size X w' := fun X h => (like_any A.sa D.sa m.sung.length A.sc m.sung.length D.sc m.sung m.sung X (hv.sung.below h (Nat.le_refl _)) (hu.sung.below h (Nat.le_refl _)) hv.ms).mono (fun e w' ⟨h1,q,h2⟩ => ⟨by rw [h1];simp [sameB],by rw [h2];exact belowN (Below.refl _ _)⟩)
 have HV : Hid (∀ X,Below w.heap.size w X → MbS X A m) := fun X h => hv.below h
 have HU : Hid (∀ X,Below w.heap.size w X → MbS X D m) := fun X h => hu.below h
 unfold mbV mbC
 generalize hWW : (w.alloc (.cells #[.int .i64 m.id,.int .i64 m.n,.slice A.ra m.rows.length A.rc,.slice A.sa m.sung.length A.sc,.bool m.done] 27)).alloc (.cells #[.int .i64 m.id,.int .i64 m.n,.slice D.ra m.rows.length D.rc,.slice D.sa m.sung.length D.sc,.bool m.done] 27) = W at *
 have n1 : (m.id != m.id) = false := by simp
 have n2 : (m.n != m.n) = false := by simp
 have n3 : (m.done != m.done) = false := by simp
 have n4 : ((m.rows.length : Int) != (m.rows.length : Int)) = false := by simp
 have HX : Hid (Bx W w.heap.size 27 #[.int .i64 m.id,.int .i64 m.n,.slice A.ra m.rows.length A.rc,.slice A.sa m.sung.length A.sc,.bool m.done]) := hx
 have HY : Hid (Bx W (w.heap.size + 1) 27 #[.int .i64 m.id,.int .i64 m.n,.slice D.ra m.rows.length D.rc,.slice D.sa m.sung.length D.sc,.bool m.done]) := hy
 have HB : Hid (Below w.heap.size w W) := hB0
 obtain ⟨c0,c1,c2,c3,c4⟩ := Bx.r5 hx
 obtain ⟨d0,d1,d2,d3,d4⟩ := Bx.r5 hy
 clear hv hu hB0 hx hy
 go_enter Tryz.func11,Tryz.ntmps11
 go_wp2_with fail
 refine (hE _ HB.out).mono ?_
 rintro e w1 ⟨rfl,hb1⟩
 have HB1 : Hid (Below w.heap.size w w1) := HB.out.trans (hb1.mono HB.out.size)
 have HX1 : Hid (Bx w1 w.heap.size 27 #[.int .i64 m.id,.int .i64 m.n,.slice A.ra m.rows.length A.rc,.slice A.sa m.sung.length A.sc,.bool m.done]) := HX.out.below hb1
 have HY1 : Hid (Bx w1 (w.heap.size + 1) 27 #[.int .i64 m.id,.int .i64 m.n,.slice D.ra m.rows.length D.rc,.slice D.sa m.sung.length D.sc,.bool m.done]) := HY.out.below hb1
 clear c0 c1 c2 c3 c4 d0 d1 d2 d3 d4 hE hb1 HX HY
 obtain ⟨c0,c1,c2,c3,c4⟩ := Bx.r5 HX1.out
 obtain ⟨d0,d1,d2,d3,d4⟩ := Bx.r5 HY1.out
 go_wp2_with fail
 clear c0 c1 c2 c3 c4 d0 d1 d2 d3 d4 n1 n2 n3 n4
 go_loopw [5] (fun v wr => ∃ k : Nat,k ≤ m.rows.length ∧ v = .int .i64 (k : Int) ∧ Below w1.heap.size w1 wr) (fun v _ => m.rows.length - (intOf v).toNat)
 case atStart => exact ⟨0,Nat.zero_le _,rfl,Below.refl _ _⟩
 case round =>
  obtain ⟨k,hk,rfl,hb⟩ := hrel
  have HBr : Hid (Below w1.heap.size w1 wr) := hb
  have HBw : Hid (Below w.heap.size w wr) := HB1.out.trans (hb.mono HB1.out.size)
  obtain ⟨c0,c1,c2,c3,c4⟩ := Bx.r5 (HX1.out.below hb)
  obtain ⟨d0,d1,d2,d3,d4⟩ := Bx.r5 (HY1.out.below hb)
  by_cases hlt : k < m.rows.length
  ·have k1 : (k : Int) < (m.rows.length : Int) := by omega
   have k0 : (0 : Int) ≤ (k : Int) := by omega
   have hva := HV.out wr HBw.out
   have hvd := HU.out wr HBw.out
   obtain ⟨g,off,Ak,ea,⟨⟨x0,x1,x2,x3⟩,x4,x5,x6,x7⟩,hr1⟩ := hva.row hlt
   obtain ⟨g',off',Dk,ed,⟨⟨y0,y1,y2,y3⟩,y4,y5,y6,y7⟩,hr2⟩ := hvd.row hlt
   rw [ea] at c2
   rw [ed] at d2
   have CL : ∀ q : Bk wr,Calls Tryz.prog 20 #[rwV Ak (rowN m.rows k),rwV Dk (rowN m.rows k)] q.w fun e w' => e = .returned (.bool true) ∧ Below q.w.heap.size q.w w' := fun q => (likeRw_any Ak Dk (rowN m.rows k) q.w (hr1.below q.h) (hr2.below q.h)).mono (fun e w' h => ⟨h.1,h.2.1⟩)
   unfold rwV rwC at CL
   have T : ∀ {x v},wr.cell? x = some v → ∀ q : Bk wr,q.w.cell? x = some v := fun h q => (q.h.cell (World.block_lt_of_cell? _ _ h)).trans h
   have pc2 := T c2
   have pd2 := T d2
   have px0 := T x0
   have px1 := T x1
   have px2 := T x2
   have px3 := T x3
   have px4 := T x4
   have px5 := T x5
   have px6 := T x6
   have px7 := T x7
   have py0 := T y0
   have py1 := T y1
   have py2 := T y2
   have py3 := T y3
   have py4 := T y4
   have py5 := T y5
   have py6 := T y6
   have py7 := T y7
   have wk : wrap64 ((k : Int) + 1) = (k : Int) + 1 := by unfold wrap64;omega
   generalize rowN m.rows k = r at *
   clear hva hvd hr1 hr2 T x0 x1 x2 x3 x4 x5 x6 x7 y0 y1 y2 y3 y4 y5 y6 y7 d2 c0 c1 c3 c4 d0 d1 d3 d4 hb
   go_wp2_with fail
   refine wp_region_bk (by kernel_rfl) (by kernel_rfl) ?_
   repeat (go_big_quiet_step ((first | (go_at_call 20;exact bk_call _ (CL _)) | rfl)))
   refine wpQuiet_nil ?_
   intro wE hw'
   obtain ⟨⟨w11,hb11⟩,hw''⟩ := hw'
   have hwe : wE = w11 := hw''
   clear hw''
   subst hwe
   have HB2 : Hid (Below w1.heap.size w1 wE) := HBr.out.trans (hb11.mono HBr.out.size)
   clear CL pc2 pd2 px0 px1 px2 px3 px4 px5 px6 px7 py0 py1 py2 py3 py4 py5 py6 py7 c2 hb11
   go_wp2
   go_roundw
   case rel => exact ⟨k + 1,by omega,by go_num,HB2.out⟩
   case measure => simp [intOf];omega
  ·have k1 : ¬ ((k : Int) < (m.rows.length : Int)) := by omega
   clear hb
   go_wp2
   go_ret
   exact ⟨rfl,HBw.out⟩
end Go.Proofs.YtidnfdobljihoaaGreat
namespace Go.Proofs.YtidnfdobljihoaaGreat
set_option linter.unusedSimpArgs false
set_option linter.unusedVariables false
open Go.RowKit Go.Sort
theorem el_mem9 {xs : List Int} {x : Int} : x ∈ xs ↔ ∃ j,j < xs.length ∧ el xs j = x := by
 constructor
 ·intro h
  obtain ⟨j,hj,rfl⟩ := List.getElem_of_mem h
  exact ⟨j,hj,el_eq hj⟩
 ·rintro ⟨j,hj,rfl⟩
  exact el_mem hj
theorem rises_el9 {Z : List Int} (h : Z.Pairwise (· < ·)) : ∀ j,j + 1 < Z.length → el Z j < el Z (j + 1) := fun j hj => by
 rw [el_eq (by omega),el_eq hj]
 exact List.pairwise_iff_getElem.1 h j (j + 1) (by omega) hj (by omega)
set_option maxHeartbeats 400000 in
theorem has9_any (b off len cap : Nat) (x : Int) (xs : List Int) (w : World) (hlen : xs.length = len) (hc : ∀ i,i < len → w.cell? ⟨b,off + i,none⟩ = some (.int .i64 (el xs i))) (hm : len ≤ maxLen) :
  Calls Tryz.prog 19 #[.slice (some ⟨b,off,none⟩) len cap,.int .i64 x] w fun e w' => e = .returned (.bool (decide (x ∈ xs))) ∧ w' = w := by
 unfold maxLen at hm
 have HL : Hid (xs.length = len) := hlen
 clear hlen
 go_enter Tryz.func19,Tryz.ntmps19
 go_wp2
 go_loop [5] (fun i => ∃ k : Nat,k ≤ len ∧ i = .int .i64 k ∧ ∀ j,j < k → el xs j ≠ x) (fun i => len - (intOf i).toNat)
 case atStart => exact ⟨0,Nat.zero_le _,rfl,fun j hj => by omega⟩
 case round =>
  obtain ⟨k,hk,rfl,hno⟩ := hrel
  have HN : Hid (∀ j,j < k → el xs j ≠ x) := hno
  clear hno
  by_cases hlt : k < len
  ·have hck := hc k hlt
   by_cases he : el xs k = x
   ·have hb : (el xs k == x) = true := by simpa using he
    have HF : Hid (decide (x ∈ xs) = true) := by rw [Hid,decide_eq_true_eq];exact el_mem9.2 ⟨k,by rw [HL.out];exact hlt,he⟩
    clear he
    go_wp2
    go_ret
    exact ⟨ret_bool (by rw [HF.out]),rfl⟩
   ·have hb : (el xs k == x) = false := by simpa using he
    have HE : Hid (el xs k ≠ x) := he
    clear he
    go_wp2
    go_round
    case rel => exact ⟨k + 1,by omega,by go_num,fun j hj => by
     rcases Nat.lt_succ_iff_lt_or_eq.1 hj with h | h
     ·exact HN.out j h
     ·rw [h];exact HE.out⟩
    case measure => simp [intOf];omega
  ·have HF : Hid (decide (x ∈ xs) = false) := by
    rw [Hid,decide_eq_false_iff_not,el_mem9]
    rintro ⟨j,hj,e⟩
    exact HN.out j (by rw [HL.out] at hj;omega) e
   go_wp2
   go_ret
   exact ⟨ret_bool (by rw [HF.out]),rfl⟩
set_option maxHeartbeats 400000 in
theorem rises9_any (b off len cap : Nat) (xs : List Int) (w : World) (hlen : xs.length = len) (hc : ∀ i,i < len → w.cell? ⟨b,off + i,none⟩ = some (.int .i64 (el xs i))) (hm : len ≤ 1000000) (hr : ∀ j,j + 1 < len → el xs j < el xs (j + 1)) :
  Calls Tryz.prog 21 #[.slice (some ⟨b,off,none⟩) len cap] w fun e w' => e = .returned (.bool true) ∧ ∃ n,w' = w.drewN n := by
 have HR : Hid (∀ j,j + 1 < len → el xs j < el xs (j + 1)) := hr
 clear hr hlen
 go_enter Tryz.func21,Tryz.ntmps21
 go_wp2
 go_loopw [3] (fun i wr => ∃ k n : Nat,k ≤ len ∧ i = .int .i64 ((k : Int) + 1) ∧ wr = w.drewN n) (fun i _ => (len + 1) - (intOf i).toNat)
 case atStart => exact ⟨0,0,Nat.zero_le _,rfl,rfl⟩
 case round =>
  obtain ⟨k,n,hk,rfl,rfl⟩ := hrel
  by_cases hlt : k + 1 < len
  ·have c1 := hc (k + 1) hlt
   have c0 := hc k (by omega)
   have hd : decide (el xs (k + 1) ≤ el xs k) = false := by have := HR.out k hlt;simp;omega
   have h1 : (k : Int) + 1 < (len : Int) := by omega
   have h2 : (k : Int) < (len : Int) := by omega
   have h0 : (0 : Int) ≤ (k : Int) + 1 := by omega
   have h3 : (0 : Int) ≤ (k : Int) := by omega
   have e1 : ((k : Int) + 1).toNat = k + 1 := by omega
   go_wp2_with fail
   go_quiet (fail)
   go_wp2
   go_roundw
   case rel => exact ⟨k + 1,_,by omega,by go_num,rfl⟩
   case measure => simp [intOf];omega
  ·have hd : decide ((k : Int) + 1 < (len : Int)) = false := by simp;omega
   go_wp2
   go_ret
   exact ⟨rfl,_,rfl⟩
end Go.Proofs.YtidnfdobljihoaaGreat
namespace Go.Proofs.YtidnfdobljihoaaGreat
set_option linter.unusedVariables false
set_option linter.unusedSimpArgs false
open Go.RowKit Go.Sort
set_option maxHeartbeats 400000 in
theorem has17_any (a : Option Addr) (cap : Nat) (x : Int) (xs : List Int) (w : World) (hv : Vec w a xs.length xs) (hm : xs.length ≤ maxLen) :
  Calls Tryz.prog 19 #[.slice a xs.length cap,.int .i64 x] w fun e w' => e = .returned (.bool (decide (x ∈ xs))) ∧ Below w.heap.size w w' := by
 rcases hv.2.2 with h | ⟨b,off,rfl,hc⟩
 ·obtain rfl : xs = [] := List.eq_nil_of_length_eq_zero h
  have hd : decide (x ∈ ([] : List Int)) = false := by simp
  rw [hd]
  clear hv h hm hd
  go_enter Tryz.func19,Tryz.ntmps19
  go_wp2
  go_loop [5] (fun i => i = .int .i64 0) (fun i => 0)
  case atStart => rfl
  case round =>
   obtain rfl := hrel
   go_wp2
   go_ret
   exact ⟨rfl,Below.refl _ _⟩
 ·exact (has9_any b off xs.length cap x xs w rfl hc hm).mono (fun e w' h => ⟨h.1,by rw [h.2];exact Below.refl _ _⟩)
set_option maxHeartbeats 400000 in
theorem rises17_any (a : Option Addr) (cap : Nat) (xs : List Int) (w : World) (hv : Vec w a xs.length xs) (hm : xs.length ≤ 1000000) (hr : xs.Pairwise (· < ·)) :
  Calls Tryz.prog 21 #[.slice a xs.length cap] w fun e w' => e = .returned (.bool true) ∧ Below w.heap.size w w' := by
 rcases hv.2.2 with h | ⟨b,off,rfl,hc⟩
 ·obtain rfl : xs = [] := List.eq_nil_of_length_eq_zero h
  clear hv h hm hr
  go_enter Tryz.func21,Tryz.ntmps21
  go_wp2
  go_loop [3] (fun i => i = .int .i64 1) (fun i => 0)
  case atStart => rfl
  case round =>
   obtain rfl := hrel
   go_wp2
   go_ret
   exact ⟨rfl,Below.refl _ _⟩
 ·exact (rises9_any b off xs.length cap xs w rfl hc hm (rises_el9 hr)).mono (fun e w' ⟨h1,q,h2⟩ => ⟨h1,by rw [h2];exact belowN (Below.refl _ _)⟩)
structure Mx (w : World) (o : Nat) (A : Ma) (m : Mb) : Prop where
 box : Bx w o 27 #[.int .i64 m.id,.int .i64 m.n,.slice A.ra m.rows.length A.rc,.slice A.sa m.sung.length A.sc,.bool m.done]
 own : ∃ f,owL w (mbCels m) (mbVals A m) f
 fit : FitM m
section
variable {w w' : World} {o : Nat} {A : Ma} {m : Mb}
theorem Mx.below (h : Mx w o A m) (hb : Below w.heap.size w w') : Mx w' o A m := ⟨h.box.below hb,h.own.imp (fun f h => owL_below h hb),h.fit⟩
theorem Mx.mbs (h : Mx w o A m) : MbS w A m := by
 obtain ⟨f,hf⟩ := h.own
 exact mbs_of (owL_vw hf) h.fit
theorem Mx.mbp (h : Mx w o A m) (h6 : Mb64 m) (hs : szMb m ≤ 1048576) : MbP w A m := ⟨h.own,h.fit,h6,hs⟩
theorem Mx.new {lo hi : Nat} (h : It w (mbCels m) (mbVals A m) lo hi) (hf : FitM m) : Mx (w.alloc (.cells #[.int .i64 m.id,.int .i64 m.n,.slice A.ra m.rows.length A.rc,.slice A.sa m.sung.length A.sc,.bool m.done] 27)) w.heap.size A m := ⟨Bx.new _ _ _,by obtain ⟨f,hf,_⟩ := h.below (oneA16 w _);exact ⟨f,hf⟩,hf⟩
end
theorem OkM.p64 {m : Mb} {i n : Nat} (h : OkM m i n) : Mb64 m ∧ szMb m ≤ 1048576 := by
 have h5 := h.n5
 have hl := h.lt
 refine ⟨⟨⟨by rw [h.hid];omega,by rw [h.hid];omega⟩,⟨by rw [h.hn];omega,by rw [h.hn];omega⟩,fun r hr => ?_⟩,by have := h.small.2.2.2;omega⟩
 have hr := h.rowOk r hr
 have hv := hr.ver
 cases e : r.rdy with
 | true => have := (hr.rdy e).2.1;exact ⟨⟨by omega,by omega⟩,by omega,by omega⟩
 | false => rw [Rw64,(hr.not e).1];exact ⟨⟨by omega,by omega⟩,by omega,by omega⟩
end Go.Proofs.YtidnfdobljihoaaGreat