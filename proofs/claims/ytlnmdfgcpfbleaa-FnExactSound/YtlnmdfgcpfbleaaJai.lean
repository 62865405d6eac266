/-
  Texts in one: Qac.
-/
import Derived.Test.YtlnmdfgcpfbleaaJah
namespace Go.Proofs.Ytlnmdfgcpfbleaa
set_option linter.unusedVariables false
set_option linter.unusedSimpArgs false
open Go.RowKit Go.Sort
attribute [local irreducible] sv
theorem buildB_run (w : World) : (Instr.build 118 #[]).run Try.prog w = .ok (.agg (vA 120 bokZ)) w := by
 obtain ⟨t,ht,hz,hs,_⟩ := info_parts2n Try.infoSb
 obtain ⟨t4,ht4,_,hs4,_⟩ := info_parts2n Try.infoPg
 simp [Instr.build,zeroValue,typeInfo,ht,hz,run_underlying Try.underlying118,sizeOf,ht4,hs4,Instr.fill,Value.cells]
theorem wpB_build (w : World) {ops : Array Oper} {rest : List Oper} {o : Oper} {a : Act} {Q : Exit → Act → World → Prop} (hgd : o.guard = none) (hop : o.op = .build 118 #[])
  (h : wpList Try.prog ops Q rest (a.put o.dst (.agg (vA 120 bokZ))) w) : wpList Try.prog ops Q (o :: rest) a w :=
 wpX_val w hgd _ _ (by unfold execOp;simp only [hop,List.map_toArray,List.map_nil,Sem.run_bind,buildB_run,Result.andThen_ok,Sem.run_pure]) h
set_option maxRecDepth 100000 in
set_option maxHeartbeats 3200000 in
theorem tks_no (B : Nat) (A : Ma) (m : Mb) (hvo : (voiL m).2 = false) (w : World) (hm : MbP w A m) :
  Calls Try.prog 106 #[.pointer (some ⟨B,0,none⟩),mbV A m] w fun e w' => e = .returned (.bool false) ∧ Below w.heap.size w w' := by
 have hb0 := oneA16 w (.cells #[.int .i64 m.id,.int .i64 m.n,.slice A.ra m.rows.length A.rc,.slice A.sa m.sung.length A.sc,.bool m.done] 103)
 have hx0 := Bx.new w 103 #[.int .i64 m.id,.int .i64 m.n,.slice A.ra m.rows.length A.rc,.slice A.sa m.sung.length A.sc,.bool m.done]
 have hV := implVoice A m (w.alloc (.cells #[.int .i64 m.id,.int .i64 m.n,.slice A.ra m.rows.length A.rc,.slice A.sa m.sung.length A.sc,.bool m.done] 103)) (hm.below hb0)
 have hvm : voiM m = [] := by
  unfold voiM
  split
  ·exact (voiL_no hvo).1
  ·rfl
 have hpos := (voiL_no hvo).2
 rw [hvm] at hV
 unfold mbV mbC at hV ⊢
 generalize hWW : w.alloc (.cells #[.int .i64 m.id,.int .i64 m.n,.slice A.ra m.rows.length A.rc,.slice A.sa m.sung.length A.sc,.bool m.done] 103) = W at *
 have HX0 : Hid (Bx W w.heap.size 103 #[.int .i64 m.id,.int .i64 m.n,.slice A.ra m.rows.length A.rc,.slice A.sa m.sung.length A.sc,.bool m.done]) := hx0
 have HB0 : Hid (Below w.heap.size w W) := hb0
 obtain ⟨c0,c1,c2,c3,c4⟩ := Bx.r5 hx0
 clear hm hb0 hx0 hvo hvm
 go_enter Try.func106,Try.ntmps106
 go_wp2_with fail
 refine hV.mono ?_
 rintro e W1 ⟨ta,tc,rfl,hN⟩
 have hb1 : Below W.heap.size W W1 := hN.choose_spec.2.2
 have HB1 : Hid (Below w.heap.size w W1) := HB0.out.trans (hb1.mono HB0.out.size)
 clear c0 c1 c2 c3 c4
 obtain ⟨c0,c1,c2,c3,c4⟩ := Bx.r5 (HX0.out.below hb1)
 have n1 : (((0 : Nat) : Int) != (m.sung.length : Int)) = true := bne_iff_ne.2 (by omega)
 have n2 : ((0 : Int) != (m.sung.length : Int)) = true := bne_iff_ne.2 (by omega)
 clear hV hN hb1 hWW HX0 HB0
 go_wp2
 go_ret
 exact ⟨rfl,HB1.out⟩
def Sgd (g : Gr) (k h q : Nat) (t : List UInt8) : Prop := (∃ i h',i < k ∧ h' < (memN g i).sung.length ∧ (el (memN g i).sung h').toNat = q ∧ (voN g i).getD h' [] = t) ∨ ∃ h',h' < h ∧ h' < (memN g k).sung.length ∧ (el (memN g k).sung h').toNat = q ∧ (voN g k).getD h' [] = t
def BkI (g : Gr) (k h : Nat) (F : Bok) : Prop := ∀ q t,F q = some t ↔ Sgd g k h q t
theorem bki_zero (g : Gr) : BkI g 0 0 (fun _ => none) := fun q t => by
 constructor
 ·intro h;cases h
 ·rintro (⟨i,h',h1,_⟩ | ⟨h',h1,_⟩) <;> omega
theorem bki_step {g : Gr} {k h : Nat} {F : Bok} (H : BkI g k h F) (hh : h < (memN g k).sung.length) (hf : F (el (memN g k).sung h).toNat = none ∨ F (el (memN g k).sung h).toNat = some ((voN g k).getD h [])) : BkI g k (h + 1) (upB F (el (memN g k).sung h).toNat ((voN g k).getD h [])) := fun q t => by
 have hold : Sgd g k h q t → Sgd g k (h + 1) q t := fun x => by
  rcases x with x | ⟨h',h1,x⟩
  ·exact .inl x
  ·exact .inr ⟨h',by omega,x⟩
 unfold upB
 by_cases e : q = (el (memN g k).sung h).toNat
 ·subst e
  rw [if_pos rfl]
  constructor
  ·intro x
   exact .inr ⟨h,by omega,hh,rfl,Option.some.inj x⟩
  ·intro x
   have hs : Sgd g k h (el (memN g k).sung h).toNat t ∨ (voN g k).getD h [] = t := by
    rcases x with x | ⟨h',h1,h2,h3,h4⟩
    ·exact .inl (.inl x)
    ·rcases Nat.lt_succ_iff_lt_or_eq.1 h1 with y | y
     ·exact .inl (.inr ⟨h',y,h2,h3,h4⟩)
     ·subst y;exact .inr h4
   rcases hs with hs | hs
   ·have := (H _ t).2 hs
    rcases hf with f | f
    ·rw [f] at this;cases this
    ·rw [f] at this;exact this
   ·rw [hs]
 ·rw [if_neg e,H q t]
  constructor
  ·exact hold
  ·intro x
   rcases x with x | ⟨h',h1,h2,h3,h4⟩
   ·exact .inl x
   ·rcases Nat.lt_succ_iff_lt_or_eq.1 h1 with y | y
    ·exact .inr ⟨h',y,h2,h3,h4⟩
    ·subst y;exact absurd h3.symm e
theorem bki_next {g : Gr} {k : Nat} {F : Bok} (H : BkI g k (memN g k).sung.length F) : BkI g (k + 1) 0 F := fun q t => by
 rw [H q t]
 constructor
 ·rintro (⟨i,h',h1,x⟩ | ⟨h',h1,h2,x⟩)
  ·exact .inl ⟨i,h',by omega,x⟩
  ·exact .inl ⟨k,h',by omega,h2,x⟩
 ·rintro (⟨i,h',h1,h2,x⟩ | ⟨h',h1,_⟩)
  ·rcases Nat.lt_succ_iff_lt_or_eq.1 h1 with y | y
   ·exact .inl ⟨i,h',y,h2,x⟩
   ·subst y;exact .inr ⟨h',h2,h2,x⟩
  ·omega
theorem ris_ne {l : List Int} (h : l.Pairwise (· < ·)) {a b : Nat} (hab : a < b) (hb : b < l.length) : el l a < el l b := by
 have := List.pairwise_iff_getElem.1 h a b (by omega) hb hab
 simpa [el,hb,show a < l.length by omega] using this
theorem bki_fail {g : Gr} {n k h : Nat} {F : Bok} (G : OkG g n) (hk : k < n) (hv : ∀ i,i ≤ k → (voiL (memN g i)).2 = true) (H : BkI g k h F) (hh : h < (memN g k).sung.length) {t : List UInt8} (hf : F (el (memN g k).sung h).toNat = some t) (ht : t ≠ (voN g k).getD h []) : sndQ g = false := by
 have M := G.mem k hk
 rcases (H _ t).1 hf with ⟨i,h',h1,h2,h3,h4⟩ | ⟨h',h1,h2,h3,h4⟩
 ·have Mi := G.mem i (by omega)
  have e : el (memN g k).sung h = el (memN g i).sung h' := by
   have a := (M.sg h hh).1
   have b := (Mi.sg h' h2).1
   omega
  refine sndQ_no (i := k) (k := h) (j := i) (h := h') (by rw [G.ml];exact hk) (by rw [voN_len (hv k (Nat.le_refl _))];exact hh) h1 (by rw [voN_len (hv i (by omega))];exact h2) ?_
  unfold q4
  rw [decide_eq_true e,decide_eq_false (fun x => ht (by rw [x,h4]))]
  rfl
 ·have a := (M.sg h hh).1
  have b := (M.sg h' h2).1
  have := ris_ne M.ris h1 hh
  omega
theorem bki_done {g : Gr} {n : Nat} {F : Bok} (G : OkG g n) (hv : ∀ i,i < n → (voiL (memN g i)).2 = true) (H : BkI g n 0 F) : sndQ g = true := by
 refine sndQ_iff.2 fun i hi k hk j hj h hh => ?_
 rw [G.ml] at hi
 rw [voN_len (hv i hi)] at hk
 rw [voN_len (hv j (by omega))] at hh
 unfold q4
 by_cases e : el (memN g i).sung k = el (memN g j).sung h
 ·have f1 := (H (el (memN g i).sung k).toNat ((voN g i).getD k [])).2 (.inl ⟨i,k,hi,hk,rfl,rfl⟩)
  have f2 := (H (el (memN g i).sung k).toNat ((voN g j).getD h [])).2 (.inl ⟨j,h,by omega,hh,by rw [e],rfl⟩)
  have : (voN g i).getD k [] = (voN g j).getD h [] := Option.some.inj (f1.symm.trans f2)
  rw [decide_eq_true this]
  simp
 ·rw [decide_eq_false e]
  rfl
set_option maxRecDepth 100000 in
set_option maxHeartbeats 3200000 in
theorem implSound : ImplSound := by
 intro A g w hv
 have hb0 := oneA16 w (.cells #[.slice A.ma g.mem.length A.mc,.slice A.ua g.up.length A.uc,.slice A.la g.mail.length A.lc] 61)
 have hx0 := Bx.new w 61 #[.slice A.ma g.mem.length A.mc,.slice A.ua g.up.length A.uc,.slice A.la g.mail.length A.lc]
 have hG := gokI_any A g (w.alloc (.cells #[.slice A.ma g.mem.length A.mc,.slice A.ua g.up.length A.uc,.slice A.la g.mail.length A.lc] 61)) (hv.below hb0)
 have HV : Hid (GrP (w.alloc (.cells #[.slice A.ma g.mem.length A.mc,.slice A.ua g.up.length A.uc,.slice A.la g.mail.length A.lc] 61)) A g) := hv.below hb0
 unfold grV grC at hG ⊢
 generalize hWW : w.alloc (.cells #[.slice A.ma g.mem.length A.mc,.slice A.ua g.up.length A.uc,.slice A.la g.mail.length A.lc] 61) = W at *
 have HX : Hid (Bx W w.heap.size 61 #[.slice A.ma g.mem.length A.mc,.slice A.ua g.up.length A.uc,.slice A.la g.mail.length A.lc]) := hx0
 have HB0 : Hid (Below w.heap.size w W) := hb0
 obtain ⟨c0,c1,c2⟩ := Bx.g3 hx0
 clear hv hb0 hx0
 go_enter Try.func49,Try.ntmps49
 go_wp2_with fail
 refine hG.mono ?_
 rintro e w1 ⟨rfl,hb1⟩
 have HB1 : Hid (Below w.heap.size w w1) := HB0.out.trans (hb1.mono HB0.out.size)
 have HV1 : Hid (GrP w1 A g) := HV.out.below hb1
 have HX1 : Hid (Bx w1 w.heap.size 61 #[.slice A.ma g.mem.length A.mc,.slice A.ua g.up.length A.uc,.slice A.la g.mail.length A.lc]) := HX.out.below hb1
 clear c0 c1 c2
 obtain ⟨c0,c1,c2⟩ := Bx.g3 HX1.out
 clear hG hb1 HX HV HB0 hWW
 cases hok : okGr g with
 | false =>
  have HZ : Hid (sndB g = false) := by rw [Hid,sndB,hok];rfl
  clear hok
  go_wp2
  go_ret
  exact ⟨ret_bool HZ.out.symm,HB1.out⟩
 | true =>
  have HZ : Hid (sndB g = (voAll g && sndQ g)) := by rw [Hid,sndB,hok];rfl
  obtain ⟨n,ok⟩ := okGr_iff.1 hok
  have HOk : Hid (OkG g n) := ok
  have HN : Hid (g.mem.length = n) := ok.ml
  have h5 : g.mem.length ≤ 5 := by rw [ok.ml];exact ok.n5.2
  have hba := oneA16 w1 (.cells (vA 120 bokZ) 118)
  have hA0 : VAt (w1.alloc (.cells (vA 120 bokZ) 118)) w1.heap.size 0 120 bokZ := va_alloc w1 120 bokZ _
  have HA1 : Hid (VAt ((w1.alloc (.cells (vA 120 bokZ) 118)).setCells w1.heap.size 0 (vA 120 bokZ).toList) w1.heap.size 0 120 (bokC (fun _ => none))) := by rw [bok_zero];exact hA0.sets bokZ
  have HBA : Hid (Below w1.heap.size w1 ((w1.alloc (.cells (vA 120 bokZ) 118)).setCells w1.heap.size 0 (vA 120 bokZ).toList)) := (Wrt.of_grown (grown_setCells w1.heap.size (vA 120 bokZ).toList 0 (w1.alloc (.cells (vA 120 bokZ) 118)))).below hba hba.size (fun b e => by cases e;exact Nat.le_refl _)
  clear hok ok hba
  go_upto_region 3 with fail
  go_upto_region 4 with (first | (refine wpB_build _ rfl rfl ?_) | (refine wpX_alloc _ rfl 118 120 1440 bokZ rfl Try.infoSb ?_) | (refine wpX_store _ rfl rfl 118 120 1440 bokZ _ _ rfl Try.infoSb w1.heap.size 0 bokZ bokZ (fun j _ => by unfold bokZ;split <;> rfl) rfl rfl hA0 ?_))
  generalize (w1.alloc (.cells (vA 120 bokZ) 118)).setCells w1.heap.size 0 (vA 120 bokZ).toList = W3 at *
  have g0 := HBA.out.cell (World.block_lt_of_cell? _ _ c0) |>.trans c0
  clear hA0 c0 c1 c2
  go_wp2_with fail
  clear g0
  go_loopw [13] (fun v wr => ∃ (k : Nat) (F : Bok),k ≤ g.mem.length ∧ v = .int .i64 (k : Int) ∧ VAt wr w1.heap.size 0 120 (bokC F) ∧ BkI g k 0 F ∧ (∀ i,i < k → (voiL (memN g i)).2 = true) ∧ Below w1.heap.size w1 wr) (fun v _ => g.mem.length - (intOf v).toNat)
  case atStart => exact ⟨0,_,Nat.zero_le _,rfl,HA1.out,bki_zero g,fun i hi => by omega,HBA.out⟩
  case round =>
   obtain ⟨k,F,hk,rfl,hbk,hI,hvo,hgr⟩ := hrel
   have HBk : Hid (VAt wr w1.heap.size 0 120 (bokC F)) := hbk
   have HI : Hid (BkI g k 0 F) := hI
   have HVo : Hid (∀ i,i < k → (voiL (memN g i)).2 = true) := hvo
   have HG : Hid (Below w1.heap.size w1 wr) := hgr
   clear hbk hI hvo
   by_cases hlt : k < g.mem.length
   ·have k1 : (k : Int) < (g.mem.length : Int) := by omega
    have k0 : (0 : Int) ≤ (k : Int) := by omega
    obtain ⟨b,off,Ak,hma,⟨e0,e1,e2,e3,e4⟩,hmp⟩ := HV1.out.member (k := k) hlt
    have LT : ∀ {x v},w1.cell? x = some v → wr.cell? x = some v := fun h => (hgr.cell (World.block_lt_of_cell? _ _ h)).trans h
    have d0 := LT e0
    have d1 := LT e1
    have d2 := LT e2
    have d3 := LT e3
    have d4 := LT e4
    have hkn : k < n := by rw [← HN.out];exact hlt
    have okm := HOk.out.mem k hkn
    have hbm := oneA16 wr (.cells #[.int .i64 (memN g k).id,.int .i64 (memN g k).n,.slice Ak.ra (memN g k).rows.length Ak.rc,.slice Ak.sa (memN g k).sung.length Ak.sc,.bool (memN g k).done] 103)
    have hbx := Bx.new wr 103 #[.int .i64 (memN g k).id,.int .i64 (memN g k).n,.slice Ak.ra (memN g k).rows.length Ak.rc,.slice Ak.sa (memN g k).sung.length Ak.sc,.bool (memN g k).done]
    have hgs := hgr.size
    have HGm : Hid (Below w1.heap.size w1 (wr.alloc (.cells #[.int .i64 (memN g k).id,.int .i64 (memN g k).n,.slice Ak.ra (memN g k).rows.length Ak.rc,.slice Ak.sa (memN g k).sung.length Ak.sc,.bool (memN g k).done] 103))) := hgr.trans (hbm.mono hgs)
    have HBm : Hid (VAt (wr.alloc (.cells #[.int .i64 (memN g k).id,.int .i64 (memN g k).n,.slice Ak.ra (memN g k).rows.length Ak.rc,.slice Ak.sa (memN g k).sung.length Ak.sc,.bool (memN g k).done] 103)) w1.heap.size 0 120 (bokC F)) := HBk.out.below hbm HBk.out.blk
    have HMp : Hid (MbP w1 Ak (memN g k)) := hmp
    rw [hma]
    clear LT e0 e1 e2 e3 e4 hbm hmp hma hgr HBk HG
    go_upto_region 7 with fail
    generalize wr.alloc (.cells #[.int .i64 (memN g k).id,.int .i64 (memN g k).n,.slice Ak.ra (memN g k).rows.length Ak.rc,.slice Ak.sa (memN g k).sung.length Ak.sc,.bool (memN g k).done] 103) = Y at *
    clear d0 d1 d2 d3 d4
    obtain ⟨d0,d1,d2,d3,d4⟩ := Bx.r5 hbx
    have HMy : MbP Y Ak (memN g k) := HMp.out.below HGm.out
    have hSg : ∀ X,Wrt (fun b => b = w1.heap.size) Y X → Vec X Ak.sa (memN g k).sung.length (memN g k).sung := fun X hX => (HMp.out.below (hX.below HGm.out (HGm.out.size) (fun b e => by rw [e];exact Nat.le_refl _))).mbs.sung
    cases hv : (voiL (memN g k)).2 with
    | false =>
     have hT := tks_no w1.heap.size Ak (memN g k) hv Y HMy
     unfold mbV mbC at hT
     have HE : Hid (sndB g = false) := by
      rw [Hid,HZ.out,voAll_no hlt hv]
      rfl
     clear hv hSg HMy hbx
     go_wp2_with fail
     refine hT.mono ?_
     rintro e Y2 ⟨rfl,hb2⟩
     have HF : Hid (Below w.heap.size w Y2) := HB1.out.trans ((HGm.out.trans (hb2.mono HGm.out.size)).mono HB1.out.size)
     clear hT hb2 d0 d1 d2 d3 d4
     go_wp2
     go_ret
     exact ⟨ret_bool HE.out.symm,HF.out⟩
    | true =>
     have hT := tks_any w1.heap.size Ak (memN g k) k n okm hv (fun h F => BkI g k h F) (fun h F hh H hf => bki_step H hh hf) F HI.out Y HBm.out HMy hSg
     unfold mbV mbC at hT
     have HVn : Hid (∀ i,i < k + 1 → (voiL (memN g i)).2 = true) := fun i hi => by
      rcases Nat.lt_succ_iff_lt_or_eq.1 hi with h | h
      ·exact HVo.out i h
      ·rw [h];exact hv
     clear hv hSg HMy hbx HVo
     go_wp2_with fail
     refine hT.mono ?_
     rintro e Y2 ⟨F2,hb2,hw2,hres⟩
     have HB2 : Hid (VAt Y2 w1.heap.size 0 120 (bokC F2)) := hb2
     have HG2 : Hid (Below w1.heap.size w1 Y2) := hw2.below HGm.out HGm.out.size (fun b e => by rw [e];exact Nat.le_refl _)
     clear hT hb2 hw2 d0 d1 d2 d3 d4
     rcases hres with ⟨rfl,hI2⟩ | ⟨rfl,h,hh,hIh,t,hf,ht⟩
     ·have HI2 : Hid (BkI g (k + 1) 0 F2) := bki_next hI2
      clear hI2
      go_wp2
      go_roundw
      case rel => exact ⟨k + 1,F2,by omega,by go_num,HB2.out,HI2.out,HVn.out,HG2.out⟩
      case measure => simp [intOf];omega
     ·have HE : Hid (sndB g = false) := by
       rw [Hid,HZ.out,bki_fail HOk.out hkn (fun i hi => HVn.out i (by omega)) hIh hh hf ht]
       simp
      have HF : Hid (Below w.heap.size w Y2) := HB1.out.trans (HG2.out.mono HB1.out.size)
      clear hIh hh hf ht
      go_wp2
      go_ret
      exact ⟨ret_bool HE.out.symm,HF.out⟩
   ·have k1 : ¬ ((k : Int) < (g.mem.length : Int)) := by omega
    have e : k = n := by have := HN.out;omega
    have HE : Hid (sndB g = true) := by
     have h1 := HI.out
     have h2 := HVo.out
     rw [e] at h1 h2
     rw [Hid,HZ.out,bki_done HOk.out h2 h1,voAll_yes (fun i hi => h2 i (by rw [← HN.out];exact hi))]
     rfl
    have HF : Hid (Below w.heap.size w wr) := HB1.out.trans (HG.out.mono HB1.out.size)
    clear hgr e
    go_wp2
    go_ret
    exact ⟨ret_bool HE.out.symm,HF.out⟩
end Go.Proofs.Ytlnmdfgcpfbleaa