/-
  Texts in one: Nmk Nml Nmm.
-/
import Derived.Test.YthioodpmgifomaaJah
import Derived.Test.YthioodpmgifomaaJae
namespace Go.Proofs.Ythioodpmgifomaa
set_option linter.unusedVariables false
set_option linter.unusedSimpArgs false
open Go.RowKit Go.Sort
def wkdM (m m' : Mb) (flag : Bool) : Mb × Bool := if okMb m = true then (if m.done = true then (m,false) else if flag = true then (m',true) else (m,false)) else (zeroMb,false)
def WkR (X : World) (B : Nat) (fp : Fp) (m' : Mb) (b : Bool) (w' : World) : Prop := if b = true then Bcm X w' B 0 (mb4 m') fp else ∃ m1,Bcm X w' B 0 (mb4 m1) fp
theorem WkR.wrt {X w' : World} {B : Nat} {fp : Fp} {m' : Mb} {b : Bool} (h : WkR X B fp m' b w') : Wrt (fun x => fp x ∨ x = B) X w' := by
 unfold WkR at h
 split at h
 ·exact h.wrt
 ·obtain ⟨m1,h⟩ := h
  exact h.wrt
set_option maxRecDepth 100000 in
set_option maxHeartbeats 1600000 in
theorem wkd_any (F : Nat) (C : Array Value) (A : Ma) (m m' : Mb) (flag : Bool) (w : World) (hv : MbP w A m) (hE : ∀ (args : Array Value) (w : World),(callFunc F args).run Try.prog w = .ok (.enter F args) w)
  (hm' : okMb m = true → flag = true → m'.n = (m'.rows.length : Int))
  (hF : ∀ X B fp i n,Below w.heap.size w X → Plc X B 0 (mb4 m) fp → OkM m i n → m.done = false → Calls Try.prog F (#[.pointer (some ⟨B,0,none⟩)] ++ C) X fun e w' => (flag = true ∧ e = .returned (.tuple #[]) ∧ Bcm X w' B 0 (mb4 m') fp) ∨ (flag = false ∧ Gu e ∧ ∃ m1,Bcm X w' B 0 (mb4 m1) fp)) :
  Calls Try.prog 74 #[mbV A m,.func (.func F) #[] C] w fun e w' => AnsMf w w' e (wkdM m m' flag).1 (wkdM m m' flag).2 := by
 have hmf : ∀ (fn : Fn) (first cap : Array Value) (w : World),(Instr.makeFunc fn first cap).run Try.prog w = .ok (.func fn first cap) w := fun _ _ _ _ => rfl
 have hb1 := oneA16 w (.cells #[.int .i64 m.id,.int .i64 m.n,.slice A.ra m.rows.length A.rc,.slice A.sa m.sung.length A.sc,.bool m.done] 39)
 have hb2 := oneA16 (w.alloc (.cells #[.int .i64 m.id,.int .i64 m.n,.slice A.ra m.rows.length A.rc,.slice A.sa m.sung.length A.sc,.bool m.done] 39)) (.cells #[.func (.func F) #[] C] 100)
 have hb3 := oneA16 ((w.alloc (.cells #[.int .i64 m.id,.int .i64 m.n,.slice A.ra m.rows.length A.rc,.slice A.sa m.sung.length A.sc,.bool m.done] 39)).alloc (.cells #[.func (.func F) #[] C] 100)) (.cells #[.int .i64 0,.int .i64 0,.slice none 0 0,.slice none 0 0,.bool false] 39)
 have hx1 : Bx (((w.alloc (.cells #[.int .i64 m.id,.int .i64 m.n,.slice A.ra m.rows.length A.rc,.slice A.sa m.sung.length A.sc,.bool m.done] 39)).alloc (.cells #[.func (.func F) #[] C] 100)).alloc (.cells #[.int .i64 0,.int .i64 0,.slice none 0 0,.slice none 0 0,.bool false] 39)) w.heap.size 39 #[.int .i64 m.id,.int .i64 m.n,.slice A.ra m.rows.length A.rc,.slice A.sa m.sung.length A.sc,.bool m.done] := ((Bx.new w _ _).alloc _).alloc _
 have hx2 : Bx (((w.alloc (.cells #[.int .i64 m.id,.int .i64 m.n,.slice A.ra m.rows.length A.rc,.slice A.sa m.sung.length A.sc,.bool m.done] 39)).alloc (.cells #[.func (.func F) #[] C] 100)).alloc (.cells #[.int .i64 0,.int .i64 0,.slice none 0 0,.slice none 0 0,.bool false] 39)) (w.heap.size + 1) 100 #[.func (.func F) #[] C] := by
  have := (Bx.new (w.alloc (.cells #[.int .i64 m.id,.int .i64 m.n,.slice A.ra m.rows.length A.rc,.slice A.sa m.sung.length A.sc,.bool m.done] 39)) 100 #[.func (.func F) #[] C]).alloc (.cells #[.int .i64 0,.int .i64 0,.slice none 0 0,.slice none 0 0,.bool false] 39)
  simp only [World.size_alloc] at this
  exact this
 have hx3 : Bx (((w.alloc (.cells #[.int .i64 m.id,.int .i64 m.n,.slice A.ra m.rows.length A.rc,.slice A.sa m.sung.length A.sc,.bool m.done] 39)).alloc (.cells #[.func (.func F) #[] C] 100)).alloc (.cells #[.int .i64 0,.int .i64 0,.slice none 0 0,.slice none 0 0,.bool false] 39)) (w.heap.size + 1 + 1) 39 #[.int .i64 0,.int .i64 0,.slice none 0 0,.slice none 0 0,.bool false] := by
  have := Bx.new ((w.alloc (.cells #[.int .i64 m.id,.int .i64 m.n,.slice A.ra m.rows.length A.rc,.slice A.sa m.sung.length A.sc,.bool m.done] 39)).alloc (.cells #[.func (.func F) #[] C] 100)) 39 #[.int .i64 0,.int .i64 0,.slice none 0 0,.slice none 0 0,.bool false]
  simp only [World.size_alloc] at this
  exact this
 have hb12 := hb1.trans (hb2.mono hb1.size)
 have hb13 : Below w.heap.size w (((w.alloc (.cells #[.int .i64 m.id,.int .i64 m.n,.slice A.ra m.rows.length A.rc,.slice A.sa m.sung.length A.sc,.bool m.done] 39)).alloc (.cells #[.func (.func F) #[] C] 100)).alloc (.cells #[.int .i64 0,.int .i64 0,.slice none 0 0,.slice none 0 0,.bool false] 39)) := hb12.trans (hb3.mono hb12.size)
 have hM0 := memI_any A m (((w.alloc (.cells #[.int .i64 m.id,.int .i64 m.n,.slice A.ra m.rows.length A.rc,.slice A.sa m.sung.length A.sc,.bool m.done] 39)).alloc (.cells #[.func (.func F) #[] C] 100)).alloc (.cells #[.int .i64 0,.int .i64 0,.slice none 0 0,.slice none 0 0,.bool false] 39)) (hv.below hb13)
 unfold mbV mbC at *
 have HX1 : Hid (Bx (((w.alloc (.cells #[.int .i64 m.id,.int .i64 m.n,.slice A.ra m.rows.length A.rc,.slice A.sa m.sung.length A.sc,.bool m.done] 39)).alloc (.cells #[.func (.func F) #[] C] 100)).alloc (.cells #[.int .i64 0,.int .i64 0,.slice none 0 0,.slice none 0 0,.bool false] 39)) w.heap.size 39 #[.int .i64 m.id,.int .i64 m.n,.slice A.ra m.rows.length A.rc,.slice A.sa m.sung.length A.sc,.bool m.done]) := hx1
 have HX2 : Hid (Bx (((w.alloc (.cells #[.int .i64 m.id,.int .i64 m.n,.slice A.ra m.rows.length A.rc,.slice A.sa m.sung.length A.sc,.bool m.done] 39)).alloc (.cells #[.func (.func F) #[] C] 100)).alloc (.cells #[.int .i64 0,.int .i64 0,.slice none 0 0,.slice none 0 0,.bool false] 39)) (w.heap.size + 1) 100 #[.func (.func F) #[] C]) := hx2
 have HX3 : Hid (Bx (((w.alloc (.cells #[.int .i64 m.id,.int .i64 m.n,.slice A.ra m.rows.length A.rc,.slice A.sa m.sung.length A.sc,.bool m.done] 39)).alloc (.cells #[.func (.func F) #[] C] 100)).alloc (.cells #[.int .i64 0,.int .i64 0,.slice none 0 0,.slice none 0 0,.bool false] 39)) (w.heap.size + 1 + 1) 39 #[.int .i64 0,.int .i64 0,.slice none 0 0,.slice none 0 0,.bool false]) := hx3
 have HB0 : Hid (Below w.heap.size w (((w.alloc (.cells #[.int .i64 m.id,.int .i64 m.n,.slice A.ra m.rows.length A.rc,.slice A.sa m.sung.length A.sc,.bool m.done] 39)).alloc (.cells #[.func (.func F) #[] C] 100)).alloc (.cells #[.int .i64 0,.int .i64 0,.slice none 0 0,.slice none 0 0,.bool false] 39))) := hb13
 have HV : Hid (MbP w A m) := hv
 obtain ⟨c0,c1,c2,c3,c4⟩ := Bx.r5 hx1
 clear hb1 hb2 hb3 hx1 hx2 hx3 hb12 hb13 hv
 cases hok : okMb m with
 | false =>
  have HZ : Hid (wkdM m m' flag = (zeroMb,false)) := by rw [Hid,wkdM,if_neg (by rw [hok];decide)]
  rw [hok] at hM0
  clear hok hm' hF
  go_enter Try.func74,Try.ntmps74
  go_wp2_with fail
  generalize (((w.alloc (.cells #[.int .i64 m.id,.int .i64 m.n,.slice A.ra m.rows.length A.rc,.slice A.sa m.sung.length A.sc,.bool m.done] 39)).alloc (.cells #[.func (.func F) #[] C] 100)).alloc (.cells #[.int .i64 0,.int .i64 0,.slice none 0 0,.slice none 0 0,.bool false] 39)) = W0 at *
  refine hM0.mono ?_
  rintro e w1 ⟨rfl,hb1⟩
  have hR := HX3.out.below hb1
  have HB1 : Hid (Below w.heap.size w w1) := HB0.out.trans (hb1.mono HB0.out.size)
  obtain ⟨z0,z1,z2,z3,z4⟩ := Bx.r5 hR
  obtain ⟨f0,f1,f2,f3,f4⟩ := hR.f5
  clear hR hb1 c0 c1 c2 c3 c4 hM0
  go_wp2
  refine bodyPost_ret (v := .tuple #[mbV ⟨none,0,none,0⟩ zeroMb,.bool false]) (by simp [results,Try.results74,go_sem,mbV,mbC,zeroMb, *]) rfl ?_
  rw [HZ.out]
  exact ⟨_,rfl,ansM_zero ((wrt5 w1 (w.heap.size + 1 + 1)).below HB1.out HB1.out.size (fun b h => by omega))⟩
 | true =>
 obtain ⟨i,n,ok⟩ := okMb_iff.1 hok
 have HZ : Hid (wkdM m m' flag = if m.done = true then (m,false) else if flag = true then (m',true) else (m,false)) := by rw [Hid,wkdM,if_pos hok]
 have HM' : Hid (flag = true → m'.n = (m'.rows.length : Int)) := hm' hok
 have HMn : Hid (m.n = (m.rows.length : Int)) := by rw [Hid,ok.hn,ok.len]
 rw [hok] at hM0
 have HF : Hid (∀ X B fp i n,Below w.heap.size w X → Plc X B 0 (mb4 m) fp → OkM m i n → m.done = false → Calls Try.prog F (#[.pointer (some ⟨B,0,none⟩)] ++ C) X fun e w' => (flag = true ∧ e = .returned (.tuple #[]) ∧ Bcm X w' B 0 (mb4 m') fp) ∨ (flag = false ∧ Gu e ∧ ∃ m1,Bcm X w' B 0 (mb4 m1) fp)) := hF
 clear hok hm' hF
 go_enter Try.func74,Try.ntmps74
 go_wp2_with fail
 generalize (((w.alloc (.cells #[.int .i64 m.id,.int .i64 m.n,.slice A.ra m.rows.length A.rc,.slice A.sa m.sung.length A.sc,.bool m.done] 39)).alloc (.cells #[.func (.func F) #[] C] 100)).alloc (.cells #[.int .i64 0,.int .i64 0,.slice none 0 0,.slice none 0 0,.bool false] 39)) = W0 at *
 refine hM0.mono ?_
 rintro e w1 ⟨rfl,hb1⟩
 have HB1 : Hid (Below w.heap.size w w1) := HB0.out.trans (hb1.mono HB0.out.size)
 have HY1 : Hid (Bx w1 w.heap.size 39 #[.int .i64 m.id,.int .i64 m.n,.slice A.ra m.rows.length A.rc,.slice A.sa m.sung.length A.sc,.bool m.done]) := HX1.out.below hb1
 have HY2 : Hid (Bx w1 (w.heap.size + 1) 100 #[.func (.func F) #[] C]) := HX2.out.below hb1
 have HY3 : Hid (Bx w1 (w.heap.size + 1 + 1) 39 #[.int .i64 0,.int .i64 0,.slice none 0 0,.slice none 0 0,.bool false]) := HX3.out.below hb1
 clear hb1 c0 c1 c2 c3 c4 hM0 HX1 HX2 HX3 HB0
 have hMo := mof_any A m i n w1 (HV.out.below HB1.out) ok
 unfold mbV mbC at hMo
 obtain ⟨c0,c1,c2,c3,c4⟩ := Bx.r5 HY1.out
 go_wp2_with fail
 refine hMo.mono ?_
 rintro e w2 ⟨A2,rfl,fp,hl2,hf2,hb2⟩
 unfold imV imC
 have HB2 : Hid (Below w.heap.size w w2) := HB1.out.trans (hb2.mono HB1.out.size)
 have HZ1 : Hid (Bx w2 w.heap.size 39 #[.int .i64 m.id,.int .i64 m.n,.slice A.ra m.rows.length A.rc,.slice A.sa m.sung.length A.sc,.bool m.done]) := HY1.out.below hb2
 have HZ2 : Hid (Bx w2 (w.heap.size + 1) 100 #[.func (.func F) #[] C]) := HY2.out.below hb2
 have HZ3 : Hid (Bx w2 (w.heap.size + 1 + 1) 39 #[.int .i64 0,.int .i64 0,.slice none 0 0,.slice none 0 0,.bool false]) := HY3.out.below hb2
 have hlt2 := owL_lt hl2
 have hw1 := HY3.out.lt
 have hs2 := hb2.size
 clear c0 c1 c2 c3 c4 hMo
 -- the copy lies in a box of its own
 have hba := oneA16 w2 (.cells #[.int .i64 m.id,.slice A2.ra m.rows.length A2.rc,.slice A2.sa m.sung.length A2.sc,.bool m.done] 134)
 have hxb := Bx.new w2 134 #[.int .i64 m.id,.slice A2.ra m.rows.length A2.rc,.slice A2.sa m.sung.length A2.sc,.bool m.done]
 have hP3 : Plc (w2.alloc (.cells #[.int .i64 m.id,.slice A2.ra m.rows.length A2.rc,.slice A2.sa m.sung.length A2.sc,.bool m.done] 134)) w2.heap.size 0 (mb4 m) fp := ibox_plc hxb (owL_below hl2 hba) (fun k => by have := hlt2 _ k;omega)
 have HB3 : Hid (Below w.heap.size w (w2.alloc (.cells #[.int .i64 m.id,.slice A2.ra m.rows.length A2.rc,.slice A2.sa m.sung.length A2.sc,.bool m.done] 134))) := HB2.out.trans (hba.mono HB2.out.size)
 have HU1 : Hid (Bx (w2.alloc (.cells #[.int .i64 m.id,.slice A2.ra m.rows.length A2.rc,.slice A2.sa m.sung.length A2.sc,.bool m.done] 134)) w.heap.size 39 #[.int .i64 m.id,.int .i64 m.n,.slice A.ra m.rows.length A.rc,.slice A.sa m.sung.length A.sc,.bool m.done]) := HZ1.out.below hba
 have HU2 : Hid (Bx (w2.alloc (.cells #[.int .i64 m.id,.slice A2.ra m.rows.length A2.rc,.slice A2.sa m.sung.length A2.sc,.bool m.done] 134)) (w.heap.size + 1) 100 #[.func (.func F) #[] C]) := HZ2.out.below hba
 have HU3 : Hid (Bx (w2.alloc (.cells #[.int .i64 m.id,.slice A2.ra m.rows.length A2.rc,.slice A2.sa m.sung.length A2.sc,.bool m.done] 134)) (w.heap.size + 1 + 1) 39 #[.int .i64 0,.int .i64 0,.slice none 0 0,.slice none 0 0,.bool false]) := HZ3.out.below hba
 have hB3 : w2.heap.size < (w2.alloc (.cells #[.int .i64 m.id,.slice A2.ra m.rows.length A2.rc,.slice A2.sa m.sung.length A2.sc,.bool m.done] 134)).heap.size := hxb.lt
 have hfl : ∀ b,fp b → w.heap.size + 1 + 1 < b ∧ b < w2.heap.size := fun b hb => ⟨by have := hf2 b hb;omega,hlt2 b hb⟩
 clear hxb hl2 hf2 hlt2 hb2 hba HY1 HY2 HY3 HZ1 HZ2 HZ3
 go_upto_region 4 with fail
 generalize w2.alloc (.cells #[.int .i64 m.id,.slice A2.ra m.rows.length A2.rc,.slice A2.sa m.sung.length A2.sc,.bool m.done] 134) = V3 at *
 generalize w2.heap.size = B at *
 have hbt := oneA16 V3 (.cells #[.bool false] 4)
 have hP4 := hP3.below hbt
 have hB4 : Below w.heap.size w (V3.alloc (.cells #[.bool false] 4)) := HB3.out.trans (hbt.mono HB3.out.size)
 have hw4 := (HU2.out.below hbt).at 0 (v := .func (.func F) #[] C) rfl
 have hsz4 : V3.heap.size < (V3.alloc (.cells #[.bool false] 4)).heap.size := (Bx.new V3 4 #[.bool false]).lt
 have hT := told_any 120 #[] #[.pointer (some ⟨B,0,none⟩),.pointer (some ⟨w.heap.size + 1,0,none⟩)] V3 (fun b X => b = (!m.done && flag) ∧ WkR (V3.alloc (.cells #[.bool false] 4)) B fp m' b X) (fun _ _ => enters_of Try.func120 (by kernel_rfl) rfl _ _)
  ((wk1_any F C m B (w.heap.size + 1) fp _ (fun e w' => (m.done = false ∧ flag = true ∧ e = .returned (.tuple #[]) ∧ Bcm (V3.alloc (.cells #[.bool false] 4)) w' B 0 (mb4 m') fp) ∨ ((m.done = true ∨ flag = false) ∧ Gu e ∧ ∃ m1,Bcm (V3.alloc (.cells #[.bool false] 4)) w' B 0 (mb4 m1) fp)) hE hP4 hw4 (fun hd => (HF.out _ B fp i n hB4 hP4 ok hd).mono (fun e w' h => by
   rcases h with ⟨h1,h2,h3⟩ | ⟨h1,h2,h3⟩
   ·exact .inl ⟨hd,h1,h2,h3⟩
   ·exact .inr ⟨.inr h1,h2,h3⟩)) (fun hd e hg => .inr ⟨.inl hd,hg,m,Bcm.refl hP4⟩) (fun e w' h => by
   rcases h with ⟨_,_,h,_⟩ | ⟨_,h,_⟩
   ·exact .inl h
   ·exact .inr h)).mono (fun e w' h => by
   rcases h with ⟨h1,h2,h3,h4⟩ | ⟨h1,h2,h3⟩
   ·exact .inl ⟨h3,by rw [h1,h2];rfl,by unfold WkR;rw [if_pos rfl];exact h4⟩
   ·refine .inr ⟨h2, ?_,by unfold WkR;rw [if_neg (by decide)];exact h3⟩
    rcases h1 with h1 | h1 <;> rw [h1] <;> simp)) (fun b X h => (Bx.new V3 4 #[.bool false]).wrt h.2.wrt (fun k => by rcases k with k | k;have := hfl _ k;omega;omega))
 clear hP3 hbt hP4 hB4 hw4
 have HU1' := HU1
 go_wp2_with fail
 refine hT.mono ?_
 rintro e Y ⟨b,X,rfl,⟨hbv,hWk⟩,hWt⟩
 have hWX := hWk.wrt
 have hX0 : Below w.heap.size w (V3.alloc (.cells #[.bool false] 4)) := HB3.out.trans ((oneA16 V3 _).mono HB3.out.size)
 have hBX : Below w.heap.size w X := hWX.below hX0 hX0.size (fun x hx => by rcases hx with hx | hx;have := hfl x hx;omega;omega)
 have hBY : Below w.heap.size w Y := hWt.below hBX hBX.size (fun x hx => by have := HB3.out.size;omega)
 have keep : ∀ {k : Nat} {T : TypeId} {cs : Array Value},k < w.heap.size + 1 + 1 + 1 → Bx V3 k T cs → Bx Y k T cs := fun {k T cs} hk hx => ((hx.alloc (.cells #[.bool false] 4)).wrt hWX (fun kk => by rcases kk with kk | kk;have := hfl _ kk;omega;omega)).wrt hWt (fun kk => by omega)
 have HT1 : Hid (Bx Y w.heap.size 39 #[.int .i64 m.id,.int .i64 m.n,.slice A.ra m.rows.length A.rc,.slice A.sa m.sung.length A.sc,.bool m.done]) := keep (by omega) HU1.out
 have HT3 : Hid (Bx Y (w.heap.size + 1 + 1) 39 #[.int .i64 0,.int .i64 0,.slice none 0 0,.slice none 0 0,.bool false]) := keep (by omega) HU3.out
 have hsz : (V3.alloc (.cells #[.bool false] 4)).heap.size = V3.heap.size + 1 := World.size_alloc _ _
 have hpl : ∃ (mm : Mb) (fp1 : Fp),Plc Y B 0 (mb4 mm) fp1 ∧ (∀ x,fp1 x → w.heap.size + 1 + 1 < x) ∧ (b = true → mm = m') := by
  have key : ∀ mm,Bcm (V3.alloc (.cells #[.bool false] 4)) X B 0 (mb4 mm) fp → ∃ fp1,Plc Y B 0 (mb4 mm) fp1 ∧ ∀ x,fp1 x → w.heap.size + 1 + 1 < x := fun mm hb => by
   obtain ⟨fp1,h1,h2⟩ := hb.plc
   have h3 : ∀ x,fp1 x → w.heap.size + 1 + 1 < x ∧ x ≠ V3.heap.size := fun x hx => by
    rcases h2 x hx with k | k
    ·have := hfl x k;omega
    ·have := HB3.out.size;omega
   exact ⟨fp1,h1.wrt hWt (fun x hx e => by rcases hx with hx | hx;exact (h3 x hx).2 e;omega),fun x hx => (h3 x hx).1⟩
  unfold WkR at hWk
  cases b with
  | true =>
   rw [if_pos rfl] at hWk
   obtain ⟨fp1,h1,h2⟩ := key m' hWk
   exact ⟨m',fp1,h1,h2,fun _ => rfl⟩
  | false =>
   rw [if_neg (by decide)] at hWk
   obtain ⟨m1,hWk⟩ := hWk
   obtain ⟨fp1,h1,h2⟩ := key m1 hWk
   exact ⟨m1,fp1,h1,h2,fun h => by cases h⟩
 obtain ⟨mm,fp1,hPY,hf1,hmm⟩ := hpl
 have HBY : Hid (Below w.heap.size w Y) := hBY
 have hBl := hPY.lt
 obtain ⟨A3,⟨y0,y1,y2,y3⟩,⟨q0,q1,q2,q3⟩,hl3⟩ := hPY.c4
 clear hT hWk hWX hX0 hBX hBY keep hWt HU1 HU1' HU2 HU3 hPY hsz
 cases b with
 | true =>
  have hmm' := hmm rfl
  subst hmm'
  have hdf : m.done = false ∧ flag = true := by
   cases hd : m.done <;> cases hf : flag <;> rw [hd,hf] at hbv <;> simp at hbv ⊢
  have HZf : Hid (wkdM m mm flag = (mm,true)) := by rw [Hid,HZ.out,if_neg (by rw [hdf.1];decide),if_pos hdf.2]
  have hTo := tol_any A3 mm Y (HM'.out hdf.2)
  unfold imV imC at hTo
  clear hmm hbv hdf q0 q1 q2 q3
  go_wp2_with fail
  refine hTo.mono ?_
  rintro e Y2 ⟨rfl,hb2⟩
  have hR := HT3.out.below hb2
  have HN : Hid (∀ {z0 z1 z2 z3 z4 : Value},NewL w (((((Y2.setCell ⟨w.heap.size + 1 + 1,0,none⟩ z0).setCell ⟨w.heap.size + 1 + 1,1,none⟩ z1).setCell ⟨w.heap.size + 1 + 1,2,none⟩ z2).setCell ⟨w.heap.size + 1 + 1,3,none⟩ z3).setCell ⟨w.heap.size + 1 + 1,4,none⟩ z4) (mbCels mm) (mbVals A3 mm)) := fun {z0 z1 z2 z3 z4} => by
   have hB2 : Below w.heap.size w Y2 := HBY.out.trans (hb2.mono HBY.out.size)
   exact ⟨fp1,owL_wrt (owL_below hl3 hb2) (wrt5 Y2 (w.heap.size + 1 + 1)) (fun x hx e => by have := hf1 x hx;omega),fun x hx => by have := hf1 x hx;omega,(wrt5 Y2 (w.heap.size + 1 + 1)).below hB2 hB2.size (fun x e => by omega)⟩
  unfold mbV mbC
  obtain ⟨z0,z1,z2,z3,z4⟩ := Bx.r5 hR
  obtain ⟨r0,r1,r2,r3,r4⟩ := hR.f5
  clear hTo hR hb2 hl3 y0 y1 y2 y3
  go_wp2
  refine bodyPost_ret (v := .tuple #[mbV A3 mm,.bool true]) (by simp [results,Try.results74,go_sem,mbV,mbC, *]) rfl ?_
  rw [HZf.out]
  exact ⟨_,rfl,HN.out⟩
 | false =>
  have HZf : Hid (wkdM m m' flag = (m,false)) := by
   rw [Hid,HZ.out]
   cases hd : m.done <;> cases hf : flag <;> rw [hd,hf] at hbv <;> simp at hbv ⊢
  have hMo := mof_any A m i n Y (HV.out.below HBY.out) ok
  unfold mbV mbC at hMo
  obtain ⟨c0,c1,c2,c3,c4⟩ := Bx.r5 HT1.out
  have HQ : Hid (∀ Z,Below Y.heap.size Y Z → (∃ v0 v1 v2 v3,Z.cell? ⟨B,0,none⟩ = some v0 ∧ Z.cell? ⟨B,1,none⟩ = some v1 ∧ Z.cell? ⟨B,2,none⟩ = some v2 ∧ Z.cell? ⟨B,3,none⟩ = some v3) ∧ Z.frozen? ⟨B,0,none⟩ = false ∧ Z.frozen? ⟨B,1,none⟩ = false ∧ Z.frozen? ⟨B,2,none⟩ = false ∧ Z.frozen? ⟨B,3,none⟩ = false) := fun Z hZ => by
   have e := hZ.block B hBl
   have t : ∀ {j v},Y.cell? ⟨B,j,none⟩ = some v → Z.cell? ⟨B,j,none⟩ = some v := fun h => (World.cell?_of_block e).trans h
   have u : ∀ {j},Y.frozen? ⟨B,j,none⟩ = false → Z.frozen? ⟨B,j,none⟩ = false := fun h => by simp only [World.frozen?,e] at h ⊢;exact h
   exact ⟨⟨_,_,_,_,t y0,t y1,t y2,t y3⟩,u q0,u q1,u q2,u q3⟩
  clear hmm hbv q0 q1 q2 q3 y0 y1 y2 y3 hl3
  go_wp2_with fail
  refine hMo.mono ?_
  rintro e Y1 ⟨A4,rfl,fp4,hl4,hf4,hb4⟩
  unfold imV imC
  obtain ⟨⟨v0,v1,v2,v3,g0,g1,g2,g3⟩,p0,p1,p2,p3⟩ := HQ.out Y1 hb4
  have hsY := hb4.size
  have hW4 : Wrt (fun x => x = B) Y1 ((((Y1.setCell ⟨B,0,none⟩ (.int .i64 m.id)).setCell ⟨B,1,none⟩ (.slice A4.ra m.rows.length A4.rc)).setCell ⟨B,2,none⟩ (.slice A4.sa m.sung.length A4.sc)).setCell ⟨B,3,none⟩ (.bool m.done)) := wrt4 Y1 B
  have hl5 : owL ((((Y1.setCell ⟨B,0,none⟩ (.int .i64 m.id)).setCell ⟨B,1,none⟩ (.slice A4.ra m.rows.length A4.rc)).setCell ⟨B,2,none⟩ (.slice A4.sa m.sung.length A4.sc)).setCell ⟨B,3,none⟩ (.bool m.done)) (mbCels m) (mbVals A4 m) fp4 := owL_wrt hl4 hW4 (fun x hx e => by have := hf4 x hx;omega)
  have HB5 : Hid (Below w.heap.size w ((((Y1.setCell ⟨B,0,none⟩ (.int .i64 m.id)).setCell ⟨B,1,none⟩ (.slice A4.ra m.rows.length A4.rc)).setCell ⟨B,2,none⟩ (.slice A4.sa m.sung.length A4.sc)).setCell ⟨B,3,none⟩ (.bool m.done))) := hW4.below (HBY.out.trans (hb4.mono HBY.out.size)) (HBY.out.trans (hb4.mono HBY.out.size)).size (fun x e => by omega)
  have hT5 : Bx ((((Y1.setCell ⟨B,0,none⟩ (.int .i64 m.id)).setCell ⟨B,1,none⟩ (.slice A4.ra m.rows.length A4.rc)).setCell ⟨B,2,none⟩ (.slice A4.sa m.sung.length A4.sc)).setCell ⟨B,3,none⟩ (.bool m.done)) (w.heap.size + 1 + 1) 39 #[.int .i64 0,.int .i64 0,.slice none 0 0,.slice none 0 0,.bool false] := (HT3.out.below hb4).wrt hW4 (fun e => by omega)
  have HT5 : Hid (Bx ((((Y1.setCell ⟨B,0,none⟩ (.int .i64 m.id)).setCell ⟨B,1,none⟩ (.slice A4.ra m.rows.length A4.rc)).setCell ⟨B,2,none⟩ (.slice A4.sa m.sung.length A4.sc)).setCell ⟨B,3,none⟩ (.bool m.done)) (w.heap.size + 1 + 1) 39 #[.int .i64 0,.int .i64 0,.slice none 0 0,.slice none 0 0,.bool false]) := hT5
  have HL5 : Hid (owL ((((Y1.setCell ⟨B,0,none⟩ (.int .i64 m.id)).setCell ⟨B,1,none⟩ (.slice A4.ra m.rows.length A4.rc)).setCell ⟨B,2,none⟩ (.slice A4.sa m.sung.length A4.sc)).setCell ⟨B,3,none⟩ (.bool m.done)) (mbCels m) (mbVals A4 m) fp4) := hl5
  have x0 : ((((Y1.setCell ⟨B,0,none⟩ (.int .i64 m.id)).setCell ⟨B,1,none⟩ (.slice A4.ra m.rows.length A4.rc)).setCell ⟨B,2,none⟩ (.slice A4.sa m.sung.length A4.sc)).setCell ⟨B,3,none⟩ (.bool m.done)).cell? ⟨B,0,none⟩ = some (.int .i64 m.id) := by simp [go_sem,g0,g1,g2,g3]
  have x1 : ((((Y1.setCell ⟨B,0,none⟩ (.int .i64 m.id)).setCell ⟨B,1,none⟩ (.slice A4.ra m.rows.length A4.rc)).setCell ⟨B,2,none⟩ (.slice A4.sa m.sung.length A4.sc)).setCell ⟨B,3,none⟩ (.bool m.done)).cell? ⟨B,1,none⟩ = some (.slice A4.ra m.rows.length A4.rc) := by simp [go_sem,g0,g1,g2,g3]
  have x2 : ((((Y1.setCell ⟨B,0,none⟩ (.int .i64 m.id)).setCell ⟨B,1,none⟩ (.slice A4.ra m.rows.length A4.rc)).setCell ⟨B,2,none⟩ (.slice A4.sa m.sung.length A4.sc)).setCell ⟨B,3,none⟩ (.bool m.done)).cell? ⟨B,2,none⟩ = some (.slice A4.sa m.sung.length A4.sc) := by simp [go_sem,g0,g1,g2,g3]
  have x3 : ((((Y1.setCell ⟨B,0,none⟩ (.int .i64 m.id)).setCell ⟨B,1,none⟩ (.slice A4.ra m.rows.length A4.rc)).setCell ⟨B,2,none⟩ (.slice A4.sa m.sung.length A4.sc)).setCell ⟨B,3,none⟩ (.bool m.done)).cell? ⟨B,3,none⟩ = some (.bool m.done) := by simp [go_sem,g0,g1,g2,g3]
  have hTo := tol_any A4 m ((((Y1.setCell ⟨B,0,none⟩ (.int .i64 m.id)).setCell ⟨B,1,none⟩ (.slice A4.ra m.rows.length A4.rc)).setCell ⟨B,2,none⟩ (.slice A4.sa m.sung.length A4.sc)).setCell ⟨B,3,none⟩ (.bool m.done)) HMn.out
  unfold imV imC at hTo
  have HF4 : Hid (∀ x,fp4 x → w.heap.size + 1 + 1 < x) := fun x hx => by have := hf4 x hx;have := HT3.out.lt;omega
  clear hl4 hf4 hl5 hT5 hW4 hMo c0 c1 c2 c3 c4 HQ
  go_upto_region 7 with fail
  generalize ((((Y1.setCell ⟨B,0,none⟩ (.int .i64 m.id)).setCell ⟨B,1,none⟩ (.slice A4.ra m.rows.length A4.rc)).setCell ⟨B,2,none⟩ (.slice A4.sa m.sung.length A4.sc)).setCell ⟨B,3,none⟩ (.bool m.done)) = Y5 at *
  clear g0 g1 g2 g3 p0 p1 p2 p3
  go_wp2_with fail
  refine hTo.mono ?_
  rintro e Y2 ⟨rfl,hb2⟩
  have hR := HT5.out.below hb2
  have HN : Hid (∀ {z0 z1 z2 z3 z4 : Value},NewL w (((((Y2.setCell ⟨w.heap.size + 1 + 1,0,none⟩ z0).setCell ⟨w.heap.size + 1 + 1,1,none⟩ z1).setCell ⟨w.heap.size + 1 + 1,2,none⟩ z2).setCell ⟨w.heap.size + 1 + 1,3,none⟩ z3).setCell ⟨w.heap.size + 1 + 1,4,none⟩ z4) (mbCels m) (mbVals A4 m)) := fun {z0 z1 z2 z3 z4} => by
   have hB2 : Below w.heap.size w Y2 := HB5.out.trans (hb2.mono HB5.out.size)
   exact ⟨fp4,owL_wrt (owL_below HL5.out hb2) (wrt5 Y2 (w.heap.size + 1 + 1)) (fun x hx e => by have := HF4.out x hx;omega),fun x hx => by have := HF4.out x hx;omega,(wrt5 Y2 (w.heap.size + 1 + 1)).below hB2 hB2.size (fun x e => by omega)⟩
  unfold mbV mbC
  obtain ⟨z0,z1,z2,z3,z4⟩ := Bx.r5 hR
  obtain ⟨r0,r1,r2,r3,r4⟩ := hR.f5
  clear hTo hR hb2 x0 x1 x2 x3
  go_wp2
  refine bodyPost_ret (v := .tuple #[mbV A4 m,.bool false]) (by simp [results,Try.results74,go_sem,mbV,mbC, *]) rfl ?_
  rw [HZf.out]
  exact ⟨_,rfl,HN.out⟩
end Go.Proofs.Ythioodpmgifomaa
namespace Go.Proofs.Ythioodpmgifomaa
set_option linter.unusedVariables false
set_option linter.unusedSimpArgs false
open Go.RowKit Go.Sort
set_option maxHeartbeats 800000 in
theorem nvT_any (g q : Nat) (ver : Int) (X : World) (hc : X.cell? ⟨g,q,none⟩ = some (.int .i64 ver)) (hf : X.frozen? ⟨g,q,none⟩ = false) (h0 : 0 ≤ ver) (hv : ver < 1000000) :
  Calls Try.prog 125 #[.pointer (some ⟨g,q,none⟩)] X fun e w' => e = .returned (.tuple #[]) ∧ w' = X.setCell ⟨g,q,none⟩ (.int .i64 (ver + 1)) := by
 have hw : wrap64 (ver + 1) = ver + 1 := by unfold wrap64;omega
 go_enter Try.func125,Try.ntmps125
 go_wp2_with (go_at_call 121;refine (wantT _).mono ?_;rintro e w' ⟨rfl,hw'⟩;rw [hw'];clear hw')
 first | go_end0 | go_ret
 exact ⟨rfl,rfl⟩
set_option maxHeartbeats 800000 in
theorem nvF_any (g q : Nat) (ver : Int) (X : World) (hc : X.cell? ⟨g,q,none⟩ = some (.int .i64 ver)) (hv : ¬ ver < 1000000) :
  Calls Try.prog 125 #[.pointer (some ⟨g,q,none⟩)] X fun e w' => Gu e ∧ w' = X := by
 go_enter Try.func125,Try.ntmps125
 go_wp2_with (go_at_call 121;refine (wantF _).mono ?_;rintro e w' ⟨⟨T,v,rfl⟩,hw'⟩;rw [hw'];clear hw')
 exact ⟨rfl,⟨_,_,rfl⟩,rfl⟩
attribute [local irreducible] sv
set_option maxRecDepth 100000 in
set_option maxHeartbeats 1600000 in
theorem say_any (B : Nat) (m : Mb) (i n : Nat) (t : List UInt8) (fp : Fp) (w : World) (h : Plc w B 0 (mb4 m) fp) (ok : OkM m i n) (hd : m.done = false) (ht : t.length ≤ 1048576) :
  Calls Try.prog 76 #[.pointer (some ⟨B,0,none⟩),.string (sv t)] w fun e w' => ((sayMb m t).2 = true ∧ e = .returned (.tuple #[]) ∧ Bcm w w' B 0 (mb4 (sayMb m t).1) fp) ∨ ((sayMb m t).2 = false ∧ Gu e ∧ ∃ m1,Bcm w w' B 0 (mb4 m1) fp) := by
 have hmix := mixed17
 have hil : i < m.rows.length := by rw [ok.len];exact ok.lt
 obtain ⟨g,off,c,M0⟩ := Iw.start h (by omega)
 obtain ⟨c0,c3⟩ := M0.id'
 have c1 := M0.rws
 rw [ok.hid] at c0
 have hOw := own_any B i m.rows.length g off c w c0 c1 hil
 have HM0 : Hid (Iw w w B m fp g off c) := M0
 have hszt := sv_size t
 have hr := ok.ok i ok.lt
 have HSay : Hid (sayMb m t = if (rowN m.rows i).wed = true ∨ m.done = true ∨ (rowN m.rows i).txt.length = 12 ∨ 20 < t.length ∨ (rowN m.rows i).ver = 1000000 then (m,false) else ({ m with rows := m.rows.set i { rowN m.rows i with txt := (rowN m.rows i).txt ++ [t],got := (rowN m.rows i).got.set i (el (rowN m.rows i).got i + 1),ver := (rowN m.rows i).ver + 1 } },true)) := by
  have e : m.i = i := by unfold Mb.i;rw [ok.hid];rfl
  rw [Hid,sayMb,Mb.put,Mb.own,e]
 have HNo : Hid (((rowN m.rows i).wed = true ∨ m.done = true ∨ (rowN m.rows i).txt.length = 12 ∨ 20 < t.length ∨ (rowN m.rows i).ver = 1000000) → (sayMb m t).2 = false) := fun h => by rw [HSay.out,if_pos h]
 have HYes : Hid (¬ ((rowN m.rows i).wed = true ∨ m.done = true ∨ (rowN m.rows i).txt.length = 12 ∨ 20 < t.length ∨ (rowN m.rows i).ver = 1000000) → sayMb m t = ({ m with rows := m.rows.set i { rowN m.rows i with txt := (rowN m.rows i).txt ++ [t],got := (rowN m.rows i).got.set i (el (rowN m.rows i).got i + 1),ver := (rowN m.rows i).ver + 1 } },true)) := fun h => by rw [HSay.out,if_neg h]
 have htl := hr.tl
 clear HSay c0 c1 c3 M0 h
 go_enter Try.func76,Try.ntmps76
 go_wp2_with fail
 refine hOw.mono ?_
 rintro e wA ⟨rfl,hbA⟩
 have M1 := HM0.out.step hbA
 have HM1 : Hid (Iw w wA B m fp g off c) := M1
 obtain ⟨Ak,⟨⟨d0,d1,d2,d3⟩,d4,d5,d6,d7⟩,hrs⟩ := M1.row ok.fit hil
 have HGi : Hid (∃ m1,Bcm w wA B 0 (mb4 m1) fp) := ⟨m,M1.bcm⟩
 clear hOw hrs d0 d2 d3 d5 d6 d7 M1 hbA HM0
 cases hwd : (rowN m.rows i).wed with
 | true =>
  have HZ : Hid ((sayMb m t).2 = false) := HNo.out (.inl hwd)
  rw [hwd] at d4
  go_wp2_with (go_at_call 121;refine (wantF _).mono ?_;rintro e w' ⟨⟨T,v,rfl⟩,hw'⟩;rw [hw'];clear hw')
  exact ⟨rfl,.inr ⟨HZ.out,⟨_,_,rfl⟩,HGi.out⟩⟩
 | false =>
 rw [hwd] at d4
 by_cases h12 : (rowN m.rows i).txt.length = 12
 ·have HZ : Hid ((sayMb m t).2 = false) := HNo.out (.inr (.inr (.inl h12)))
  have e12 : ¬ (((rowN m.rows i).txt.length : Int) < 12) := by omega
  clear h12
  go_wp2_with (go_at_call 121;refine (wantF _).mono ?_;rintro e w' ⟨⟨T,v,rfl⟩,hw'⟩;rw [hw'];clear hw')
  exact ⟨rfl,.inr ⟨HZ.out,⟨_,_,rfl⟩,HGi.out⟩⟩
 have e12 : ((rowN m.rows i).txt.length : Int) < 12 := by omega
 by_cases h20 : 20 < t.length
 ·have HZ : Hid ((sayMb m t).2 = false) := HNo.out (.inr (.inr (.inr (.inl h20))))
  have e23 : decide ((t.length : Int) ≤ 20) = false := decide_eq_false (by omega)
  clear h20
  go_wp2_with (go_at_call 121;(try rw [e23]);refine (wantF _).mono ?_;rintro e w' ⟨⟨T,v,rfl⟩,hw'⟩;rw [hw'];clear hw')
  exact ⟨rfl,.inr ⟨HZ.out,⟨_,_,rfl⟩,HGi.out⟩⟩
 have e20 : (t.length : Int) ≤ 20 := by omega
 have HH : Hid (¬ ((rowN m.rows i).wed = true) ∧ ¬ m.done = true ∧ ¬ (rowN m.rows i).txt.length = 12 ∧ ¬ 20 < t.length) := ⟨by rw [hwd];decide,by rw [hd];decide,h12,h20⟩
 clear h12 h20 hwd HGi
 go_upto_region 2 with (go_at_call 121;refine (wantT _).mono ?_;rintro e w' ⟨rfl,hw'⟩;rw [hw'];clear hw')
 clear d4 e12 e20
 obtain ⟨u,f,hu,hfz,how,hlt,hset⟩ := HM1.out.at hil (j := 1) rfl
 have hbd : Below wA.heap.size wA wA.drew := (Same.drewN wA 1).below
 have hu' : ∀ X,Below wA.heap.size wA X → X.cell? ⟨g,off + i * 8 + 1,none⟩ = some u := fun X hX => (hX.cell (World.block_lt_of_cell? _ _ hu)).trans hu
 have hCl := clone_any t wA.drew ht
 obtain ⟨ta,tc,_,rfl,_⟩ := ow_scl.1 how
 have HS : Hid (∀ (X1 : World) (c' : Cel) (u' : Value) (f' : Fp) (r' : Rw),(rw8 (rowN m.rows i)).set 1 c' = rw8 r' → Wrt f wA X1 → Cel.ow X1 c' u' f' → (∀ b,f' b → f b ∨ wA.heap.size ≤ b) → X1.cell? ⟨g,off + i * 8 + 1,none⟩ = some (.slice ta (rowN m.rows i).txt.length tc) ∧ X1.frozen? ⟨g,off + i * 8 + 1,none⟩ = false ∧ Iw w (X1.setCell ⟨g,off + i * 8 + 1,none⟩ u') B { m with rows := m.rows.set i r' } fp g off c ∧ (u' = .slice ta (rowN m.rows i).txt.length tc → Iw w X1 B { m with rows := m.rows.set i r' } fp g off c)) := hset
 clear d1 hset hlt HM1
 refine gt_begin (S := fun X : World => X.cell? ⟨g,off + i * 8 + 1,none⟩ = some (.slice ta (rowN m.rows i).txt.length tc)) 11 hmix (by kernel_rfl) ?_
 have hHeld : (fun X : World => X.cell? ⟨g,off + i * 8 + 1,none⟩ = some (.slice ta (rowN m.rows i).txt.length tc)) wA.drew := (hu' _ hbd)
 refine gt_take (i := 0) (v := ?_) rfl (by kernel_rfl) (by kernel_rfl) (by kernel_rfl) (by kernel_rfl) (fun _ _ _ h => h) (Or.inl ⟨by rfl, ?_⟩) hHeld ?_
 rotate_left
 ·(intro X hSX;(try dsimp only at hSX);have g0 := hSX;go_simp;try with_reducible rfl)
 try simp only [Act.put,List.setIfInBounds_toArray,List.set_cons_zero,List.set_cons_succ]
 refine gt_take (i := 1) (v := ?_) rfl (by kernel_rfl) (by kernel_rfl) (by kernel_rfl) (by kernel_rfl) (fun _ _ _ h => h) (Or.inl ⟨by rfl, ?_⟩) hHeld ?_
 rotate_left
 ·(intro X hSX;(try dsimp only at hSX);have g0 := hSX;go_simp;try with_reducible rfl)
 try simp only [Act.put,List.setIfInBounds_toArray,List.set_cons_zero,List.set_cons_succ]
 refine gt_take (i := 2) (v := ?_) rfl (by kernel_rfl) (by kernel_rfl) (by kernel_rfl) (by kernel_rfl) (fun _ _ _ h => h) (Or.inl ⟨by rfl, ?_⟩) hHeld ?_
 rotate_left
 ·(intro X hSX;(try dsimp only at hSX);have g0 := hSX;go_simp;try with_reducible rfl)
 try simp only [Act.put,List.setIfInBounds_toArray,List.set_cons_zero,List.set_cons_succ]
 refine gt_take (i := 3) (v := ?_) rfl (by kernel_rfl) (by kernel_rfl) (by kernel_rfl) (by kernel_rfl) (fun _ _ _ h => h) (Or.inl ⟨by rfl, ?_⟩) hHeld ?_
 rotate_left
 ·(intro X hSX;(try dsimp only at hSX);have g0 := hSX;go_simp;try with_reducible rfl)
 try simp only [Act.put,List.setIfInBounds_toArray,List.set_cons_zero,List.set_cons_succ]
 refine gt_take (i := 4) (v := ?_) rfl (by kernel_rfl) (by kernel_rfl) (by kernel_rfl) (by kernel_rfl) (fun _ _ _ h => h) (Or.inl ⟨by rfl, ?_⟩) hHeld ?_
 rotate_left
 ·(intro X hSX;(try dsimp only at hSX);have g0 := hSX;go_simp;try with_reducible rfl)
 try simp only [Act.put,List.setIfInBounds_toArray,List.set_cons_zero,List.set_cons_succ]
 refine gt_take (i := 5) (v := ?_) rfl (by kernel_rfl) (by kernel_rfl) (by kernel_rfl) (by kernel_rfl) (fun _ _ _ h => h) (Or.inl ⟨by rfl, ?_⟩) hHeld ?_
 rotate_left
 ·(intro X hSX;(try dsimp only at hSX);have g0 := hSX;go_simp;try with_reducible rfl)
 try simp only [Act.put,List.setIfInBounds_toArray,List.set_cons_zero,List.set_cons_succ]
 refine gt_one (i := 6) rfl (by kernel_rfl) (by kernel_rfl) (fun K hK => ?_)
 go_simp
 go_at_call 124
 refine hCl.mono ?_
 rintro e V1 ⟨rfl,hb1⟩
 have hbV1 : Below wA.heap.size wA V1 := hbd.trans (hb1.mono hbd.size)
 obtain ⟨ta',tc',et,hA⟩ := ow_txt_app t (Cel.ow_below how hbV1) (by omega)
 cases et
 have hba := oneA16 V1 (.cells #[.string (sv t)] 9)
 refine hK.out _ _ (hu' _ hbV1) (fun hHeldN => ?_)
 clear hK hHeld
 have hHeld := hHeldN
 try simp only [Act.put,List.setIfInBounds_toArray,List.set_cons_zero,List.set_cons_succ]
 refine gt_one (i := 7) rfl (by kernel_rfl) (by kernel_rfl) (fun K hK => ?_)
 go_simp
 refine hK.out _ _ (hu' _ (hbV1.trans (hba.mono hbV1.size))) (fun hHeldN => ?_)
 clear hK hHeld
 have hHeld := hHeldN
 try simp only [Act.put,List.setIfInBounds_toArray,List.set_cons_zero,List.set_cons_succ]
 refine gt_one (i := 8) rfl (by kernel_rfl) (by kernel_rfl) (fun K hK => ?_)
 refine step_append_of (by rfl) _ _ _ _ (by rfl) (.slice ta (rowN m.rows i).txt.length tc) _ (by rfl) (by rfl) hA ⟨rfl,rfl,rfl,rfl⟩ ?_
 rintro v9 w1 ⟨a1,e1,f1,rfl,k1,k2,k3⟩
 have hs1 := hbV1.size
 obtain ⟨q1,q2,M2,_⟩ := HS.out w1 _ _ f1 { rowN m.rows i with txt := (rowN m.rows i).txt ++ [t] } rfl ((Wrt.of_below hbV1).trans k3 (fun _ _ h => h)) k1 (fun b hb => (k2 b hb).imp id (fun h => by omega))
 have HM2 : Hid (Iw w (w1.setCell ⟨g,off + i * 8 + 1,none⟩ (.slice a1 ((rowN m.rows i).txt.length + 1) e1)) B { m with rows := m.rows.set i { rowN m.rows i with txt := (rowN m.rows i).txt ++ [t] } } fp g off c) := M2
 refine hK.out _ _ q1 (fun hHeldN => ?_)
 clear hK hHeld
 have hHeld := hHeldN
 try simp only [Act.put,List.setIfInBounds_toArray,List.set_cons_zero,List.set_cons_succ]
 refine gt_one (i := 9) rfl (by kernel_rfl) (by kernel_rfl) (fun K hK => ?_)
 go_simp
 refine hK.out _ _ q1 (fun hHeldN => ?_)
 clear hK hHeld
 have hHeld := hHeldN
 try simp only [Act.put,List.setIfInBounds_toArray,List.set_cons_zero,List.set_cons_succ]
 refine gt_one (i := 10) rfl (by kernel_rfl) (by kernel_rfl) (fun K hK => ?_)
 go_simp
 refine hK.out _ _ q1 (fun hHeldN => ?_)
 clear hK hHeld
 have hHeld := hHeldN
 try simp only [Act.put,List.setIfInBounds_toArray,List.set_cons_zero,List.set_cons_succ]
 refine gt_last rfl (by kernel_rfl) (by kernel_rfl) (fun K hK => ?_)
 go_simp
 refine hK.out _ _ ?_
 clear hHeld hK M2 k1 k2 k3 hA HS q1 q2 hu' hu how hfz hCl hbV1 hbd hb1 hba
 go_upto_region 3 with fail
 generalize w1.setCell ⟨g,off + i * 8 + 1,none⟩ (.slice a1 ((rowN m.rows i).txt.length + 1) e1) = W5 at *
 generalize hr1 : ({ rowN m.rows i with txt := (rowN m.rows i).txt ++ [t] } : Rw) = r1 at *
 have hgl : r1.got = (rowN m.rows i).got := by rw [← hr1]
 have hvl : r1.ver = (rowN m.rows i).ver := by rw [← hr1]
 have hset1 : rowN (m.rows.set i r1) i = r1 := rowN_self hil
 have hil1 : i < (m.rows.set i r1).length := by rw [List.length_set];exact hil
 have hgi : i < r1.got.length := by rw [hgl,hr.gl];exact ok.lt
 obtain ⟨u,f,hu,hfz,how,hlt,hset⟩ := HM2.out.at hil1 (j := 2) (cl := icl r1.got) (by rw [hset1];rfl)
 obtain ⟨gb,go,gc,rfl,hfg,hge,hgz,hgs⟩ := ow_int_set how hgi
 obtain ⟨c0,c4⟩ := HM2.out.id'
 simp only at c0
 rw [ok.hid] at c0
 have i0 : (0 : Int) ≤ (i : Int) := by omega
 have i2 : (i : Int) < (r1.got.length : Int) := by omega
 have p0 : ∀ q : Bk W5,q.w.cell? ⟨B,0,none⟩ = _ := fun q => (q.h.cell (World.block_lt_of_cell? _ _ c0)).trans c0
 have p2 : ∀ q : Bk W5,q.w.cell? ⟨g,off + i * 8 + 2,none⟩ = _ := fun q => (q.h.cell (World.block_lt_of_cell? _ _ hu)).trans hu
 have p3 : ∀ q : Bk W5,q.w.cell? ⟨gb,go + i,none⟩ = _ := fun q => (q.h.cell (World.block_lt_of_cell? _ _ hge)).trans hge
 have hx12 : -1000 ≤ el r1.got i ∧ el r1.got i ≤ 1000 := by
  have hg := (small_iff hr.n5 hr.gl).1 ⟨hr.got,hr.g12⟩ i ok.lt
  rw [hgl]
  omega
 have hwx : wrap64 (el r1.got i + 1) = el r1.got i + 1 := by unfold wrap64;omega
 have HEL : Hid (el r1.got i = el (rowN m.rows i).got i) := by rw [Hid,hgl]
 have HGL : Hid (r1.got = (rowN m.rows i).got) := hgl
 have HVL : Hid (r1.ver = (rowN m.rows i).ver) := hvl
 have HS1 : Hid (rowN (m.rows.set i r1) i = r1) := hset1
 have HR1 : Hid (({ rowN m.rows i with txt := (rowN m.rows i).txt ++ [t] } : Rw) = r1) := hr1
 clear hu hfz hge hgz hgs how hset c0 c4 hx12 hgl hvl hset1 hr1
 generalize el r1.got i = x at *
 refine wp_region_quiet_tail (C := fun w' => ∃ p : Bk W5,w' = p.w) 13 hmix (by kernel_rfl) ⟨⟨W5.drewN 1,belowN (Below.refl _ _)⟩,rfl⟩ ?_
 simp only [List.take_succ_cons,List.take_zero]
 repeat (go_big_quiet_step ((first | rfl)))
 refine wpQuiet_nil ?_
 intro wE hw'
 obtain ⟨⟨w11,hb11⟩,hw''⟩ := hw'
 have hwe : wE = w11 := hw''
 clear hw''
 subst hwe
 simp only [List.drop_succ_cons,List.drop_zero]
 have hu3 := p2 ⟨wE,hb11⟩
 simp only at hu3
 have M3 := HM2.out.step hb11
 obtain ⟨u,f3,hu,hfz,how,hlt3,hset⟩ := M3.at hil1 (j := 2) (cl := icl r1.got) (by rw [HS1.out];rfl)
 obtain rfl := Option.some.inj (hu.symm.trans hu3)
 obtain ⟨gb',go',gc',e4,hfg4,hge,hgz,hgs⟩ := ow_int_set how hgi
 cases e4
 obtain ⟨k1,k2⟩ := hgs (x + 1)
 obtain ⟨_,_,_,hM4⟩ := hset _ (icl (r1.got.set i (x + 1))) _ f3 { r1 with got := r1.got.set i (x + 1) } (by rw [HS1.out];rfl) k2 k1 (fun b hb => .inl hb)
 have HM4 : Hid (Iw w (wE.setCell ⟨gb,go + i,none⟩ (.int .i64 (x + 1))) B { m with rows := (m.rows.set i r1).set i { r1 with got := r1.got.set i (x + 1) } } fp g off c) := hM4 rfl
 clear hM4 hgs k1 k2 hset M3 how hu hu3 hfz p0 p2 p3 hlt3 hlt
 go_upto_region 4 with fail
 generalize wE.setCell ⟨gb,go + i,none⟩ (.int .i64 (x + 1)) = W7 at *
 clear hge hgz
 rw [List.set_set] at HM4
 generalize hr2 : ({ r1 with got := r1.got.set i (x + 1) } : Rw) = r2 at *
 have hil2 : i < (m.rows.set i r2).length := by rw [List.length_set];exact hil
 have hv2 : r2.ver = (rowN m.rows i).ver := by rw [← hr2];exact HVL.out
 have hs2 : rowN (m.rows.set i r2) i = r2 := rowN_self hil
 obtain ⟨v1,v2,hM5⟩ := HM4.out.put hil2 (j := 0) (x := .int .i64 r2.ver) (y := .int .i64 (r2.ver + 1)) (r' := { r2 with ver := r2.ver + 1 }) (by rw [hs2];rfl) (by rw [hs2];rfl)
 have hvb := hr.ver
 simp only [Nat.add_zero] at v1 v2 hM5
 rw [List.set_set] at hM5
 have HM5 : Hid (Iw w (W7.setCell ⟨g,off + i * 8,none⟩ (.int .i64 (r2.ver + 1))) B { m with rows := m.rows.set i { r2 with ver := r2.ver + 1 } } fp g off c) := hM5
 have HFin : Hid ((rowN m.rows i).ver ≠ 1000000 → ({ m with rows := m.rows.set i { r2 with ver := r2.ver + 1 } } : Mb) = (sayMb m t).1 ∧ (sayMb m t).2 = true) := fun hne => by
  rw [HYes.out (by obtain ⟨h1,h2,h3,h4⟩ := HH.out;rintro (h | h | h | h | h);exact h1 h;exact h2 h;exact h3 h;exact h4 h;exact hne h)]
  refine ⟨?_,rfl⟩
  rw [← hr2,← HR1.out,HEL.out]
 by_cases hver : (rowN m.rows i).ver = 1000000
 ·have hnv := nvF_any g (off + i * 8) r2.ver W7 v1 (by omega)
  have HZ : Hid ((sayMb m t).2 = false) := HNo.out (.inr (.inr (.inr (.inr hver))))
  clear hM5 hr2 hs2 hv2 hvb HFin
  go_wp2_with (go_at_call 125;refine hnv.mono ?_;rintro e w' ⟨⟨T,v,rfl⟩,hw'⟩;rw [hw'];clear hw')
  exact ⟨rfl,.inr ⟨HZ.out,⟨_,_,rfl⟩,_,HM4.out.bcm⟩⟩
 ·have hnv := nvT_any g (off + i * 8) r2.ver W7 v1 v2 (by omega) (by omega)
  have HF := HFin.out hver
  have HF2 : Hid (({ m with rows := m.rows.set i { r2 with ver := r2.ver + 1 } } : Mb) = (sayMb m t).1 ∧ (sayMb m t).2 = true) := HF
  clear hM5 hr2 hs2 hv2 hvb HFin HF hver
  go_wp2_with (go_at_call 125;refine hnv.mono ?_;rintro e w' ⟨rfl,hw'⟩;rw [hw'];clear hw')
  first | go_end0 | go_ret
  exact .inl ⟨HF2.out.2,rfl,by rw [← HF2.out.1];exact HM5.out.bcm⟩
end Go.Proofs.Ythioodpmgifomaa
namespace Go.Proofs.Ythioodpmgifomaa
set_option linter.unusedVariables false
set_option linter.unusedSimpArgs false
open Go.RowKit Go.Sort
attribute [local irreducible] sv
theorem say_wkd (m : Mb) (t : List UInt8) : sayM m t = wkdM m (sayMb m t).1 (sayMb m t).2 := by
 unfold sayM wkdM
 split
 ·by_cases hd : m.done = true
  ·rw [if_pos hd,sayMb,if_pos (.inr (.inl hd))]
  ·rw [if_neg hd]
   cases hf : (sayMb m t).2 with
   | true => rw [if_pos rfl,← hf]
   | false =>
    rw [if_neg (by decide)]
    unfold sayMb at hf ⊢
    split at hf
    ·rename_i h;rw [if_pos h]
    ·cases hf
 ·rfl
set_option maxRecDepth 100000 in
set_option maxHeartbeats 800000 in
theorem say1_any (B : Nat) (t : List UInt8) (tb : Nat) (X : World) (R : Ending → World → Prop) (hc : X.cell? ⟨tb,0,none⟩ = some (.string (sv t))) (hS : Calls Try.prog 76 #[.pointer (some ⟨B,0,none⟩),.string (sv t)] X R) (hR : ∀ e w',R e w' → e = .returned (.tuple #[]) ∨ Gu e) :
  Calls Try.prog 75 #[.pointer (some ⟨B,0,none⟩),.pointer (some ⟨tb,0,none⟩)] X R := by
 have HR : Hid (∀ e w',R e w' → e = .returned (.tuple #[]) ∨ Gu e) := hR
 clear hR
 go_enter Try.func75,Try.ntmps75
 go_wp2_with fail
 refine hS.mono ?_
 intro e w1 hRe
 rcases HR.out e w1 hRe with rfl | ⟨T,v,rfl⟩
 ·have HRe : Hid (R (.returned (.tuple #[])) w1) := hRe
  clear hRe hS
  go_wp2
  first | go_end0 | go_ret
  exact HRe.out
 ·exact ⟨rfl,hRe⟩
set_option maxRecDepth 100000 in
set_option maxHeartbeats 1600000 in
theorem implSay : ImplSay := by
 intro A m t w hv ht
 have hmf : ∀ (fn : Fn) (first cap : Array Value) (w : World),(Instr.makeFunc fn first cap).run Try.prog w = .ok (.func fn first cap) w := fun _ _ _ _ => rfl
 have a0 := oneA16 w (.cells #[.int .i64 m.id,.int .i64 m.n,.slice A.ra m.rows.length A.rc,.slice A.sa m.sung.length A.sc,.bool m.done] 39)
 have hb0 : Below w.heap.size w (w.alloc (.cells #[.int .i64 m.id,.int .i64 m.n,.slice A.ra m.rows.length A.rc,.slice A.sa m.sung.length A.sc,.bool m.done] 39)) := a0
 have a1 := oneA16 (w.alloc (.cells #[.int .i64 m.id,.int .i64 m.n,.slice A.ra m.rows.length A.rc,.slice A.sa m.sung.length A.sc,.bool m.done] 39)) (.cells #[.string (sv t)] 9)
 have hb1 : Below w.heap.size w ((w.alloc (.cells #[.int .i64 m.id,.int .i64 m.n,.slice A.ra m.rows.length A.rc,.slice A.sa m.sung.length A.sc,.bool m.done] 39)).alloc (.cells #[.string (sv t)] 9)) := hb0.trans (a1.mono hb0.size)
 have a2 := oneA16 ((w.alloc (.cells #[.int .i64 m.id,.int .i64 m.n,.slice A.ra m.rows.length A.rc,.slice A.sa m.sung.length A.sc,.bool m.done] 39)).alloc (.cells #[.string (sv t)] 9)) (.cells #[.int .i64 0,.int .i64 0,.slice none 0 0,.slice none 0 0,.bool false] 39)
 have hb2 : Below w.heap.size w (((w.alloc (.cells #[.int .i64 m.id,.int .i64 m.n,.slice A.ra m.rows.length A.rc,.slice A.sa m.sung.length A.sc,.bool m.done] 39)).alloc (.cells #[.string (sv t)] 9)).alloc (.cells #[.int .i64 0,.int .i64 0,.slice none 0 0,.slice none 0 0,.bool false] 39)) := hb1.trans (a2.mono hb1.size)
 have hx0 : Bx (((w.alloc (.cells #[.int .i64 m.id,.int .i64 m.n,.slice A.ra m.rows.length A.rc,.slice A.sa m.sung.length A.sc,.bool m.done] 39)).alloc (.cells #[.string (sv t)] 9)).alloc (.cells #[.int .i64 0,.int .i64 0,.slice none 0 0,.slice none 0 0,.bool false] 39)) (w.heap.size) 39 #[.int .i64 m.id,.int .i64 m.n,.slice A.ra m.rows.length A.rc,.slice A.sa m.sung.length A.sc,.bool m.done] := by
  have := ((Bx.new w 39 #[.int .i64 m.id,.int .i64 m.n,.slice A.ra m.rows.length A.rc,.slice A.sa m.sung.length A.sc,.bool m.done]).alloc (.cells #[.string (sv t)] 9)).alloc (.cells #[.int .i64 0,.int .i64 0,.slice none 0 0,.slice none 0 0,.bool false] 39)
  try simp only [World.size_alloc] at this
  exact this
 have hx1 : Bx (((w.alloc (.cells #[.int .i64 m.id,.int .i64 m.n,.slice A.ra m.rows.length A.rc,.slice A.sa m.sung.length A.sc,.bool m.done] 39)).alloc (.cells #[.string (sv t)] 9)).alloc (.cells #[.int .i64 0,.int .i64 0,.slice none 0 0,.slice none 0 0,.bool false] 39)) (w.heap.size + 1) 9 #[.string (sv t)] := by
  have := (Bx.new (w.alloc (.cells #[.int .i64 m.id,.int .i64 m.n,.slice A.ra m.rows.length A.rc,.slice A.sa m.sung.length A.sc,.bool m.done] 39)) 9 #[.string (sv t)]).alloc (.cells #[.int .i64 0,.int .i64 0,.slice none 0 0,.slice none 0 0,.bool false] 39)
  try simp only [World.size_alloc] at this
  exact this
 have hx2 : Bx (((w.alloc (.cells #[.int .i64 m.id,.int .i64 m.n,.slice A.ra m.rows.length A.rc,.slice A.sa m.sung.length A.sc,.bool m.done] 39)).alloc (.cells #[.string (sv t)] 9)).alloc (.cells #[.int .i64 0,.int .i64 0,.slice none 0 0,.slice none 0 0,.bool false] 39)) (w.heap.size + 1 + 1) 39 #[.int .i64 0,.int .i64 0,.slice none 0 0,.slice none 0 0,.bool false] := by
  have := Bx.new ((w.alloc (.cells #[.int .i64 m.id,.int .i64 m.n,.slice A.ra m.rows.length A.rc,.slice A.sa m.sung.length A.sc,.bool m.done] 39)).alloc (.cells #[.string (sv t)] 9)) 39 #[.int .i64 0,.int .i64 0,.slice none 0 0,.slice none 0 0,.bool false]
  try simp only [World.size_alloc] at this
  exact this
 have hP := hv.below hb2
 have hWk := wkd_any 75 #[.pointer (some ⟨w.heap.size + 1,0,none⟩)] A m (sayMb m t).1 (sayMb m t).2 (((w.alloc (.cells #[.int .i64 m.id,.int .i64 m.n,.slice A.ra m.rows.length A.rc,.slice A.sa m.sung.length A.sc,.bool m.done] 39)).alloc (.cells #[.string (sv t)] 9)).alloc (.cells #[.int .i64 0,.int .i64 0,.slice none 0 0,.slice none 0 0,.bool false] 39)) hP (fun _ _ => enters_of Try.func75 (by kernel_rfl) rfl _ _)
  (fun hok hf => by
   obtain ⟨i,n,ok⟩ := okMb_iff.1 hok
   have := (say_loc ok t).1
   rw [this.hn,this.len])
  (fun X B fp i n hX hpl ok hd => say1_any B t (w.heap.size + 1) X _ ((hx1.below hX).at 0 rfl) (say_any B m i n t fp X hpl ok hd ht) (fun e w' h => by
   rcases h with ⟨_,h,_⟩ | ⟨_,h,_⟩
   ·exact .inl h
   ·exact .inr h))
 have HZ0 := say_wkd m t
 unfold mbV mbC at hWk
 have hWl := hx2.lt
 obtain ⟨c0,c1,c2,c3,c4⟩ := Bx.r5 hx0
 have HR0 : Hid (Bx (((w.alloc (.cells #[.int .i64 m.id,.int .i64 m.n,.slice A.ra m.rows.length A.rc,.slice A.sa m.sung.length A.sc,.bool m.done] 39)).alloc (.cells #[.string (sv t)] 9)).alloc (.cells #[.int .i64 0,.int .i64 0,.slice none 0 0,.slice none 0 0,.bool false] 39)) (w.heap.size + 1 + 1) 39 #[.int .i64 0,.int .i64 0,.slice none 0 0,.slice none 0 0,.bool false]) := hx2
 have HB0 : Hid (Below w.heap.size w (((w.alloc (.cells #[.int .i64 m.id,.int .i64 m.n,.slice A.ra m.rows.length A.rc,.slice A.sa m.sung.length A.sc,.bool m.done] 39)).alloc (.cells #[.string (sv t)] 9)).alloc (.cells #[.int .i64 0,.int .i64 0,.slice none 0 0,.slice none 0 0,.bool false] 39))) := hb2
 have HZ : Hid (sayM m t = wkdM m (sayMb m t).1 (sayMb m t).2) := HZ0
 clear a0 a1 a2 hb0 hb1 hb2 hx0 hx1 hx2 hP hv HZ0
 unfold mbV mbC
 generalize wkdM m (sayMb m t).1 (sayMb m t).2 = pm at *
 go_enter Try.func29,Try.ntmps29
 go_wp2_with fail
 generalize (((w.alloc (.cells #[.int .i64 m.id,.int .i64 m.n,.slice A.ra m.rows.length A.rc,.slice A.sa m.sung.length A.sc,.bool m.done] 39)).alloc (.cells #[.string (sv t)] 9)).alloc (.cells #[.int .i64 0,.int .i64 0,.slice none 0 0,.slice none 0 0,.bool false] 39)) = W0 at *
 refine hWk.mono ?_
 rintro e w1 ⟨A2,rfl,fp,hl,hf,hb⟩
 have hR := HR0.out.below hb
 have hsz := hb.size
 have HN : Hid (∀ {z0 z1 z2 z3 z4 : Value},NewL w (((((w1.setCell ⟨w.heap.size + 1 + 1,0,none⟩ z0).setCell ⟨w.heap.size + 1 + 1,1,none⟩ z1).setCell ⟨w.heap.size + 1 + 1,2,none⟩ z2).setCell ⟨w.heap.size + 1 + 1,3,none⟩ z3).setCell ⟨w.heap.size + 1 + 1,4,none⟩ z4) (mbCels pm.1) (mbVals A2 pm.1)) := fun {z0 z1 z2 z3 z4} => by
  have hB1 : Below w.heap.size w w1 := HB0.out.trans (hb.mono HB0.out.size)
  exact ⟨fp,owL_wrt hl (wrt5 w1 (w.heap.size + 1 + 1)) (fun x hx e => by have := hf x hx;omega),fun x hx => by have := hf x hx;omega,(wrt5 w1 (w.heap.size + 1 + 1)).below hB1 hB1.size (fun x e => by omega)⟩
 obtain ⟨z0,z1,z2,z3,z4⟩ := Bx.r5 hR
 obtain ⟨r0,r1,r2,r3,r4⟩ := hR.f5
 clear hWk hl hf hb hR c0 c1 c2 c3 c4
 unfold mbV mbC
 go_wp2
 refine bodyPost_ret (v := .tuple #[mbV A2 pm.1,.bool pm.2]) (by simp [results,Try.results29,go_sem,mbV,mbC, *]) rfl ?_
 rw [HZ.out]
 exact ⟨_,rfl,HN.out⟩
end Go.Proofs.Ythioodpmgifomaa