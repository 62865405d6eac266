/-
  Texts in one: Nmk Nml Nmw Nnx.
-/
import Derived.Test.YthioodpmgifomaaGreatJai
import Derived.Test.YthioodpmgifomaaGreatJae
import Derived.Test.YthioodpmgifomaaGreatJag
namespace Go.Proofs.YthioodpmgifomaaGreat
set_option linter.unusedVariables false
set_option linter.unusedSimpArgs false
open Go.RowKit Go.Sort
def wkdM (m m' : Mb) (flag : Bool) : Mb × Bool := if okMb m = true then (if m.done = true then (m,false) else if flag = true then (m',true) else (m,false)) else (zeroMb,false)
def WkR (X : World) (B : Nat) (fp : Fp) (m' : Mb) (b : Bool) (w' : World) : Prop := if b = true then Bcm X w' B 0 (mb4 m') fp else ∃ m1,Bcm X w' B 0 (mb4 m1) fp
theorem WkR.wrt {X w' : World} {B : Nat} {fp : Fp} {m' : Mb} {b : Bool} (h : WkR X B fp m' b w') : Wrt (fun x => fp x ∨ x = B) X w' := by
 unfold WkR at h
 split at h
 ·exact h.wrt
 ·obtain ⟨m1,h⟩ := h
  exact h.wrt
set_option maxRecDepth 100000 in
set_option maxHeartbeats 1600000 in
theorem wkd_any (F : Nat) (C : Array Value) (A : Ma) (m m' : Mb) (flag : Bool) (w : World) (hv : MbP w A m) (hE : ∀ (args : Array Value) (w : World),(callFunc F args).run Tryz.prog w = .ok (.enter F args) w)
  (hm' : okMb m = true → flag = true → m'.n = (m'.rows.length : Int))
  (hF : ∀ X B fp i n,Below w.heap.size w X → Plc X B 0 (mb4 m) fp → OkM m i n → m.done = false → Calls Tryz.prog F (#[.pointer (some ⟨B,0,none⟩)] ++ C) X fun e w' => (flag = true ∧ e = .returned (.tuple #[]) ∧ Bcm X w' B 0 (mb4 m') fp) ∨ (flag = false ∧ Gu e ∧ ∃ m1,Bcm X w' B 0 (mb4 m1) fp)) :
  Calls Tryz.prog 57 #[mbV A m,.func (.func F) #[] C] w fun e w' => AnsMf w w' e (wkdM m m' flag).1 (wkdM m m' flag).2 := by
 have hmf : ∀ (fn : Fn) (first cap : Array Value) (w : World),(Instr.makeFunc fn first cap).run Tryz.prog w = .ok (.func fn first cap) w := fun _ _ _ _ => rfl
 have hb1 := oneA16 w (.cells #[.int .i64 m.id,.int .i64 m.n,.slice A.ra m.rows.length A.rc,.slice A.sa m.sung.length A.sc,.bool m.done] 27)
 have hb2 := oneA16 (w.alloc (.cells #[.int .i64 m.id,.int .i64 m.n,.slice A.ra m.rows.length A.rc,.slice A.sa m.sung.length A.sc,.bool m.done] 27)) (.cells #[.func (.func F) #[] C] 90)
 have hb3 := oneA16 ((w.alloc (.cells #[.int .i64 m.id,.int .i64 m.n,.slice A.ra m.rows.length A.rc,.slice A.sa m.sung.length A.sc,.bool m.done] 27)).alloc (.cells #[.func (.func F) #[] C] 90)) (.cells #[.int .i64 0,.int .i64 0,.slice none 0 0,.slice none 0 0,.bool false] 27)
 have hx1 : Bx (((w.alloc (.cells #[.int .i64 m.id,.int .i64 m.n,.slice A.ra m.rows.length A.rc,.slice A.sa m.sung.length A.sc,.bool m.done] 27)).alloc (.cells #[.func (.func F) #[] C] 90)).alloc (.cells #[.int .i64 0,.int .i64 0,.slice none 0 0,.slice none 0 0,.bool false] 27)) w.heap.size 27 #[.int .i64 m.id,.int .i64 m.n,.slice A.ra m.rows.length A.rc,.slice A.sa m.sung.length A.sc,.bool m.done] := ((Bx.new w _ _).alloc _).alloc _
 have hx2 : Bx (((w.alloc (.cells #[.int .i64 m.id,.int .i64 m.n,.slice A.ra m.rows.length A.rc,.slice A.sa m.sung.length A.sc,.bool m.done] 27)).alloc (.cells #[.func (.func F) #[] C] 90)).alloc (.cells #[.int .i64 0,.int .i64 0,.slice none 0 0,.slice none 0 0,.bool false] 27)) (w.heap.size + 1) 90 #[.func (.func F) #[] C] := by
  have := (Bx.new (w.alloc (.cells #[.int .i64 m.id,.int .i64 m.n,.slice A.ra m.rows.length A.rc,.slice A.sa m.sung.length A.sc,.bool m.done] 27)) 90 #[.func (.func F) #[] C]).alloc (.cells #[.int .i64 0,.int .i64 0,.slice none 0 0,.slice none 0 0,.bool false] 27)
  simp only [World.size_alloc] at this
  exact this
 have hx3 : Bx (((w.alloc (.cells #[.int .i64 m.id,.int .i64 m.n,.slice A.ra m.rows.length A.rc,.slice A.sa m.sung.length A.sc,.bool m.done] 27)).alloc (.cells #[.func (.func F) #[] C] 90)).alloc (.cells #[.int .i64 0,.int .i64 0,.slice none 0 0,.slice none 0 0,.bool false] 27)) (w.heap.size + 1 + 1) 27 #[.int .i64 0,.int .i64 0,.slice none 0 0,.slice none 0 0,.bool false] := by
  have := Bx.new ((w.alloc (.cells #[.int .i64 m.id,.int .i64 m.n,.slice A.ra m.rows.length A.rc,.slice A.sa m.sung.length A.sc,.bool m.done] 27)).alloc (.cells #[.func (.func F) #[] C] 90)) 27 #[.int .i64 0,.int .i64 0,.slice none 0 0,.slice none 0 0,.bool false]
  simp only [World.size_alloc] at this
  exact this
 have hb12 := hb1.trans (hb2.mono hb1.size)
 have hb13 : Below w.heap.size w (((w.alloc (.cells #[.int .i64 m.id,.int .i64 m.n,.slice A.ra m.rows.length A.rc,.slice A.sa m.sung.length A.sc,.bool m.done] 27)).alloc (.cells #[.func (.func F) #[] C] 90)).alloc (.cells #[.int .i64 0,.int .i64 0,.slice none 0 0,.slice none 0 0,.bool false] 27)) := hb12.trans (hb3.mono hb12.size)
 have hM0 := memI_any A m (((w.alloc (.cells #[.int .i64 m.id,.int .i64 m.n,.slice A.ra m.rows.length A.rc,.slice A.sa m.sung.length A.sc,.bool m.done] 27)).alloc (.cells #[.func (.func F) #[] C] 90)).alloc (.cells #[.int .i64 0,.int .i64 0,.slice none 0 0,.slice none 0 0,.bool false] 27)) (hv.below hb13)
 unfold mbV mbC at *
 have HX1 : Hid (Bx (((w.alloc (.cells #[.int .i64 m.id,.int .i64 m.n,.slice A.ra m.rows.length A.rc,.slice A.sa m.sung.length A.sc,.bool m.done] 27)).alloc (.cells #[.func (.func F) #[] C] 90)).alloc (.cells #[.int .i64 0,.int .i64 0,.slice none 0 0,.slice none 0 0,.bool false] 27)) w.heap.size 27 #[.int .i64 m.id,.int .i64 m.n,.slice A.ra m.rows.length A.rc,.slice A.sa m.sung.length A.sc,.bool m.done]) := hx1
 have HX2 : Hid (Bx (((w.alloc (.cells #[.int .i64 m.id,.int .i64 m.n,.slice A.ra m.rows.length A.rc,.slice A.sa m.sung.length A.sc,.bool m.done] 27)).alloc (.cells #[.func (.func F) #[] C] 90)).alloc (.cells #[.int .i64 0,.int .i64 0,.slice none 0 0,.slice none 0 0,.bool false] 27)) (w.heap.size + 1) 90 #[.func (.func F) #[] C]) := hx2
 have HX3 : Hid (Bx (((w.alloc (.cells #[.int .i64 m.id,.int .i64 m.n,.slice A.ra m.rows.length A.rc,.slice A.sa m.sung.length A.sc,.bool m.done] 27)).alloc (.cells #[.func (.func F) #[] C] 90)).alloc (.cells #[.int .i64 0,.int .i64 0,.slice none 0 0,.slice none 0 0,.bool false] 27)) (w.heap.size + 1 + 1) 27 #[.int .i64 0,.int .i64 0,.slice none 0 0,.slice none 0 0,.bool false]) := hx3
 have HB0 : Hid (Below w.heap.size w (((w.alloc (.cells #[.int .i64 m.id,.int .i64 m.n,.slice A.ra m.rows.length A.rc,.slice A.sa m.sung.length A.sc,.bool m.done] 27)).alloc (.cells #[.func (.func F) #[] C] 90)).alloc (.cells #[.int .i64 0,.int .i64 0,.slice none 0 0,.slice none 0 0,.bool false] 27))) := hb13
 have HV : Hid (MbP w A m) := hv
 obtain ⟨c0,c1,c2,c3,c4⟩ := Bx.r5 hx1
 clear hb1 hb2 hb3 hx1 hx2 hx3 hb12 hb13 hv
 cases hok : okMb m with
 | false =>
  have HZ : Hid (wkdM m m' flag = (zeroMb,false)) := by rw [Hid,wkdM,if_neg (by rw [hok];decide)]
  rw [hok] at hM0
  clear hok hm' hF
  go_enter Tryz.func57,Tryz.ntmps57
  go_wp2_with fail
  generalize (((w.alloc (.cells #[.int .i64 m.id,.int .i64 m.n,.slice A.ra m.rows.length A.rc,.slice A.sa m.sung.length A.sc,.bool m.done] 27)).alloc (.cells #[.func (.func F) #[] C] 90)).alloc (.cells #[.int .i64 0,.int .i64 0,.slice none 0 0,.slice none 0 0,.bool false] 27)) = W0 at *
  refine hM0.mono ?_
  rintro e w1 ⟨rfl,hb1⟩
  have hR := HX3.out.below hb1
  have HB1 : Hid (Below w.heap.size w w1) := HB0.out.trans (hb1.mono HB0.out.size)
  obtain ⟨z0,z1,z2,z3,z4⟩ := Bx.r5 hR
  obtain ⟨f0,f1,f2,f3,f4⟩ := hR.f5
  clear hR hb1 c0 c1 c2 c3 c4 hM0
  go_wp2
  refine bodyPost_ret (v := .tuple #[mbV ⟨none,0,none,0⟩ zeroMb,.bool false]) (by simp [results,Tryz.results57,go_sem,mbV,mbC,zeroMb, *]) rfl ?_
  rw [HZ.out]
  exact ⟨_,rfl,ansM_zero ((wrt5 w1 (w.heap.size + 1 + 1)).below HB1.out HB1.out.size (fun b h => by omega))⟩
 | true =>
 obtain ⟨i,n,ok⟩ := okMb_iff.1 hok
 have HZ : Hid (wkdM m m' flag = if m.done = true then (m,false) else if flag = true then (m',true) else (m,false)) := by rw [Hid,wkdM,if_pos hok]
 have HM' : Hid (flag = true → m'.n = (m'.rows.length : Int)) := hm' hok
 have HMn : Hid (m.n = (m.rows.length : Int)) := by rw [Hid,ok.hn,ok.len]
 rw [hok] at hM0
 have HF : Hid (∀ X B fp i n,Below w.heap.size w X → Plc X B 0 (mb4 m) fp → OkM m i n → m.done = false → Calls Tryz.prog F (#[.pointer (some ⟨B,0,none⟩)] ++ C) X fun e w' => (flag = true ∧ e = .returned (.tuple #[]) ∧ Bcm X w' B 0 (mb4 m') fp) ∨ (flag = false ∧ Gu e ∧ ∃ m1,Bcm X w' B 0 (mb4 m1) fp)) := hF
 clear hok hm' hF
 go_enter Tryz.func57,Tryz.ntmps57
 go_wp2_with fail
 generalize (((w.alloc (.cells #[.int .i64 m.id,.int .i64 m.n,.slice A.ra m.rows.length A.rc,.slice A.sa m.sung.length A.sc,.bool m.done] 27)).alloc (.cells #[.func (.func F) #[] C] 90)).alloc (.cells #[.int .i64 0,.int .i64 0,.slice none 0 0,.slice none 0 0,.bool false] 27)) = W0 at *
 refine hM0.mono ?_
 rintro e w1 ⟨rfl,hb1⟩
 have HB1 : Hid (Below w.heap.size w w1) := HB0.out.trans (hb1.mono HB0.out.size)
 have HY1 : Hid (Bx w1 w.heap.size 27 #[.int .i64 m.id,.int .i64 m.n,.slice A.ra m.rows.length A.rc,.slice A.sa m.sung.length A.sc,.bool m.done]) := HX1.out.below hb1
 have HY2 : Hid (Bx w1 (w.heap.size + 1) 90 #[.func (.func F) #[] C]) := HX2.out.below hb1
 have HY3 : Hid (Bx w1 (w.heap.size + 1 + 1) 27 #[.int .i64 0,.int .i64 0,.slice none 0 0,.slice none 0 0,.bool false]) := HX3.out.below hb1
 clear hb1 c0 c1 c2 c3 c4 hM0 HX1 HX2 HX3 HB0
 have hMo := mof_any A m i n w1 (HV.out.below HB1.out) ok
 unfold mbV mbC at hMo
 obtain ⟨c0,c1,c2,c3,c4⟩ := Bx.r5 HY1.out
 go_wp2_with fail
 refine hMo.mono ?_
 rintro e w2 ⟨A2,rfl,fp,hl2,hf2,hb2⟩
 unfold imV imC
 have HB2 : Hid (Below w.heap.size w w2) := HB1.out.trans (hb2.mono HB1.out.size)
 have HZ1 : Hid (Bx w2 w.heap.size 27 #[.int .i64 m.id,.int .i64 m.n,.slice A.ra m.rows.length A.rc,.slice A.sa m.sung.length A.sc,.bool m.done]) := HY1.out.below hb2
 have HZ2 : Hid (Bx w2 (w.heap.size + 1) 90 #[.func (.func F) #[] C]) := HY2.out.below hb2
 have HZ3 : Hid (Bx w2 (w.heap.size + 1 + 1) 27 #[.int .i64 0,.int .i64 0,.slice none 0 0,.slice none 0 0,.bool false]) := HY3.out.below hb2
 have hlt2 := owL_lt hl2
 have hw1 := HY3.out.lt
 have hs2 := hb2.size
 clear c0 c1 c2 c3 c4 hMo
 -- the copy lies in a box of its own
 have hba := oneA16 w2 (.cells #[.int .i64 m.id,.slice A2.ra m.rows.length A2.rc,.slice A2.sa m.sung.length A2.sc,.bool m.done] 139)
 have hxb := Bx.new w2 139 #[.int .i64 m.id,.slice A2.ra m.rows.length A2.rc,.slice A2.sa m.sung.length A2.sc,.bool m.done]
 have hP3 : Plc (w2.alloc (.cells #[.int .i64 m.id,.slice A2.ra m.rows.length A2.rc,.slice A2.sa m.sung.length A2.sc,.bool m.done] 139)) w2.heap.size 0 (mb4 m) fp := ibox_plc hxb (owL_below hl2 hba) (fun k => by have := hlt2 _ k;omega)
 have HB3 : Hid (Below w.heap.size w (w2.alloc (.cells #[.int .i64 m.id,.slice A2.ra m.rows.length A2.rc,.slice A2.sa m.sung.length A2.sc,.bool m.done] 139))) := HB2.out.trans (hba.mono HB2.out.size)
 have HU1 : Hid (Bx (w2.alloc (.cells #[.int .i64 m.id,.slice A2.ra m.rows.length A2.rc,.slice A2.sa m.sung.length A2.sc,.bool m.done] 139)) w.heap.size 27 #[.int .i64 m.id,.int .i64 m.n,.slice A.ra m.rows.length A.rc,.slice A.sa m.sung.length A.sc,.bool m.done]) := HZ1.out.below hba
 have HU2 : Hid (Bx (w2.alloc (.cells #[.int .i64 m.id,.slice A2.ra m.rows.length A2.rc,.slice A2.sa m.sung.length A2.sc,.bool m.done] 139)) (w.heap.size + 1) 90 #[.func (.func F) #[] C]) := HZ2.out.below hba
 have HU3 : Hid (Bx (w2.alloc (.cells #[.int .i64 m.id,.slice A2.ra m.rows.length A2.rc,.slice A2.sa m.sung.length A2.sc,.bool m.done] 139)) (w.heap.size + 1 + 1) 27 #[.int .i64 0,.int .i64 0,.slice none 0 0,.slice none 0 0,.bool false]) := HZ3.out.below hba
 have hB3 : w2.heap.size < (w2.alloc (.cells #[.int .i64 m.id,.slice A2.ra m.rows.length A2.rc,.slice A2.sa m.sung.length A2.sc,.bool m.done] 139)).heap.size := hxb.lt
 have hfl : ∀ b,fp b → w.heap.size + 1 + 1 < b ∧ b < w2.heap.size := fun b hb => ⟨by have := hf2 b hb;omega,hlt2 b hb⟩
 clear hxb hl2 hf2 hlt2 hb2 hba HY1 HY2 HY3 HZ1 HZ2 HZ3
 go_upto_region 4 with fail
 generalize w2.alloc (.cells #[.int .i64 m.id,.slice A2.ra m.rows.length A2.rc,.slice A2.sa m.sung.length A2.sc,.bool m.done] 139) = V3 at *
 generalize w2.heap.size = B at *
 have hbt := oneA16 V3 (.cells #[.bool false] 4)
 have hP4 := hP3.below hbt
 have hB4 : Below w.heap.size w (V3.alloc (.cells #[.bool false] 4)) := HB3.out.trans (hbt.mono HB3.out.size)
 have hw4 := (HU2.out.below hbt).at 0 (v := .func (.func F) #[] C) rfl
 have hsz4 : V3.heap.size < (V3.alloc (.cells #[.bool false] 4)).heap.size := (Bx.new V3 4 #[.bool false]).lt
 have hT := told_any 114 #[] #[.pointer (some ⟨B,0,none⟩),.pointer (some ⟨w.heap.size + 1,0,none⟩)] V3 (fun b X => b = (!m.done && flag) ∧ WkR (V3.alloc (.cells #[.bool false] 4)) B fp m' b X) (fun _ _ => enters_of Tryz.func114 (by kernel_rfl) rfl _ _)
  ((wk1_any F C m B (w.heap.size + 1) fp _ (fun e w' => (m.done = false ∧ flag = true ∧ e = .returned (.tuple #[]) ∧ Bcm (V3.alloc (.cells #[.bool false] 4)) w' B 0 (mb4 m') fp) ∨ ((m.done = true ∨ flag = false) ∧ Gu e ∧ ∃ m1,Bcm (V3.alloc (.cells #[.bool false] 4)) w' B 0 (mb4 m1) fp)) hE hP4 hw4 (fun hd => (HF.out _ B fp i n hB4 hP4 ok hd).mono (fun e w' h => by
   rcases h with ⟨h1,h2,h3⟩ | ⟨h1,h2,h3⟩
   ·exact .inl ⟨hd,h1,h2,h3⟩
   ·exact .inr ⟨.inr h1,h2,h3⟩)) (fun hd e hg => .inr ⟨.inl hd,hg,m,Bcm.refl hP4⟩) (fun e w' h => by
   rcases h with ⟨_,_,h,_⟩ | ⟨_,h,_⟩
   ·exact .inl h
   ·exact .inr h)).mono (fun e w' h => by
   rcases h with ⟨h1,h2,h3,h4⟩ | ⟨h1,h2,h3⟩
   ·exact .inl ⟨h3,by rw [h1,h2];rfl,by unfold WkR;rw [if_pos rfl];exact h4⟩
   ·refine .inr ⟨h2, ?_,by unfold WkR;rw [if_neg (by decide)];exact h3⟩
    rcases h1 with h1 | h1 <;> rw [h1] <;> simp)) (fun b X h => (Bx.new V3 4 #[.bool false]).wrt h.2.wrt (fun k => by rcases k with k | k;have := hfl _ k;omega;omega))
 clear hP3 hbt hP4 hB4 hw4
 have HU1' := HU1
 go_wp2_with fail
 refine hT.mono ?_
 rintro e Y ⟨b,X,rfl,⟨hbv,hWk⟩,hWt⟩
 have hWX := hWk.wrt
 have hX0 : Below w.heap.size w (V3.alloc (.cells #[.bool false] 4)) := HB3.out.trans ((oneA16 V3 _).mono HB3.out.size)
 have hBX : Below w.heap.size w X := hWX.below hX0 hX0.size (fun x hx => by rcases hx with hx | hx;have := hfl x hx;omega;omega)
 have hBY : Below w.heap.size w Y := hWt.below hBX hBX.size (fun x hx => by have := HB3.out.size;omega)
 have keep : ∀ {k : Nat} {T : TypeId} {cs : Array Value},k < w.heap.size + 1 + 1 + 1 → Bx V3 k T cs → Bx Y k T cs := fun {k T cs} hk hx => ((hx.alloc (.cells #[.bool false] 4)).wrt hWX (fun kk => by rcases kk with kk | kk;have := hfl _ kk;omega;omega)).wrt hWt (fun kk => by omega)
 have HT1 : Hid (Bx Y w.heap.size 27 #[.int .i64 m.id,.int .i64 m.n,.slice A.ra m.rows.length A.rc,.slice A.sa m.sung.length A.sc,.bool m.done]) := keep (by omega) HU1.out
 have HT3 : Hid (Bx Y (w.heap.size + 1 + 1) 27 #[.int .i64 0,.int .i64 0,.slice none 0 0,.slice none 0 0,.bool false]) := keep (by omega) HU3.out
 have hsz : (V3.alloc (.cells #[.bool false] 4)).heap.size = V3.heap.size + 1 := World.size_alloc _ _
 have hpl : ∃ (mm : Mb) (fp1 : Fp),Plc Y B 0 (mb4 mm) fp1 ∧ (∀ x,fp1 x → w.heap.size + 1 + 1 < x) ∧ (b = true → mm = m') := by
  have key : ∀ mm,Bcm (V3.alloc (.cells #[.bool false] 4)) X B 0 (mb4 mm) fp → ∃ fp1,Plc Y B 0 (mb4 mm) fp1 ∧ ∀ x,fp1 x → w.heap.size + 1 + 1 < x := fun mm hb => by
   obtain ⟨fp1,h1,h2⟩ := hb.plc
   have h3 : ∀ x,fp1 x → w.heap.size + 1 + 1 < x ∧ x ≠ V3.heap.size := fun x hx => by
    rcases h2 x hx with k | k
    ·have := hfl x k;omega
    ·have := HB3.out.size;omega
   exact ⟨fp1,h1.wrt hWt (fun x hx e => by rcases hx with hx | hx;exact (h3 x hx).2 e;omega),fun x hx => (h3 x hx).1⟩
  unfold WkR at hWk
  cases b with
  | true =>
   rw [if_pos rfl] at hWk
   obtain ⟨fp1,h1,h2⟩ := key m' hWk
   exact ⟨m',fp1,h1,h2,fun _ => rfl⟩
  | false =>
   rw [if_neg (by decide)] at hWk
   obtain ⟨m1,hWk⟩ := hWk
   obtain ⟨fp1,h1,h2⟩ := key m1 hWk
   exact ⟨m1,fp1,h1,h2,fun h => by cases h⟩
 obtain ⟨mm,fp1,hPY,hf1,hmm⟩ := hpl
 have HBY : Hid (Below w.heap.size w Y) := hBY
 have hBl := hPY.lt
 obtain ⟨A3,⟨y0,y1,y2,y3⟩,⟨q0,q1,q2,q3⟩,hl3⟩ := hPY.c4
 clear hT hWk hWX hX0 hBX hBY keep hWt HU1 HU1' HU2 HU3 hPY hsz
 cases b with
 | true =>
  have hmm' := hmm rfl
  subst hmm'
  have hdf : m.done = false ∧ flag = true := by
   cases hd : m.done <;> cases hf : flag <;> rw [hd,hf] at hbv <;> simp at hbv ⊢
  have HZf : Hid (wkdM m mm flag = (mm,true)) := by rw [Hid,HZ.out,if_neg (by rw [hdf.1];decide),if_pos hdf.2]
  have hTo := tol_any A3 mm Y (HM'.out hdf.2)
  unfold imV imC at hTo
  clear hmm hbv hdf q0 q1 q2 q3
  go_wp2_with fail
  refine hTo.mono ?_
  rintro e Y2 ⟨rfl,hb2⟩
  have hR := HT3.out.below hb2
  have HN : Hid (∀ {z0 z1 z2 z3 z4 : Value},NewL w (((((Y2.setCell ⟨w.heap.size + 1 + 1,0,none⟩ z0).setCell ⟨w.heap.size + 1 + 1,1,none⟩ z1).setCell ⟨w.heap.size + 1 + 1,2,none⟩ z2).setCell ⟨w.heap.size + 1 + 1,3,none⟩ z3).setCell ⟨w.heap.size + 1 + 1,4,none⟩ z4) (mbCels mm) (mbVals A3 mm)) := fun {z0 z1 z2 z3 z4} => by
   have hB2 : Below w.heap.size w Y2 := HBY.out.trans (hb2.mono HBY.out.size)
   exact ⟨fp1,owL_wrt (owL_below hl3 hb2) (wrt5 Y2 (w.heap.size + 1 + 1)) (fun x hx e => by have := hf1 x hx;omega),fun x hx => by have := hf1 x hx;omega,(wrt5 Y2 (w.heap.size + 1 + 1)).below hB2 hB2.size (fun x e => by omega)⟩
  unfold mbV mbC
  obtain ⟨z0,z1,z2,z3,z4⟩ := Bx.r5 hR
  obtain ⟨r0,r1,r2,r3,r4⟩ := hR.f5
  clear hTo hR hb2 hl3 y0 y1 y2 y3
  go_wp2
  refine bodyPost_ret (v := .tuple #[mbV A3 mm,.bool true]) (by simp [results,Tryz.results57,go_sem,mbV,mbC, *]) rfl ?_
  rw [HZf.out]
  exact ⟨_,rfl,HN.out⟩
 | false =>
  have HZf : Hid (wkdM m m' flag = (m,false)) := by
   rw [Hid,HZ.out]
   cases hd : m.done <;> cases hf : flag <;> rw [hd,hf] at hbv <;> simp at hbv ⊢
  have hMo := mof_any A m i n Y (HV.out.below HBY.out) ok
  unfold mbV mbC at hMo
  obtain ⟨c0,c1,c2,c3,c4⟩ := Bx.r5 HT1.out
  have HQ : Hid (∀ Z,Below Y.heap.size Y Z → (∃ v0 v1 v2 v3,Z.cell? ⟨B,0,none⟩ = some v0 ∧ Z.cell? ⟨B,1,none⟩ = some v1 ∧ Z.cell? ⟨B,2,none⟩ = some v2 ∧ Z.cell? ⟨B,3,none⟩ = some v3) ∧ Z.frozen? ⟨B,0,none⟩ = false ∧ Z.frozen? ⟨B,1,none⟩ = false ∧ Z.frozen? ⟨B,2,none⟩ = false ∧ Z.frozen? ⟨B,3,none⟩ = false) := fun Z hZ => by
   have e := hZ.block B hBl
   have t : ∀ {j v},Y.cell? ⟨B,j,none⟩ = some v → Z.cell? ⟨B,j,none⟩ = some v := fun h => (World.cell?_of_block e).trans h
   have u : ∀ {j},Y.frozen? ⟨B,j,none⟩ = false → Z.frozen? ⟨B,j,none⟩ = false := fun h => by simp only [World.frozen?,e] at h ⊢;exact h
   exact ⟨⟨_,_,_,_,t y0,t y1,t y2,t y3⟩,u q0,u q1,u q2,u q3⟩
  clear hmm hbv q0 q1 q2 q3 y0 y1 y2 y3 hl3
  go_wp2_with fail
  refine hMo.mono ?_
  rintro e Y1 ⟨A4,rfl,fp4,hl4,hf4,hb4⟩
  unfold imV imC
  obtain ⟨⟨v0,v1,v2,v3,g0,g1,g2,g3⟩,p0,p1,p2,p3⟩ := HQ.out Y1 hb4
  have hsY := hb4.size
  have hW4 : Wrt (fun x => x = B) Y1 ((((Y1.setCell ⟨B,0,none⟩ (.int .i64 m.id)).setCell ⟨B,1,none⟩ (.slice A4.ra m.rows.length A4.rc)).setCell ⟨B,2,none⟩ (.slice A4.sa m.sung.length A4.sc)).setCell ⟨B,3,none⟩ (.bool m.done)) := wrt4 Y1 B
  have hl5 : owL ((((Y1.setCell ⟨B,0,none⟩ (.int .i64 m.id)).setCell ⟨B,1,none⟩ (.slice A4.ra m.rows.length A4.rc)).setCell ⟨B,2,none⟩ (.slice A4.sa m.sung.length A4.sc)).setCell ⟨B,3,none⟩ (.bool m.done)) (mbCels m) (mbVals A4 m) fp4 := owL_wrt hl4 hW4 (fun x hx e => by have := hf4 x hx;omega)
  have HB5 : Hid (Below w.heap.size w ((((Y1.setCell ⟨B,0,none⟩ (.int .i64 m.id)).setCell ⟨B,1,none⟩ (.slice A4.ra m.rows.length A4.rc)).setCell ⟨B,2,none⟩ (.slice A4.sa m.sung.length A4.sc)).setCell ⟨B,3,none⟩ (.bool m.done))) := hW4.below (HBY.out.trans (hb4.mono HBY.out.size)) (HBY.out.trans (hb4.mono HBY.out.size)).size (fun x e => by omega)
  have hT5 : Bx ((((Y1.setCell ⟨B,0,none⟩ (.int .i64 m.id)).setCell ⟨B,1,none⟩ (.slice A4.ra m.rows.length A4.rc)).setCell ⟨B,2,none⟩ (.slice A4.sa m.sung.length A4.sc)).setCell ⟨B,3,none⟩ (.bool m.done)) (w.heap.size + 1 + 1) 27 #[.int .i64 0,.int .i64 0,.slice none 0 0,.slice none 0 0,.bool false] := (HT3.out.below hb4).wrt hW4 (fun e => by omega)
  have HT5 : Hid (Bx ((((Y1.setCell ⟨B,0,none⟩ (.int .i64 m.id)).setCell ⟨B,1,none⟩ (.slice A4.ra m.rows.length A4.rc)).setCell ⟨B,2,none⟩ (.slice A4.sa m.sung.length A4.sc)).setCell ⟨B,3,none⟩ (.bool m.done)) (w.heap.size + 1 + 1) 27 #[.int .i64 0,.int .i64 0,.slice none 0 0,.slice none 0 0,.bool false]) := hT5
  have HL5 : Hid (owL ((((Y1.setCell ⟨B,0,none⟩ (.int .i64 m.id)).setCell ⟨B,1,none⟩ (.slice A4.ra m.rows.length A4.rc)).setCell ⟨B,2,none⟩ (.slice A4.sa m.sung.length A4.sc)).setCell ⟨B,3,none⟩ (.bool m.done)) (mbCels m) (mbVals A4 m) fp4) := hl5
  have x0 : ((((Y1.setCell ⟨B,0,none⟩ (.int .i64 m.id)).setCell ⟨B,1,none⟩ (.slice A4.ra m.rows.length A4.rc)).setCell ⟨B,2,none⟩ (.slice A4.sa m.sung.length A4.sc)).setCell ⟨B,3,none⟩ (.bool m.done)).cell? ⟨B,0,none⟩ = some (.int .i64 m.id) := by simp [go_sem,g0,g1,g2,g3]
  have x1 : ((((Y1.setCell ⟨B,0,none⟩ (.int .i64 m.id)).setCell ⟨B,1,none⟩ (.slice A4.ra m.rows.length A4.rc)).setCell ⟨B,2,none⟩ (.slice A4.sa m.sung.length A4.sc)).setCell ⟨B,3,none⟩ (.bool m.done)).cell? ⟨B,1,none⟩ = some (.slice A4.ra m.rows.length A4.rc) := by simp [go_sem,g0,g1,g2,g3]
  have x2 : ((((Y1.setCell ⟨B,0,none⟩ (.int .i64 m.id)).setCell ⟨B,1,none⟩ (.slice A4.ra m.rows.length A4.rc)).setCell ⟨B,2,none⟩ (.slice A4.sa m.sung.length A4.sc)).setCell ⟨B,3,none⟩ (.bool m.done)).cell? ⟨B,2,none⟩ = some (.slice A4.sa m.sung.length A4.sc) := by simp [go_sem,g0,g1,g2,g3]
  have x3 : ((((Y1.setCell ⟨B,0,none⟩ (.int .i64 m.id)).setCell ⟨B,1,none⟩ (.slice A4.ra m.rows.length A4.rc)).setCell ⟨B,2,none⟩ (.slice A4.sa m.sung.length A4.sc)).setCell ⟨B,3,none⟩ (.bool m.done)).cell? ⟨B,3,none⟩ = some (.bool m.done) := by simp [go_sem,g0,g1,g2,g3]
  have hTo := tol_any A4 m ((((Y1.setCell ⟨B,0,none⟩ (.int .i64 m.id)).setCell ⟨B,1,none⟩ (.slice A4.ra m.rows.length A4.rc)).setCell ⟨B,2,none⟩ (.slice A4.sa m.sung.length A4.sc)).setCell ⟨B,3,none⟩ (.bool m.done)) HMn.out
  unfold imV imC at hTo
  have HF4 : Hid (∀ x,fp4 x → w.heap.size + 1 + 1 < x) := fun x hx => by have := hf4 x hx;have := HT3.out.lt;omega
  clear hl4 hf4 hl5 hT5 hW4 hMo c0 c1 c2 c3 c4 HQ
  go_upto_region 7 with fail
  generalize ((((Y1.setCell ⟨B,0,none⟩ (.int .i64 m.id)).setCell ⟨B,1,none⟩ (.slice A4.ra m.rows.length A4.rc)).setCell ⟨B,2,none⟩ (.slice A4.sa m.sung.length A4.sc)).setCell ⟨B,3,none⟩ (.bool m.done)) = Y5 at *
  clear g0 g1 g2 g3 p0 p1 p2 p3
  go_wp2_with fail
  refine hTo.mono ?_
  rintro e Y2 ⟨rfl,hb2⟩
  have hR := HT5.out.below hb2
  have HN : Hid (∀ {z0 z1 z2 z3 z4 : Value},NewL w (((((Y2.setCell ⟨w.heap.size + 1 + 1,0,none⟩ z0).setCell ⟨w.heap.size + 1 + 1,1,none⟩ z1).setCell ⟨w.heap.size + 1 + 1,2,none⟩ z2).setCell ⟨w.heap.size + 1 + 1,3,none⟩ z3).setCell ⟨w.heap.size + 1 + 1,4,none⟩ z4) (mbCels m) (mbVals A4 m)) := fun {z0 z1 z2 z3 z4} => by
   have hB2 : Below w.heap.size w Y2 := HB5.out.trans (hb2.mono HB5.out.size)
   exact ⟨fp4,owL_wrt (owL_below HL5.out hb2) (wrt5 Y2 (w.heap.size + 1 + 1)) (fun x hx e => by have := HF4.out x hx;omega),fun x hx => by have := HF4.out x hx;omega,(wrt5 Y2 (w.heap.size + 1 + 1)).below hB2 hB2.size (fun x e => by omega)⟩
  unfold mbV mbC
  obtain ⟨z0,z1,z2,z3,z4⟩ := Bx.r5 hR
  obtain ⟨r0,r1,r2,r3,r4⟩ := hR.f5
  clear hTo hR hb2 x0 x1 x2 x3
  go_wp2
  refine bodyPost_ret (v := .tuple #[mbV A4 m,.bool false]) (by simp [results,Tryz.results57,go_sem,mbV,mbC, *]) rfl ?_
  rw [HZf.out]
  exact ⟨_,rfl,HN.out⟩
end Go.Proofs.YthioodpmgifomaaGreat
namespace Go.Proofs.YthioodpmgifomaaGreat
set_option linter.unusedVariables false
set_option linter.unusedSimpArgs false
open Go.RowKit Go.Sort
set_option maxHeartbeats 800000 in
theorem nvT_any (g q : Nat) (ver : Int) (X : World) (hc : X.cell? ⟨g,q,none⟩ = some (.int .i64 ver)) (hf : X.frozen? ⟨g,q,none⟩ = false) (h0 : 0 ≤ ver) (hv : ver < 1000000) :
  Calls Tryz.prog 119 #[.pointer (some ⟨g,q,none⟩)] X fun e w' => e = .returned (.tuple #[]) ∧ w' = X.setCell ⟨g,q,none⟩ (.int .i64 (ver + 1)) := by
 have hw : wrap64 (ver + 1) = ver + 1 := by unfold wrap64;omega
 go_enter Tryz.func119,Tryz.ntmps119
 go_wp2_with (go_at_call 115;refine (wantT _).mono ?_;rintro e w' ⟨rfl,hw'⟩;rw [hw'];clear hw')
 first | go_end0 | go_ret
 exact ⟨rfl,rfl⟩
set_option maxHeartbeats 800000 in
theorem nvF_any (g q : Nat) (ver : Int) (X : World) (hc : X.cell? ⟨g,q,none⟩ = some (.int .i64 ver)) (hv : ¬ ver < 1000000) :
  Calls Tryz.prog 119 #[.pointer (some ⟨g,q,none⟩)] X fun e w' => Gu e ∧ w' = X := by
 go_enter Tryz.func119,Tryz.ntmps119
 go_wp2_with (go_at_call 115;refine (wantF _).mono ?_;rintro e w' ⟨⟨T,v,rfl⟩,hw'⟩;rw [hw'];clear hw')
 exact ⟨rfl,⟨_,_,rfl⟩,rfl⟩
attribute [local irreducible] sv
end Go.Proofs.YthioodpmgifomaaGreat
namespace Go.Proofs.YthioodpmgifomaaGreat
set_option linter.unusedVariables false
set_option linter.unusedSimpArgs false
open Go.RowKit Go.Sort
theorem Iw.own {w X : World} {B : Nat} {m : Mb} {fp : Fp} {g off c : Nat} (h : Iw w X B m fp g off c) {i : Nat} (hi : i < m.rows.length) : ∃ f,Plc X g (off + i * 8) (rw8 (rowN m.rows i)) f ∧ B ≠ g ∧ ¬ f B ∧ (∀ b,f b → b < X.heap.size) ∧ g < X.heap.size ∧ ∀ (X1 Y : World) (r : Rw),Below X.heap.size X X1 → Bcm X1 Y g (off + i * 8) (rw8 r) f → Iw w Y B { m with rows := m.rows.set i r } fp g off c := by
 obtain ⟨fp1,hp,hf1,hgo⟩ := h.bcm.next
 obtain ⟨g',off',c',f,h1,hgB,hfg,hfs,hpl,hput⟩ := hp.el (F := rw8) rw8_len (by omega) (j := 1) (L := m.rows) rfl (rowN_at hi)
 have e := Option.some.inj (h1.symm.trans h.rws)
 cases e
 have hfB : ¬ f B := fun hb => hp.nB (hfs B hb)
 refine ⟨f,hpl,fun e => hgB e.symm,hfB,hpl.flt,hpl.lt,fun X1 Y r hb hB => ?_⟩
 have hB1 := hB.first hb hpl.lt hpl.flt
 refine ⟨hgo Y _ rfl (hput Y r hB1), ?_⟩
 rw [World.cell?_of_block (hB1.wrt.block B hp.lt (fun kk => by rcases kk with kk | kk;exact hfB kk;exact hgB kk.symm)),h.rws]
 simp
theorem oth_doubt {m : Mb} {i n : Nat} (ok : OkM m i n) (who : Int) (hd : m.done = false) : (othB i n (rowN m.rows i).sus who = false → (doubtMb m who).2 = false) ∧ (othB i n (rowN m.rows i).sus who = true → (rowN m.rows i).ver = 1000000 → (doubtMb m who).2 = false) ∧ (othB i n (rowN m.rows i).sus who = true → (rowN m.rows i).ver ≠ 1000000 → doubtMb m who = ({ m with rows := m.rows.set i { wdR i (rowN m.rows i) [who] 1 with ver := (rowN m.rows i).ver + 1 } },true)) := by
 have e : m.i = i := by unfold Mb.i;rw [ok.hid];rfl
 have key : othB i n (rowN m.rows i).sus who = true ↔ ¬ (inB who 0 (m.n - 1) = false ∨ who = m.id ∨ who ∈ (rowN m.rows i).sus) := by
  unfold othB
  rw [ok.hn,ok.hid]
  simp only [Bool.and_eq_true,decide_eq_true_eq,not_or,Bool.not_eq_false]
  exact ⟨fun h => ⟨h.2.1,h.1,h.2.2⟩,fun h => ⟨h.2.1,h.1,h.2.2⟩⟩
 unfold doubtMb
 rw [Mb.own,e]
 refine ⟨fun h => ?_,fun h hv => ?_,fun h hv => ?_⟩
 ·rw [if_pos]
  have : ¬ ¬ (inB who 0 (m.n - 1) = false ∨ who = m.id ∨ who ∈ (rowN m.rows i).sus) := fun hn => by rw [key.2 hn] at h;cases h
  rcases Classical.not_not.1 this with h | h | h
  ·exact .inl h
  ·exact .inr (.inl h)
  ·exact .inr (.inr (.inl h))
 ·rw [if_pos (.inr (.inr (.inr (.inr hv))))]
 ·have hk := key.1 h
  simp only [not_or] at hk
  rw [if_neg (by rintro (h | h | h | h | h);exact hk.1 h;exact hk.2.1 h;exact hk.2.2 h;rw [hd] at h;cases h;exact hv h)]
  have hw : learnS i (rowN m.rows i).sus ([who].take 1) = putL (rowN m.rows i).sus who := by
   show (if who = (i : Int) then _ else putL (rowN m.rows i).sus who) = _
   rw [if_neg (by rw [← ok.hid];exact hk.2.1)]
  rw [wdR,hw,Mb.put,e]
set_option maxRecDepth 100000 in
set_option maxHeartbeats 1600000 in
theorem dbt_any (B : Nat) (m : Mb) (i n : Nat) (who : Int) (fp : Fp) (w : World) (h : Plc w B 0 (mb4 m) fp) (ok : OkM m i n) (hd : m.done = false) :
  Calls Tryz.prog 62 #[.pointer (some ⟨B,0,none⟩),.int .i64 who] w fun e w' => ((doubtMb m who).2 = true ∧ e = .returned (.tuple #[]) ∧ Bcm w w' B 0 (mb4 (doubtMb m who).1) fp) ∨ ((doubtMb m who).2 = false ∧ Gu e ∧ ∃ m1,Bcm w w' B 0 (mb4 m1) fp) := by
 have hil : i < m.rows.length := by rw [ok.len];exact ok.lt
 have hn5 := ok.n5
 obtain ⟨g,off,c,M0⟩ := Iw.start h (by omega)
 obtain ⟨c0,c3⟩ := M0.id'
 have c1 := M0.rws
 rw [ok.hid] at c0
 obtain ⟨Ak,⟨⟨d0,d1,d2,d3⟩,d4,d5,d6,d7⟩,hrs⟩ := M0.row ok.fit hil
 have hO := oth_any B i n g off c Ak.sa Ak.sc (rowN m.rows i).sus who w c0 (by rw [← ok.len];exact c1) ok.lt hn5.2 d3 hrs.sus hrs.ms
 have HM0 : Hid (Iw w w B m fp g off c) := M0
 obtain ⟨p1,p2,p3⟩ := oth_doubt ok who hd
 have HD : Hid ((othB i n (rowN m.rows i).sus who = false → (doubtMb m who).2 = false) ∧ (othB i n (rowN m.rows i).sus who = true → (rowN m.rows i).ver = 1000000 → (doubtMb m who).2 = false) ∧ (othB i n (rowN m.rows i).sus who = true → (rowN m.rows i).ver ≠ 1000000 → doubtMb m who = ({ m with rows := m.rows.set i { wdR i (rowN m.rows i) [who] 1 with ver := (rowN m.rows i).ver + 1 } },true))) := ⟨p1,p2,p3⟩
 clear M0 h c0 c1 c3 d0 d1 d2 d3 d4 d5 d6 d7 hrs p1 p2 p3
 cases e1 : othB i n (rowN m.rows i).sus who with
 | false =>
  have HZ : Hid ((doubtMb m who).2 = false) := HD.out.1 e1
  rw [e1] at hO
  go_enter Tryz.func62,Tryz.ntmps62
  go_wp2_with (first | (go_at_call 120;refine hO.mono ?_;rintro e wA ⟨rfl,hbA⟩;have HG : Hid (∃ m1,Bcm w wA B 0 (mb4 m1) fp) := ⟨m,(HM0.out.step hbA).bcm⟩;clear hbA) | (go_at_call 115;refine (wantF _).mono ?_;rintro e w' ⟨⟨T,v,rfl⟩,hw'⟩;rw [hw'];clear hw'))
  exact ⟨rfl,.inr ⟨HZ.out,⟨_,_,rfl⟩,HG.out⟩⟩
 | true =>
 have HE1 : Hid (othB i n (rowN m.rows i).sus who = true) := e1
 have hwho : 0 ≤ who ∧ who < (n : Int) := by
  unfold othB at e1
  simp only [Bool.and_eq_true] at e1
  have := inB7.1 e1.2.1
  omega
 rw [e1] at hO
 clear e1
 go_enter Tryz.func62,Tryz.ntmps62
 go_upto_region 1 with (first | (go_at_call 120;refine hO.mono ?_;rintro e wA ⟨rfl,hbA⟩;have HM1 : Hid (Iw w wA B m fp g off c) := HM0.out.step hbA;clear hbA) | (go_at_call 115;refine (wantT _).mono ?_;rintro e w' ⟨rfl,hw'⟩;rw [hw'];clear hw'))
 obtain ⟨f,hpl,hBg,hfB,hfl,hgl,hput⟩ := HM1.out.own hil
 have hba := oneA16 wA (.cells #[.int .i64 who] 2)
 have hxv := Bx.new wA 2 #[.int .i64 who]
 obtain ⟨c0,_⟩ := (HM1.out.step hba).id'
 have c1 := (HM1.out.step hba).rws
 rw [ok.hid] at c0
 have hV : Vec (wA.alloc (.cells #[.int .i64 who] 2)) (some ⟨wA.heap.size,0,none⟩) [who].length [who] := ⟨rfl,fun x hx => by rw [List.mem_singleton.1 hx];omega,.inr ⟨wA.heap.size,0,rfl,fun j hj => by
  match j,hj with
  | 0,_ => exact hxv.at 0 rfl⟩⟩
 have hWd := wdg_any B i m.rows.length g off c n (rowN m.rows i) f [who] (some ⟨wA.heap.size,0,none⟩) 1 _ (hpl.below hba) hBg hfB c0 c1 hil hV (fun b o e _ => by cases e;exact ⟨fun k => by have := hfl _ k;omega,by omega⟩) (ok.ok i ok.lt) (fun x hx => by rw [List.mem_singleton.1 hx];exact hwho) (by simp)
 have hWd2 : Calls Tryz.prog 121 #[.pointer (some ⟨B,0,none⟩),.slice (some ⟨wA.heap.size,0,none⟩) 1 1] (wA.alloc (.cells #[.int .i64 who] 2)) fun e w' => e = .returned (.tuple #[]) ∧ Iw w w' B { m with rows := m.rows.set i (wdR i (rowN m.rows i) [who] 1) } fp g off c := hWd.mono (fun e w' h => ⟨h.1,hput _ w' _ hba h.2⟩)
 clear hWd hpl hput hba hxv c0 c1 hV hfl
 go_upto_region 2 with (go_at_call 121;refine hWd2.mono ?_;rintro e wB ⟨rfl,hM2⟩;have HM2 : Hid (Iw w wB B { m with rows := m.rows.set i (wdR i (rowN m.rows i) [who] 1) } fp g off c) := hM2;clear hM2)
 clear hWd2
 have hil2 : i < (m.rows.set i (wdR i (rowN m.rows i) [who] 1)).length := by rw [List.length_set];exact hil
 obtain ⟨c0,_⟩ := HM2.out.id'
 simp only at c0
 rw [ok.hid] at c0
 have c1 := HM2.out.rws
 simp only [List.length_set] at c1
 have hOw := own_any B i m.rows.length g off c wB c0 c1 hil
 have hs2 : rowN (m.rows.set i (wdR i (rowN m.rows i) [who] 1)) i = wdR i (rowN m.rows i) [who] 1 := rowN_self hil
 have hvb := (ok.ok i ok.lt).ver
 have HFin : Hid (∀ wC,Below wB.heap.size wB wC → wC.cell? ⟨g,off + i * 8,none⟩ = some (.int .i64 (rowN m.rows i).ver) ∧ wC.frozen? ⟨g,off + i * 8,none⟩ = false ∧ (∃ m1,Bcm w wC B 0 (mb4 m1) fp) ∧ Bcm w (wC.setCell ⟨g,off + i * 8,none⟩ (.int .i64 ((rowN m.rows i).ver + 1))) B 0 (mb4 { m with rows := m.rows.set i { wdR i (rowN m.rows i) [who] 1 with ver := (rowN m.rows i).ver + 1 } }) fp) := fun wC hb => by
  have M3 := HM2.out.step hb
  obtain ⟨v1,v2,hM5⟩ := M3.put hil2 (j := 0) (x := .int .i64 (rowN m.rows i).ver) (y := .int .i64 ((rowN m.rows i).ver + 1)) (r' := { wdR i (rowN m.rows i) [who] 1 with ver := (rowN m.rows i).ver + 1 }) (by simp only [hs2];rfl) (by simp only [hs2];rfl)
  simp only [Nat.add_zero,List.set_set] at v1 v2 hM5
  exact ⟨v1,v2,⟨_,M3.bcm⟩,hM5.bcm⟩
 clear c0 c1 hs2 hil2
 by_cases hver : (rowN m.rows i).ver = 1000000
 ·have HZ : Hid ((doubtMb m who).2 = false) := HD.out.2.1 HE1.out hver
  go_wp2_with (first | (go_at_call 117;refine hOw.mono ?_;rintro e wC ⟨rfl,hbC⟩;obtain ⟨v1,v2,hG,_⟩ := HFin.out wC hbC;have HG : Hid (∃ m1,Bcm w wC B 0 (mb4 m1) fp) := hG;have hnv := nvF_any g (off + i * 8) (rowN m.rows i).ver wC v1 (by omega);clear hbC hG v1 v2) | (go_at_call 119;refine hnv.mono ?_;rintro e w' ⟨⟨T,v,rfl⟩,hw'⟩;rw [hw'];clear hw'))
  exact ⟨rfl,.inr ⟨HZ.out,⟨_,_,rfl⟩,HG.out⟩⟩
 ·have HZ : Hid (doubtMb m who = ({ m with rows := m.rows.set i { wdR i (rowN m.rows i) [who] 1 with ver := (rowN m.rows i).ver + 1 } },true)) := HD.out.2.2 HE1.out hver
  go_wp2_with (first | (go_at_call 117;refine hOw.mono ?_;rintro e wC ⟨rfl,hbC⟩;obtain ⟨v1,v2,_,hG⟩ := HFin.out wC hbC;have HG : Hid (Bcm w (wC.setCell ⟨g,off + i * 8,none⟩ (.int .i64 ((rowN m.rows i).ver + 1))) B 0 (mb4 { m with rows := m.rows.set i { wdR i (rowN m.rows i) [who] 1 with ver := (rowN m.rows i).ver + 1 } }) fp) := hG;have hnv := nvT_any g (off + i * 8) (rowN m.rows i).ver wC v1 v2 (by omega) (by omega);clear hbC hG v1 v2) | (go_at_call 119;refine hnv.mono ?_;rintro e w' ⟨rfl,hw'⟩;rw [hw'];clear hw'))
  first | go_end0 | go_ret
  rw [HZ.out]
  exact .inl ⟨rfl,rfl,HG.out⟩
end Go.Proofs.YthioodpmgifomaaGreat
namespace Go.Proofs.YthioodpmgifomaaGreat
set_option linter.unusedVariables false
set_option linter.unusedSimpArgs false
open Go.RowKit Go.Sort
theorem doubt_wkd (m : Mb) (who : Int) : dbtM m who = wkdM m (doubtMb m who).1 (doubtMb m who).2 := by
 unfold dbtM wkdM
 split
 ·by_cases hd : m.done = true
  ·rw [if_pos hd,doubtMb,if_pos (.inr (.inr (.inr (.inl hd))))]
  ·rw [if_neg hd]
   cases hf : (doubtMb m who).2 with
   | true => rw [if_pos rfl,← hf]
   | false =>
    rw [if_neg (by decide)]
    unfold doubtMb at hf ⊢
    split at hf
    ·rename_i h;rw [if_pos h]
    ·cases hf
 ·rfl
set_option maxRecDepth 100000 in
set_option maxHeartbeats 800000 in
theorem dbt1_any (B : Nat) (who : Int) (b1 : Nat) (X : World) (R : Ending → World → Prop) (hc : X.cell? ⟨b1,0,none⟩ = some (.int .i64 who)) (hS : Calls Tryz.prog 62 #[.pointer (some ⟨B,0,none⟩),.int .i64 who] X R) (hR : ∀ e w',R e w' → e = .returned (.tuple #[]) ∨ Gu e) :
  Calls Tryz.prog 61 #[.pointer (some ⟨B,0,none⟩),.pointer (some ⟨b1,0,none⟩)] X R := by
 have HR : Hid (∀ e w',R e w' → e = .returned (.tuple #[]) ∨ Gu e) := hR
 clear hR
 go_enter Tryz.func61,Tryz.ntmps61
 go_wp2_with fail
 refine hS.mono ?_
 intro e w1 hRe
 rcases HR.out e w1 hRe with rfl | ⟨T,v,rfl⟩
 ·have HRe : Hid (R (.returned (.tuple #[])) w1) := hRe
  clear hRe hS
  go_wp2
  first | go_end0 | go_ret
  exact HRe.out
 ·exact ⟨rfl,hRe⟩
set_option maxRecDepth 100000 in
set_option maxHeartbeats 1600000 in
theorem implDoubt : ImplDoubt := by
 intro A m who w hv h6
 have hmf : ∀ (fn : Fn) (first cap : Array Value) (w : World),(Instr.makeFunc fn first cap).run Tryz.prog w = .ok (.func fn first cap) w := fun _ _ _ _ => rfl
 have a0 := oneA16 w (.cells #[.int .i64 m.id,.int .i64 m.n,.slice A.ra m.rows.length A.rc,.slice A.sa m.sung.length A.sc,.bool m.done] 27)
 have hb0 : Below w.heap.size w (w.alloc (.cells #[.int .i64 m.id,.int .i64 m.n,.slice A.ra m.rows.length A.rc,.slice A.sa m.sung.length A.sc,.bool m.done] 27)) := a0
 have a1 := oneA16 (w.alloc (.cells #[.int .i64 m.id,.int .i64 m.n,.slice A.ra m.rows.length A.rc,.slice A.sa m.sung.length A.sc,.bool m.done] 27)) (.cells #[.int .i64 who] 2)
 have hb1 : Below w.heap.size w ((w.alloc (.cells #[.int .i64 m.id,.int .i64 m.n,.slice A.ra m.rows.length A.rc,.slice A.sa m.sung.length A.sc,.bool m.done] 27)).alloc (.cells #[.int .i64 who] 2)) := hb0.trans (a1.mono hb0.size)
 have a2 := oneA16 ((w.alloc (.cells #[.int .i64 m.id,.int .i64 m.n,.slice A.ra m.rows.length A.rc,.slice A.sa m.sung.length A.sc,.bool m.done] 27)).alloc (.cells #[.int .i64 who] 2)) (.cells #[.int .i64 0,.int .i64 0,.slice none 0 0,.slice none 0 0,.bool false] 27)
 have hb2 : Below w.heap.size w (((w.alloc (.cells #[.int .i64 m.id,.int .i64 m.n,.slice A.ra m.rows.length A.rc,.slice A.sa m.sung.length A.sc,.bool m.done] 27)).alloc (.cells #[.int .i64 who] 2)).alloc (.cells #[.int .i64 0,.int .i64 0,.slice none 0 0,.slice none 0 0,.bool false] 27)) := hb1.trans (a2.mono hb1.size)
 have hx0 : Bx (((w.alloc (.cells #[.int .i64 m.id,.int .i64 m.n,.slice A.ra m.rows.length A.rc,.slice A.sa m.sung.length A.sc,.bool m.done] 27)).alloc (.cells #[.int .i64 who] 2)).alloc (.cells #[.int .i64 0,.int .i64 0,.slice none 0 0,.slice none 0 0,.bool false] 27)) (w.heap.size) 27 #[.int .i64 m.id,.int .i64 m.n,.slice A.ra m.rows.length A.rc,.slice A.sa m.sung.length A.sc,.bool m.done] := by
  have := ((Bx.new w 27 #[.int .i64 m.id,.int .i64 m.n,.slice A.ra m.rows.length A.rc,.slice A.sa m.sung.length A.sc,.bool m.done]).alloc (.cells #[.int .i64 who] 2)).alloc (.cells #[.int .i64 0,.int .i64 0,.slice none 0 0,.slice none 0 0,.bool false] 27)
  try simp only [World.size_alloc] at this
  exact this
 have hx1 : Bx (((w.alloc (.cells #[.int .i64 m.id,.int .i64 m.n,.slice A.ra m.rows.length A.rc,.slice A.sa m.sung.length A.sc,.bool m.done] 27)).alloc (.cells #[.int .i64 who] 2)).alloc (.cells #[.int .i64 0,.int .i64 0,.slice none 0 0,.slice none 0 0,.bool false] 27)) (w.heap.size + 1) 2 #[.int .i64 who] := by
  have := (Bx.new (w.alloc (.cells #[.int .i64 m.id,.int .i64 m.n,.slice A.ra m.rows.length A.rc,.slice A.sa m.sung.length A.sc,.bool m.done] 27)) 2 #[.int .i64 who]).alloc (.cells #[.int .i64 0,.int .i64 0,.slice none 0 0,.slice none 0 0,.bool false] 27)
  try simp only [World.size_alloc] at this
  exact this
 have hx2 : Bx (((w.alloc (.cells #[.int .i64 m.id,.int .i64 m.n,.slice A.ra m.rows.length A.rc,.slice A.sa m.sung.length A.sc,.bool m.done] 27)).alloc (.cells #[.int .i64 who] 2)).alloc (.cells #[.int .i64 0,.int .i64 0,.slice none 0 0,.slice none 0 0,.bool false] 27)) (w.heap.size + 1 + 1) 27 #[.int .i64 0,.int .i64 0,.slice none 0 0,.slice none 0 0,.bool false] := by
  have := Bx.new ((w.alloc (.cells #[.int .i64 m.id,.int .i64 m.n,.slice A.ra m.rows.length A.rc,.slice A.sa m.sung.length A.sc,.bool m.done] 27)).alloc (.cells #[.int .i64 who] 2)) 27 #[.int .i64 0,.int .i64 0,.slice none 0 0,.slice none 0 0,.bool false]
  try simp only [World.size_alloc] at this
  exact this
 have hP := hv.below hb2
 have hWk := wkd_any 61 #[.pointer (some ⟨w.heap.size + 1,0,none⟩)] A m (doubtMb m who).1 (doubtMb m who).2 (((w.alloc (.cells #[.int .i64 m.id,.int .i64 m.n,.slice A.ra m.rows.length A.rc,.slice A.sa m.sung.length A.sc,.bool m.done] 27)).alloc (.cells #[.int .i64 who] 2)).alloc (.cells #[.int .i64 0,.int .i64 0,.slice none 0 0,.slice none 0 0,.bool false] 27)) hP (fun _ _ => enters_of Tryz.func61 (by kernel_rfl) rfl _ _)
  (fun hok hf => by
   obtain ⟨i,n,ok⟩ := okMb_iff.1 hok
   have := (doubt_loc ok who).1
   rw [this.hn,this.len])
  (fun X B fp i n hX hpl ok hd => dbt1_any B who (w.heap.size + 1) X _ ((hx1.below hX).at 0 rfl) (dbt_any B m i n who fp X hpl ok hd) (fun e w' h => by
   rcases h with ⟨_,h,_⟩ | ⟨_,h,_⟩
   ·exact .inl h
   ·exact .inr h))
 have HZ0 := doubt_wkd m who
 unfold mbV mbC at hWk
 have hWl := hx2.lt
 obtain ⟨c0,c1,c2,c3,c4⟩ := Bx.r5 hx0
 have HR0 : Hid (Bx (((w.alloc (.cells #[.int .i64 m.id,.int .i64 m.n,.slice A.ra m.rows.length A.rc,.slice A.sa m.sung.length A.sc,.bool m.done] 27)).alloc (.cells #[.int .i64 who] 2)).alloc (.cells #[.int .i64 0,.int .i64 0,.slice none 0 0,.slice none 0 0,.bool false] 27)) (w.heap.size + 1 + 1) 27 #[.int .i64 0,.int .i64 0,.slice none 0 0,.slice none 0 0,.bool false]) := hx2
 have HB0 : Hid (Below w.heap.size w (((w.alloc (.cells #[.int .i64 m.id,.int .i64 m.n,.slice A.ra m.rows.length A.rc,.slice A.sa m.sung.length A.sc,.bool m.done] 27)).alloc (.cells #[.int .i64 who] 2)).alloc (.cells #[.int .i64 0,.int .i64 0,.slice none 0 0,.slice none 0 0,.bool false] 27))) := hb2
 have HZ : Hid (dbtM m who = wkdM m (doubtMb m who).1 (doubtMb m who).2) := HZ0
 clear a0 a1 a2 hb0 hb1 hb2 hx0 hx1 hx2 hP hv HZ0
 unfold mbV mbC
 generalize wkdM m (doubtMb m who).1 (doubtMb m who).2 = pm at *
 go_enter Tryz.func13,Tryz.ntmps13
 go_wp2_with fail
 generalize (((w.alloc (.cells #[.int .i64 m.id,.int .i64 m.n,.slice A.ra m.rows.length A.rc,.slice A.sa m.sung.length A.sc,.bool m.done] 27)).alloc (.cells #[.int .i64 who] 2)).alloc (.cells #[.int .i64 0,.int .i64 0,.slice none 0 0,.slice none 0 0,.bool false] 27)) = W0 at *
 refine hWk.mono ?_
 rintro e w1 ⟨A2,rfl,fp,hl,hf,hb⟩
 have hR := HR0.out.below hb
 have hsz := hb.size
 have HN : Hid (∀ {z0 z1 z2 z3 z4 : Value},NewL w (((((w1.setCell ⟨w.heap.size + 1 + 1,0,none⟩ z0).setCell ⟨w.heap.size + 1 + 1,1,none⟩ z1).setCell ⟨w.heap.size + 1 + 1,2,none⟩ z2).setCell ⟨w.heap.size + 1 + 1,3,none⟩ z3).setCell ⟨w.heap.size + 1 + 1,4,none⟩ z4) (mbCels pm.1) (mbVals A2 pm.1)) := fun {z0 z1 z2 z3 z4} => by
  have hB1 : Below w.heap.size w w1 := HB0.out.trans (hb.mono HB0.out.size)
  exact ⟨fp,owL_wrt hl (wrt5 w1 (w.heap.size + 1 + 1)) (fun x hx e => by have := hf x hx;omega),fun x hx => by have := hf x hx;omega,(wrt5 w1 (w.heap.size + 1 + 1)).below hB1 hB1.size (fun x e => by omega)⟩
 obtain ⟨z0,z1,z2,z3,z4⟩ := Bx.r5 hR
 obtain ⟨r0,r1,r2,r3,r4⟩ := hR.f5
 clear hWk hl hf hb hR c0 c1 c2 c3 c4
 unfold mbV mbC
 go_wp2
 refine bodyPost_ret (v := .tuple #[mbV A2 pm.1,.bool pm.2]) (by simp [results,Tryz.results13,go_sem,mbV,mbC, *]) rfl ?_
 rw [HZ.out]
 exact ⟨_,rfl,HN.out⟩
end Go.Proofs.YthioodpmgifomaaGreat