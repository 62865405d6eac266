/-
  Texts in one: Nmk Nml Nmw Lsq Irs Nmq Noa Nob.
-/
import Derived.Test.YthioodpmgifomaaGreatJao
import Derived.Test.YthioodpmgifomaaGreatJaf
import Derived.Test.YthioodpmgifomaaGreatJam
import Derived.Test.YthioodpmgifomaaGreatJah
import Derived.Test.YthioodpmgifomaaGreatJak
import Derived.Test.YthioodpmgifomaaGreatJae
import Derived.Test.YthioodpmgifomaaGreatJag
namespace Go.Proofs.YthioodpmgifomaaGreat
set_option linter.unusedVariables false
set_option linter.unusedSimpArgs false
open Go.RowKit Go.Sort
def wkdM (m m' : Mb) (flag : Bool) : Mb × Bool := if okMb m = true then (if m.done = true then (m,false) else if flag = true then (m',true) else (m,false)) else (zeroMb,false)
def WkR (X : World) (B : Nat) (fp : Fp) (m' : Mb) (b : Bool) (w' : World) : Prop := if b = true then Bcm X w' B 0 (mb4 m') fp else ∃ m1,Bcm X w' B 0 (mb4 m1) fp
theorem WkR.wrt {X w' : World} {B : Nat} {fp : Fp} {m' : Mb} {b : Bool} (h : WkR X B fp m' b w') : Wrt (fun x => fp x ∨ x = B) X w' := by
 unfold WkR at h
 split at h
 ·exact h.wrt
 ·obtain ⟨m1,h⟩ := h
  exact h.wrt
set_option maxRecDepth 100000 in
set_option maxHeartbeats 1600000 in
theorem wkd_any (F : Nat) (C : Array Value) (A : Ma) (m m' : Mb) (flag : Bool) (w : World) (hv : MbP w A m) (hE : ∀ (args : Array Value) (w : World),(callFunc F args).run Tryz.prog w = .ok (.enter F args) w)
  (hm' : okMb m = true → flag = true → m'.n = (m'.rows.length : Int))
  (hF : ∀ X B fp i n,Below w.heap.size w X → Plc X B 0 (mb4 m) fp → OkM m i n → m.done = false → Calls Tryz.prog F (#[.pointer (some ⟨B,0,none⟩)] ++ C) X fun e w' => (flag = true ∧ e = .returned (.tuple #[]) ∧ Bcm X w' B 0 (mb4 m') fp) ∨ (flag = false ∧ Gu e ∧ ∃ m1,Bcm X w' B 0 (mb4 m1) fp)) :
  Calls Tryz.prog 57 #[mbV A m,.func (.func F) #[] C] w fun e w' => AnsMf w w' e (wkdM m m' flag).1 (wkdM m m' flag).2 := by
 have hmf : ∀ (fn : Fn) (first cap : Array Value) (w : World),(Instr.makeFunc fn first cap).run Tryz.prog w = .ok (.func fn first cap) w := fun _ _ _ _ => rfl
 have hb1 := oneA16 w (.cells #[.int .i64 m.id,.int .i64 m.n,.slice A.ra m.rows.length A.rc,.slice A.sa m.sung.length A.sc,.bool m.done] 27)
 have hb2 := oneA16 (w.alloc (.cells #[.int .i64 m.id,.int .i64 m.n,.slice A.ra m.rows.length A.rc,.slice A.sa m.sung.length A.sc,.bool m.done] 27)) (.cells #[.func (.func F) #[] C] 90)
 have hb3 := oneA16 ((w.alloc (.cells #[.int .i64 m.id,.int .i64 m.n,.slice A.ra m.rows.length A.rc,.slice A.sa m.sung.length A.sc,.bool m.done] 27)).alloc (.cells #[.func (.func F) #[] C] 90)) (.cells #[.int .i64 0,.int .i64 0,.slice none 0 0,.slice none 0 0,.bool false] 27)
 have hx1 : Bx (((w.alloc (.cells #[.int .i64 m.id,.int .i64 m.n,.slice A.ra m.rows.length A.rc,.slice A.sa m.sung.length A.sc,.bool m.done] 27)).alloc (.cells #[.func (.func F) #[] C] 90)).alloc (.cells #[.int .i64 0,.int .i64 0,.slice none 0 0,.slice none 0 0,.bool false] 27)) w.heap.size 27 #[.int .i64 m.id,.int .i64 m.n,.slice A.ra m.rows.length A.rc,.slice A.sa m.sung.length A.sc,.bool m.done] := ((Bx.new w _ _).alloc _).alloc _
 have hx2 : Bx (((w.alloc (.cells #[.int .i64 m.id,.int .i64 m.n,.slice A.ra m.rows.length A.rc,.slice A.sa m.sung.length A.sc,.bool m.done] 27)).alloc (.cells #[.func (.func F) #[] C] 90)).alloc (.cells #[.int .i64 0,.int .i64 0,.slice none 0 0,.slice none 0 0,.bool false] 27)) (w.heap.size + 1) 90 #[.func (.func F) #[] C] := by
  have := (Bx.new (w.alloc (.cells #[.int .i64 m.id,.int .i64 m.n,.slice A.ra m.rows.length A.rc,.slice A.sa m.sung.length A.sc,.bool m.done] 27)) 90 #[.func (.func F) #[] C]).alloc (.cells #[.int .i64 0,.int .i64 0,.slice none 0 0,.slice none 0 0,.bool false] 27)
  simp only [World.size_alloc] at this
  exact this
 have hx3 : Bx (((w.alloc (.cells #[.int .i64 m.id,.int .i64 m.n,.slice A.ra m.rows.length A.rc,.slice A.sa m.sung.length A.sc,.bool m.done] 27)).alloc (.cells #[.func (.func F) #[] C] 90)).alloc (.cells #[.int .i64 0,.int .i64 0,.slice none 0 0,.slice none 0 0,.bool false] 27)) (w.heap.size + 1 + 1) 27 #[.int .i64 0,.int .i64 0,.slice none 0 0,.slice none 0 0,.bool false] := by
  have := Bx.new ((w.alloc (.cells #[.int .i64 m.id,.int .i64 m.n,.slice A.ra m.rows.length A.rc,.slice A.sa m.sung.length A.sc,.bool m.done] 27)).alloc (.cells #[.func (.func F) #[] C] 90)) 27 #[.int .i64 0,.int .i64 0,.slice none 0 0,.slice none 0 0,.bool false]
  simp only [World.size_alloc] at this
  exact this
 have hb12 := hb1.trans (hb2.mono hb1.size)
 have hb13 : Below w.heap.size w (((w.alloc (.cells #[.int .i64 m.id,.int .i64 m.n,.slice A.ra m.rows.length A.rc,.slice A.sa m.sung.length A.sc,.bool m.done] 27)).alloc (.cells #[.func (.func F) #[] C] 90)).alloc (.cells #[.int .i64 0,.int .i64 0,.slice none 0 0,.slice none 0 0,.bool false] 27)) := hb12.trans (hb3.mono hb12.size)
 have hM0 := memI_any A m (((w.alloc (.cells #[.int .i64 m.id,.int .i64 m.n,.slice A.ra m.rows.length A.rc,.slice A.sa m.sung.length A.sc,.bool m.done] 27)).alloc (.cells #[.func (.func F) #[] C] 90)).alloc (.cells #[.int .i64 0,.int .i64 0,.slice none 0 0,.slice none 0 0,.bool false] 27)) (hv.below hb13)
 unfold mbV mbC at *
 have HX1 : Hid (Bx (((w.alloc (.cells #[.int .i64 m.id,.int .i64 m.n,.slice A.ra m.rows.length A.rc,.slice A.sa m.sung.length A.sc,.bool m.done] 27)).alloc (.cells #[.func (.func F) #[] C] 90)).alloc (.cells #[.int .i64 0,.int .i64 0,.slice none 0 0,.slice none 0 0,.bool false] 27)) w.heap.size 27 #[.int .i64 m.id,.int .i64 m.n,.slice A.ra m.rows.length A.rc,.slice A.sa m.sung.length A.sc,.bool m.done]) := hx1
 have HX2 : Hid (Bx (((w.alloc (.cells #[.int .i64 m.id,.int .i64 m.n,.slice A.ra m.rows.length A.rc,.slice A.sa m.sung.length A.sc,.bool m.done] 27)).alloc (.cells #[.func (.func F) #[] C] 90)).alloc (.cells #[.int .i64 0,.int .i64 0,.slice none 0 0,.slice none 0 0,.bool false] 27)) (w.heap.size + 1) 90 #[.func (.func F) #[] C]) := hx2
 have HX3 : Hid (Bx (((w.alloc (.cells #[.int .i64 m.id,.int .i64 m.n,.slice A.ra m.rows.length A.rc,.slice A.sa m.sung.length A.sc,.bool m.done] 27)).alloc (.cells #[.func (.func F) #[] C] 90)).alloc (.cells #[.int .i64 0,.int .i64 0,.slice none 0 0,.slice none 0 0,.bool false] 27)) (w.heap.size + 1 + 1) 27 #[.int .i64 0,.int .i64 0,.slice none 0 0,.slice none 0 0,.bool false]) := hx3
 have HB0 : Hid (Below w.heap.size w (((w.alloc (.cells #[.int .i64 m.id,.int .i64 m.n,.slice A.ra m.rows.length A.rc,.slice A.sa m.sung.length A.sc,.bool m.done] 27)).alloc (.cells #[.func (.func F) #[] C] 90)).alloc (.cells #[.int .i64 0,.int .i64 0,.slice none 0 0,.slice none 0 0,.bool false] 27))) := hb13
 have HV : Hid (MbP w A m) := hv
 obtain ⟨c0,c1,c2,c3,c4⟩ := Bx.r5 hx1
 clear hb1 hb2 hb3 hx1 hx2 hx3 hb12 hb13 hv
 cases hok : okMb m with
 | false =>
  have HZ : Hid (wkdM m m' flag = (zeroMb,false)) := by rw [Hid,wkdM,if_neg (by rw [hok];decide)]
  rw [hok] at hM0
  clear hok hm' hF
  go_enter Tryz.func57,Tryz.ntmps57
  go_wp2_with fail
  generalize (((w.alloc (.cells #[.int .i64 m.id,.int .i64 m.n,.slice A.ra m.rows.length A.rc,.slice A.sa m.sung.length A.sc,.bool m.done] 27)).alloc (.cells #[.func (.func F) #[] C] 90)).alloc (.cells #[.int .i64 0,.int .i64 0,.slice none 0 0,.slice none 0 0,.bool false] 27)) = W0 at *
  refine hM0.mono ?_
  rintro e w1 ⟨rfl,hb1⟩
  have hR := HX3.out.below hb1
  have HB1 : Hid (Below w.heap.size w w1) := HB0.out.trans (hb1.mono HB0.out.size)
  obtain ⟨z0,z1,z2,z3,z4⟩ := Bx.r5 hR
  obtain ⟨f0,f1,f2,f3,f4⟩ := hR.f5
  clear hR hb1 c0 c1 c2 c3 c4 hM0
  go_wp2
  refine bodyPost_ret (v := .tuple #[mbV ⟨none,0,none,0⟩ zeroMb,.bool false]) (by simp [results,Tryz.results57,go_sem,mbV,mbC,zeroMb, *]) rfl ?_
  rw [HZ.out]
  exact ⟨_,rfl,ansM_zero ((wrt5 w1 (w.heap.size + 1 + 1)).below HB1.out HB1.out.size (fun b h => by omega))⟩
 | true =>
 obtain ⟨i,n,ok⟩ := okMb_iff.1 hok
 have HZ : Hid (wkdM m m' flag = if m.done = true then (m,false) else if flag = true then (m',true) else (m,false)) := by rw [Hid,wkdM,if_pos hok]
 have HM' : Hid (flag = true → m'.n = (m'.rows.length : Int)) := hm' hok
 have HMn : Hid (m.n = (m.rows.length : Int)) := by rw [Hid,ok.hn,ok.len]
 rw [hok] at hM0
 have HF : Hid (∀ X B fp i n,Below w.heap.size w X → Plc X B 0 (mb4 m) fp → OkM m i n → m.done = false → Calls Tryz.prog F (#[.pointer (some ⟨B,0,none⟩)] ++ C) X fun e w' => (flag = true ∧ e = .returned (.tuple #[]) ∧ Bcm X w' B 0 (mb4 m') fp) ∨ (flag = false ∧ Gu e ∧ ∃ m1,Bcm X w' B 0 (mb4 m1) fp)) := hF
 clear hok hm' hF
 go_enter Tryz.func57,Tryz.ntmps57
 go_wp2_with fail
 generalize (((w.alloc (.cells #[.int .i64 m.id,.int .i64 m.n,.slice A.ra m.rows.length A.rc,.slice A.sa m.sung.length A.sc,.bool m.done] 27)).alloc (.cells #[.func (.func F) #[] C] 90)).alloc (.cells #[.int .i64 0,.int .i64 0,.slice none 0 0,.slice none 0 0,.bool false] 27)) = W0 at *
 refine hM0.mono ?_
 rintro e w1 ⟨rfl,hb1⟩
 have HB1 : Hid (Below w.heap.size w w1) := HB0.out.trans (hb1.mono HB0.out.size)
 have HY1 : Hid (Bx w1 w.heap.size 27 #[.int .i64 m.id,.int .i64 m.n,.slice A.ra m.rows.length A.rc,.slice A.sa m.sung.length A.sc,.bool m.done]) := HX1.out.below hb1
 have HY2 : Hid (Bx w1 (w.heap.size + 1) 90 #[.func (.func F) #[] C]) := HX2.out.below hb1
 have HY3 : Hid (Bx w1 (w.heap.size + 1 + 1) 27 #[.int .i64 0,.int .i64 0,.slice none 0 0,.slice none 0 0,.bool false]) := HX3.out.below hb1
 clear hb1 c0 c1 c2 c3 c4 hM0 HX1 HX2 HX3 HB0
 have hMo := mof_any A m i n w1 (HV.out.below HB1.out) ok
 unfold mbV mbC at hMo
 obtain ⟨c0,c1,c2,c3,c4⟩ := Bx.r5 HY1.out
 go_wp2_with fail
 refine hMo.mono ?_
 rintro e w2 ⟨A2,rfl,fp,hl2,hf2,hb2⟩
 unfold imV imC
 have HB2 : Hid (Below w.heap.size w w2) := HB1.out.trans (hb2.mono HB1.out.size)
 have HZ1 : Hid (Bx w2 w.heap.size 27 #[.int .i64 m.id,.int .i64 m.n,.slice A.ra m.rows.length A.rc,.slice A.sa m.sung.length A.sc,.bool m.done]) := HY1.out.below hb2
 have HZ2 : Hid (Bx w2 (w.heap.size + 1) 90 #[.func (.func F) #[] C]) := HY2.out.below hb2
 have HZ3 : Hid (Bx w2 (w.heap.size + 1 + 1) 27 #[.int .i64 0,.int .i64 0,.slice none 0 0,.slice none 0 0,.bool false]) := HY3.out.below hb2
 have hlt2 := owL_lt hl2
 have hw1 := HY3.out.lt
 have hs2 := hb2.size
 clear c0 c1 c2 c3 c4 hMo
 -- the copy lies in a box of its own
 have hba := oneA16 w2 (.cells #[.int .i64 m.id,.slice A2.ra m.rows.length A2.rc,.slice A2.sa m.sung.length A2.sc,.bool m.done] 139)
 have hxb := Bx.new w2 139 #[.int .i64 m.id,.slice A2.ra m.rows.length A2.rc,.slice A2.sa m.sung.length A2.sc,.bool m.done]
 have hP3 : Plc (w2.alloc (.cells #[.int .i64 m.id,.slice A2.ra m.rows.length A2.rc,.slice A2.sa m.sung.length A2.sc,.bool m.done] 139)) w2.heap.size 0 (mb4 m) fp := ibox_plc hxb (owL_below hl2 hba) (fun k => by have := hlt2 _ k;omega)
 have HB3 : Hid (Below w.heap.size w (w2.alloc (.cells #[.int .i64 m.id,.slice A2.ra m.rows.length A2.rc,.slice A2.sa m.sung.length A2.sc,.bool m.done] 139))) := HB2.out.trans (hba.mono HB2.out.size)
 have HU1 : Hid (Bx (w2.alloc (.cells #[.int .i64 m.id,.slice A2.ra m.rows.length A2.rc,.slice A2.sa m.sung.length A2.sc,.bool m.done] 139)) w.heap.size 27 #[.int .i64 m.id,.int .i64 m.n,.slice A.ra m.rows.length A.rc,.slice A.sa m.sung.length A.sc,.bool m.done]) := HZ1.out.below hba
 have HU2 : Hid (Bx (w2.alloc (.cells #[.int .i64 m.id,.slice A2.ra m.rows.length A2.rc,.slice A2.sa m.sung.length A2.sc,.bool m.done] 139)) (w.heap.size + 1) 90 #[.func (.func F) #[] C]) := HZ2.out.below hba
 have HU3 : Hid (Bx (w2.alloc (.cells #[.int .i64 m.id,.slice A2.ra m.rows.length A2.rc,.slice A2.sa m.sung.length A2.sc,.bool m.done] 139)) (w.heap.size + 1 + 1) 27 #[.int .i64 0,.int .i64 0,.slice none 0 0,.slice none 0 0,.bool false]) := HZ3.out.below hba
 have hB3 : w2.heap.size < (w2.alloc (.cells #[.int .i64 m.id,.slice A2.ra m.rows.length A2.rc,.slice A2.sa m.sung.length A2.sc,.bool m.done] 139)).heap.size := hxb.lt
 have hfl : ∀ b,fp b → w.heap.size + 1 + 1 < b ∧ b < w2.heap.size := fun b hb => ⟨by have := hf2 b hb;omega,hlt2 b hb⟩
 clear hxb hl2 hf2 hlt2 hb2 hba HY1 HY2 HY3 HZ1 HZ2 HZ3
 go_upto_region 4 with fail
 generalize w2.alloc (.cells #[.int .i64 m.id,.slice A2.ra m.rows.length A2.rc,.slice A2.sa m.sung.length A2.sc,.bool m.done] 139) = V3 at *
 generalize w2.heap.size = B at *
 have hbt := oneA16 V3 (.cells #[.bool false] 4)
 have hP4 := hP3.below hbt
 have hB4 : Below w.heap.size w (V3.alloc (.cells #[.bool false] 4)) := HB3.out.trans (hbt.mono HB3.out.size)
 have hw4 := (HU2.out.below hbt).at 0 (v := .func (.func F) #[] C) rfl
 have hsz4 : V3.heap.size < (V3.alloc (.cells #[.bool false] 4)).heap.size := (Bx.new V3 4 #[.bool false]).lt
 have hT := told_any 114 #[] #[.pointer (some ⟨B,0,none⟩),.pointer (some ⟨w.heap.size + 1,0,none⟩)] V3 (fun b X => b = (!m.done && flag) ∧ WkR (V3.alloc (.cells #[.bool false] 4)) B fp m' b X) (fun _ _ => enters_of Tryz.func114 (by kernel_rfl) rfl _ _)
  ((wk1_any F C m B (w.heap.size + 1) fp _ (fun e w' => (m.done = false ∧ flag = true ∧ e = .returned (.tuple #[]) ∧ Bcm (V3.alloc (.cells #[.bool false] 4)) w' B 0 (mb4 m') fp) ∨ ((m.done = true ∨ flag = false) ∧ Gu e ∧ ∃ m1,Bcm (V3.alloc (.cells #[.bool false] 4)) w' B 0 (mb4 m1) fp)) hE hP4 hw4 (fun hd => (HF.out _ B fp i n hB4 hP4 ok hd).mono (fun e w' h => by
   rcases h with ⟨h1,h2,h3⟩ | ⟨h1,h2,h3⟩
   ·exact .inl ⟨hd,h1,h2,h3⟩
   ·exact .inr ⟨.inr h1,h2,h3⟩)) (fun hd e hg => .inr ⟨.inl hd,hg,m,Bcm.refl hP4⟩) (fun e w' h => by
   rcases h with ⟨_,_,h,_⟩ | ⟨_,h,_⟩
   ·exact .inl h
   ·exact .inr h)).mono (fun e w' h => by
   rcases h with ⟨h1,h2,h3,h4⟩ | ⟨h1,h2,h3⟩
   ·exact .inl ⟨h3,by rw [h1,h2];rfl,by unfold WkR;rw [if_pos rfl];exact h4⟩
   ·refine .inr ⟨h2, ?_,by unfold WkR;rw [if_neg (by decide)];exact h3⟩
    rcases h1 with h1 | h1 <;> rw [h1] <;> simp)) (fun b X h => (Bx.new V3 4 #[.bool false]).wrt h.2.wrt (fun k => by rcases k with k | k;have := hfl _ k;omega;omega))
 clear hP3 hbt hP4 hB4 hw4
 have HU1' := HU1
 go_wp2_with fail
 refine hT.mono ?_
 rintro e Y ⟨b,X,rfl,⟨hbv,hWk⟩,hWt⟩
 have hWX := hWk.wrt
 have hX0 : Below w.heap.size w (V3.alloc (.cells #[.bool false] 4)) := HB3.out.trans ((oneA16 V3 _).mono HB3.out.size)
 have hBX : Below w.heap.size w X := hWX.below hX0 hX0.size (fun x hx => by rcases hx with hx | hx;have := hfl x hx;omega;omega)
 have hBY : Below w.heap.size w Y := hWt.below hBX hBX.size (fun x hx => by have := HB3.out.size;omega)
 have keep : ∀ {k : Nat} {T : TypeId} {cs : Array Value},k < w.heap.size + 1 + 1 + 1 → Bx V3 k T cs → Bx Y k T cs := fun {k T cs} hk hx => ((hx.alloc (.cells #[.bool false] 4)).wrt hWX (fun kk => by rcases kk with kk | kk;have := hfl _ kk;omega;omega)).wrt hWt (fun kk => by omega)
 have HT1 : Hid (Bx Y w.heap.size 27 #[.int .i64 m.id,.int .i64 m.n,.slice A.ra m.rows.length A.rc,.slice A.sa m.sung.length A.sc,.bool m.done]) := keep (by omega) HU1.out
 have HT3 : Hid (Bx Y (w.heap.size + 1 + 1) 27 #[.int .i64 0,.int .i64 0,.slice none 0 0,.slice none 0 0,.bool false]) := keep (by omega) HU3.out
 have hsz : (V3.alloc (.cells #[.bool false] 4)).heap.size = V3.heap.size + 1 := World.size_alloc _ _
 have hpl : ∃ (mm : Mb) (fp1 : Fp),Plc Y B 0 (mb4 mm) fp1 ∧ (∀ x,fp1 x → w.heap.size + 1 + 1 < x) ∧ (b = true → mm = m') := by
  have key : ∀ mm,Bcm (V3.alloc (.cells #[.bool false] 4)) X B 0 (mb4 mm) fp → ∃ fp1,Plc Y B 0 (mb4 mm) fp1 ∧ ∀ x,fp1 x → w.heap.size + 1 + 1 < x := fun mm hb => by
   obtain ⟨fp1,h1,h2⟩ := hb.plc
   have h3 : ∀ x,fp1 x → w.heap.size + 1 + 1 < x ∧ x ≠ V3.heap.size := fun x hx => by
    rcases h2 x hx with k | k
    ·have := hfl x k;omega
    ·have := HB3.out.size;omega
   exact ⟨fp1,h1.wrt hWt (fun x hx e => by rcases hx with hx | hx;exact (h3 x hx).2 e;omega),fun x hx => (h3 x hx).1⟩
  unfold WkR at hWk
  cases b with
  | true =>
   rw [if_pos rfl] at hWk
   obtain ⟨fp1,h1,h2⟩ := key m' hWk
   exact ⟨m',fp1,h1,h2,fun _ => rfl⟩
  | false =>
   rw [if_neg (by decide)] at hWk
   obtain ⟨m1,hWk⟩ := hWk
   obtain ⟨fp1,h1,h2⟩ := key m1 hWk
   exact ⟨m1,fp1,h1,h2,fun h => by cases h⟩
 obtain ⟨mm,fp1,hPY,hf1,hmm⟩ := hpl
 have HBY : Hid (Below w.heap.size w Y) := hBY
 have hBl := hPY.lt
 obtain ⟨A3,⟨y0,y1,y2,y3⟩,⟨q0,q1,q2,q3⟩,hl3⟩ := hPY.c4
 clear hT hWk hWX hX0 hBX hBY keep hWt HU1 HU1' HU2 HU3 hPY hsz
 cases b with
 | true =>
  have hmm' := hmm rfl
  subst hmm'
  have hdf : m.done = false ∧ flag = true := by
   cases hd : m.done <;> cases hf : flag <;> rw [hd,hf] at hbv <;> simp at hbv ⊢
  have HZf : Hid (wkdM m mm flag = (mm,true)) := by rw [Hid,HZ.out,if_neg (by rw [hdf.1];decide),if_pos hdf.2]
  have hTo := tol_any A3 mm Y (HM'.out hdf.2)
  unfold imV imC at hTo
  clear hmm hbv hdf q0 q1 q2 q3
  go_wp2_with fail
  refine hTo.mono ?_
  rintro e Y2 ⟨rfl,hb2⟩
  have hR := HT3.out.below hb2
  have HN : Hid (∀ {z0 z1 z2 z3 z4 : Value},NewL w (((((Y2.setCell ⟨w.heap.size + 1 + 1,0,none⟩ z0).setCell ⟨w.heap.size + 1 + 1,1,none⟩ z1).setCell ⟨w.heap.size + 1 + 1,2,none⟩ z2).setCell ⟨w.heap.size + 1 + 1,3,none⟩ z3).setCell ⟨w.heap.size + 1 + 1,4,none⟩ z4) (mbCels mm) (mbVals A3 mm)) := fun {z0 z1 z2 z3 z4} => by
   have hB2 : Below w.heap.size w Y2 := HBY.out.trans (hb2.mono HBY.out.size)
   exact ⟨fp1,owL_wrt (owL_below hl3 hb2) (wrt5 Y2 (w.heap.size + 1 + 1)) (fun x hx e => by have := hf1 x hx;omega),fun x hx => by have := hf1 x hx;omega,(wrt5 Y2 (w.heap.size + 1 + 1)).below hB2 hB2.size (fun x e => by omega)⟩
  unfold mbV mbC
  obtain ⟨z0,z1,z2,z3,z4⟩ := Bx.r5 hR
  obtain ⟨r0,r1,r2,r3,r4⟩ := hR.f5
  clear hTo hR hb2 hl3 y0 y1 y2 y3
  go_wp2
  refine bodyPost_ret (v := .tuple #[mbV A3 mm,.bool true]) (by simp [results,Tryz.results57,go_sem,mbV,mbC, *]) rfl ?_
  rw [HZf.out]
  exact ⟨_,rfl,HN.out⟩
 | false =>
  have HZf : Hid (wkdM m m' flag = (m,false)) := by
   rw [Hid,HZ.out]
   cases hd : m.done <;> cases hf : flag <;> rw [hd,hf] at hbv <;> simp at hbv ⊢
  have hMo := mof_any A m i n Y (HV.out.below HBY.out) ok
  unfold mbV mbC at hMo
  obtain ⟨c0,c1,c2,c3,c4⟩ := Bx.r5 HT1.out
  have HQ : Hid (∀ Z,Below Y.heap.size Y Z → (∃ v0 v1 v2 v3,Z.cell? ⟨B,0,none⟩ = some v0 ∧ Z.cell? ⟨B,1,none⟩ = some v1 ∧ Z.cell? ⟨B,2,none⟩ = some v2 ∧ Z.cell? ⟨B,3,none⟩ = some v3) ∧ Z.frozen? ⟨B,0,none⟩ = false ∧ Z.frozen? ⟨B,1,none⟩ = false ∧ Z.frozen? ⟨B,2,none⟩ = false ∧ Z.frozen? ⟨B,3,none⟩ = false) := fun Z hZ => by
   have e := hZ.block B hBl
   have t : ∀ {j v},Y.cell? ⟨B,j,none⟩ = some v → Z.cell? ⟨B,j,none⟩ = some v := fun h => (World.cell?_of_block e).trans h
   have u : ∀ {j},Y.frozen? ⟨B,j,none⟩ = false → Z.frozen? ⟨B,j,none⟩ = false := fun h => by simp only [World.frozen?,e] at h ⊢;exact h
   exact ⟨⟨_,_,_,_,t y0,t y1,t y2,t y3⟩,u q0,u q1,u q2,u q3⟩
  clear hmm hbv q0 q1 q2 q3 y0 y1 y2 y3 hl3
  go_wp2_with fail
  refine hMo.mono ?_
  rintro e Y1 ⟨A4,rfl,fp4,hl4,hf4,hb4⟩
  unfold imV imC
  obtain ⟨⟨v0,v1,v2,v3,g0,g1,g2,g3⟩,p0,p1,p2,p3⟩ := HQ.out Y1 hb4
  have hsY := hb4.size
  have hW4 : Wrt (fun x => x = B) Y1 ((((Y1.setCell ⟨B,0,none⟩ (.int .i64 m.id)).setCell ⟨B,1,none⟩ (.slice A4.ra m.rows.length A4.rc)).setCell ⟨B,2,none⟩ (.slice A4.sa m.sung.length A4.sc)).setCell ⟨B,3,none⟩ (.bool m.done)) := wrt4 Y1 B
  have hl5 : owL ((((Y1.setCell ⟨B,0,none⟩ (.int .i64 m.id)).setCell ⟨B,1,none⟩ (.slice A4.ra m.rows.length A4.rc)).setCell ⟨B,2,none⟩ (.slice A4.sa m.sung.length A4.sc)).setCell ⟨B,3,none⟩ (.bool m.done)) (mbCels m) (mbVals A4 m) fp4 := owL_wrt hl4 hW4 (fun x hx e => by have := hf4 x hx;omega)
  have HB5 : Hid (Below w.heap.size w ((((Y1.setCell ⟨B,0,none⟩ (.int .i64 m.id)).setCell ⟨B,1,none⟩ (.slice A4.ra m.rows.length A4.rc)).setCell ⟨B,2,none⟩ (.slice A4.sa m.sung.length A4.sc)).setCell ⟨B,3,none⟩ (.bool m.done))) := hW4.below (HBY.out.trans (hb4.mono HBY.out.size)) (HBY.out.trans (hb4.mono HBY.out.size)).size (fun x e => by omega)
  have hT5 : Bx ((((Y1.setCell ⟨B,0,none⟩ (.int .i64 m.id)).setCell ⟨B,1,none⟩ (.slice A4.ra m.rows.length A4.rc)).setCell ⟨B,2,none⟩ (.slice A4.sa m.sung.length A4.sc)).setCell ⟨B,3,none⟩ (.bool m.done)) (w.heap.size + 1 + 1) 27 #[.int .i64 0,.int .i64 0,.slice none 0 0,.slice none 0 0,.bool false] := (HT3.out.below hb4).wrt hW4 (fun e => by omega)
  have HT5 : Hid (Bx ((((Y1.setCell ⟨B,0,none⟩ (.int .i64 m.id)).setCell ⟨B,1,none⟩ (.slice A4.ra m.rows.length A4.rc)).setCell ⟨B,2,none⟩ (.slice A4.sa m.sung.length A4.sc)).setCell ⟨B,3,none⟩ (.bool m.done)) (w.heap.size + 1 + 1) 27 #[.int .i64 0,.int .i64 0,.slice none 0 0,.slice none 0 0,.bool false]) := hT5
  have HL5 : Hid (owL ((((Y1.setCell ⟨B,0,none⟩ (.int .i64 m.id)).setCell ⟨B,1,none⟩ (.slice A4.ra m.rows.length A4.rc)).setCell ⟨B,2,none⟩ (.slice A4.sa m.sung.length A4.sc)).setCell ⟨B,3,none⟩ (.bool m.done)) (mbCels m) (mbVals A4 m) fp4) := hl5
  have x0 : ((((Y1.setCell ⟨B,0,none⟩ (.int .i64 m.id)).setCell ⟨B,1,none⟩ (.slice A4.ra m.rows.length A4.rc)).setCell ⟨B,2,none⟩ (.slice A4.sa m.sung.length A4.sc)).setCell ⟨B,3,none⟩ (.bool m.done)).cell? ⟨B,0,none⟩ = some (.int .i64 m.id) := by simp [go_sem,g0,g1,g2,g3]
  have x1 : ((((Y1.setCell ⟨B,0,none⟩ (.int .i64 m.id)).setCell ⟨B,1,none⟩ (.slice A4.ra m.rows.length A4.rc)).setCell ⟨B,2,none⟩ (.slice A4.sa m.sung.length A4.sc)).setCell ⟨B,3,none⟩ (.bool m.done)).cell? ⟨B,1,none⟩ = some (.slice A4.ra m.rows.length A4.rc) := by simp [go_sem,g0,g1,g2,g3]
  have x2 : ((((Y1.setCell ⟨B,0,none⟩ (.int .i64 m.id)).setCell ⟨B,1,none⟩ (.slice A4.ra m.rows.length A4.rc)).setCell ⟨B,2,none⟩ (.slice A4.sa m.sung.length A4.sc)).setCell ⟨B,3,none⟩ (.bool m.done)).cell? ⟨B,2,none⟩ = some (.slice A4.sa m.sung.length A4.sc) := by simp [go_sem,g0,g1,g2,g3]
  have x3 : ((((Y1.setCell ⟨B,0,none⟩ (.int .i64 m.id)).setCell ⟨B,1,none⟩ (.slice A4.ra m.rows.length A4.rc)).setCell ⟨B,2,none⟩ (.slice A4.sa m.sung.length A4.sc)).setCell ⟨B,3,none⟩ (.bool m.done)).cell? ⟨B,3,none⟩ = some (.bool m.done) := by simp [go_sem,g0,g1,g2,g3]
  have hTo := tol_any A4 m ((((Y1.setCell ⟨B,0,none⟩ (.int .i64 m.id)).setCell ⟨B,1,none⟩ (.slice A4.ra m.rows.length A4.rc)).setCell ⟨B,2,none⟩ (.slice A4.sa m.sung.length A4.sc)).setCell ⟨B,3,none⟩ (.bool m.done)) HMn.out
  unfold imV imC at hTo
  have HF4 : Hid (∀ x,fp4 x → w.heap.size + 1 + 1 < x) := fun x hx => by have := hf4 x hx;have := HT3.out.lt;omega
  clear hl4 hf4 hl5 hT5 hW4 hMo c0 c1 c2 c3 c4 HQ
  go_upto_region 7 with fail
  generalize ((((Y1.setCell ⟨B,0,none⟩ (.int .i64 m.id)).setCell ⟨B,1,none⟩ (.slice A4.ra m.rows.length A4.rc)).setCell ⟨B,2,none⟩ (.slice A4.sa m.sung.length A4.sc)).setCell ⟨B,3,none⟩ (.bool m.done)) = Y5 at *
  clear g0 g1 g2 g3 p0 p1 p2 p3
  go_wp2_with fail
  refine hTo.mono ?_
  rintro e Y2 ⟨rfl,hb2⟩
  have hR := HT5.out.below hb2
  have HN : Hid (∀ {z0 z1 z2 z3 z4 : Value},NewL w (((((Y2.setCell ⟨w.heap.size + 1 + 1,0,none⟩ z0).setCell ⟨w.heap.size + 1 + 1,1,none⟩ z1).setCell ⟨w.heap.size + 1 + 1,2,none⟩ z2).setCell ⟨w.heap.size + 1 + 1,3,none⟩ z3).setCell ⟨w.heap.size + 1 + 1,4,none⟩ z4) (mbCels m) (mbVals A4 m)) := fun {z0 z1 z2 z3 z4} => by
   have hB2 : Below w.heap.size w Y2 := HB5.out.trans (hb2.mono HB5.out.size)
   exact ⟨fp4,owL_wrt (owL_below HL5.out hb2) (wrt5 Y2 (w.heap.size + 1 + 1)) (fun x hx e => by have := HF4.out x hx;omega),fun x hx => by have := HF4.out x hx;omega,(wrt5 Y2 (w.heap.size + 1 + 1)).below hB2 hB2.size (fun x e => by omega)⟩
  unfold mbV mbC
  obtain ⟨z0,z1,z2,z3,z4⟩ := Bx.r5 hR
  obtain ⟨r0,r1,r2,r3,r4⟩ := hR.f5
  clear hTo hR hb2 x0 x1 x2 x3
  go_wp2
  refine bodyPost_ret (v := .tuple #[mbV A4 m,.bool false]) (by simp [results,Tryz.results57,go_sem,mbV,mbC, *]) rfl ?_
  rw [HZf.out]
  exact ⟨_,rfl,HN.out⟩
end Go.Proofs.YthioodpmgifomaaGreat
namespace Go.Proofs.YthioodpmgifomaaGreat
set_option linter.unusedVariables false
set_option linter.unusedSimpArgs false
open Go.RowKit Go.Sort
set_option maxHeartbeats 800000 in
theorem nvT_any (g q : Nat) (ver : Int) (X : World) (hc : X.cell? ⟨g,q,none⟩ = some (.int .i64 ver)) (hf : X.frozen? ⟨g,q,none⟩ = false) (h0 : 0 ≤ ver) (hv : ver < 1000000) :
  Calls Tryz.prog 119 #[.pointer (some ⟨g,q,none⟩)] X fun e w' => e = .returned (.tuple #[]) ∧ w' = X.setCell ⟨g,q,none⟩ (.int .i64 (ver + 1)) := by
 have hw : wrap64 (ver + 1) = ver + 1 := by unfold wrap64;omega
 go_enter Tryz.func119,Tryz.ntmps119
 go_wp2_with (go_at_call 115;refine (wantT _).mono ?_;rintro e w' ⟨rfl,hw'⟩;rw [hw'];clear hw')
 first | go_end0 | go_ret
 exact ⟨rfl,rfl⟩
set_option maxHeartbeats 800000 in
theorem nvF_any (g q : Nat) (ver : Int) (X : World) (hc : X.cell? ⟨g,q,none⟩ = some (.int .i64 ver)) (hv : ¬ ver < 1000000) :
  Calls Tryz.prog 119 #[.pointer (some ⟨g,q,none⟩)] X fun e w' => Gu e ∧ w' = X := by
 go_enter Tryz.func119,Tryz.ntmps119
 go_wp2_with (go_at_call 115;refine (wantF _).mono ?_;rintro e w' ⟨⟨T,v,rfl⟩,hw'⟩;rw [hw'];clear hw')
 exact ⟨rfl,⟨_,_,rfl⟩,rfl⟩
attribute [local irreducible] sv
set_option maxRecDepth 100000 in
set_option maxHeartbeats 1600000 in
theorem say_any (B : Nat) (m : Mb) (i n : Nat) (t : List UInt8) (fp : Fp) (w : World) (h : Plc w B 0 (mb4 m) fp) (ok : OkM m i n) (hd : m.done = false) (ht : t.length ≤ 1048576) :
  Calls Tryz.prog 59 #[.pointer (some ⟨B,0,none⟩),.string (sv t)] w fun e w' => ((sayMb m t).2 = true ∧ e = .returned (.tuple #[]) ∧ Bcm w w' B 0 (mb4 (sayMb m t).1) fp) ∨ ((sayMb m t).2 = false ∧ Gu e ∧ ∃ m1,Bcm w w' B 0 (mb4 m1) fp) := by
 have hmix := mixed17
 have hil : i < m.rows.length := by rw [ok.len];exact ok.lt
 obtain ⟨g,off,c,M0⟩ := Iw.start h (by omega)
 obtain ⟨c0,c3⟩ := M0.id'
 have c1 := M0.rws
 rw [ok.hid] at c0
 have hOw := own_any B i m.rows.length g off c w c0 c1 hil
 have HM0 : Hid (Iw w w B m fp g off c) := M0
 have hszt := sv_size t
 have hr := ok.ok i ok.lt
 have HSay : Hid (sayMb m t = if (rowN m.rows i).wed = true ∨ m.done = true ∨ (rowN m.rows i).txt.length = 12 ∨ 20 < t.length ∨ (rowN m.rows i).ver = 1000000 then (m,false) else ({ m with rows := m.rows.set i { rowN m.rows i with txt := (rowN m.rows i).txt ++ [t],got := (rowN m.rows i).got.set i (el (rowN m.rows i).got i + 1),ver := (rowN m.rows i).ver + 1 } },true)) := by
  have e : m.i = i := by unfold Mb.i;rw [ok.hid];rfl
  rw [Hid,sayMb,Mb.put,Mb.own,e]
 have HNo : Hid (((rowN m.rows i).wed = true ∨ m.done = true ∨ (rowN m.rows i).txt.length = 12 ∨ 20 < t.length ∨ (rowN m.rows i).ver = 1000000) → (sayMb m t).2 = false) := fun h => by rw [HSay.out,if_pos h]
 have HYes : Hid (¬ ((rowN m.rows i).wed = true ∨ m.done = true ∨ (rowN m.rows i).txt.length = 12 ∨ 20 < t.length ∨ (rowN m.rows i).ver = 1000000) → sayMb m t = ({ m with rows := m.rows.set i { rowN m.rows i with txt := (rowN m.rows i).txt ++ [t],got := (rowN m.rows i).got.set i (el (rowN m.rows i).got i + 1),ver := (rowN m.rows i).ver + 1 } },true)) := fun h => by rw [HSay.out,if_neg h]
 have htl := hr.tl
 clear HSay c0 c1 c3 M0 h
 go_enter Tryz.func59,Tryz.ntmps59
 go_wp2_with fail
 refine hOw.mono ?_
 rintro e wA ⟨rfl,hbA⟩
 have M1 := HM0.out.step hbA
 have HM1 : Hid (Iw w wA B m fp g off c) := M1
 obtain ⟨Ak,⟨⟨d0,d1,d2,d3⟩,d4,d5,d6,d7⟩,hrs⟩ := M1.row ok.fit hil
 have HGi : Hid (∃ m1,Bcm w wA B 0 (mb4 m1) fp) := ⟨m,M1.bcm⟩
 clear hOw hrs d0 d2 d3 d5 d6 d7 M1 hbA HM0
 cases hwd : (rowN m.rows i).wed with
 | true =>
  have HZ : Hid ((sayMb m t).2 = false) := HNo.out (.inl hwd)
  rw [hwd] at d4
  go_wp2_with (go_at_call 115;refine (wantF _).mono ?_;rintro e w' ⟨⟨T,v,rfl⟩,hw'⟩;rw [hw'];clear hw')
  exact ⟨rfl,.inr ⟨HZ.out,⟨_,_,rfl⟩,HGi.out⟩⟩
 | false =>
 rw [hwd] at d4
 by_cases h12 : (rowN m.rows i).txt.length = 12
 ·have HZ : Hid ((sayMb m t).2 = false) := HNo.out (.inr (.inr (.inl h12)))
  have e12 : ¬ (((rowN m.rows i).txt.length : Int) < 12) := by omega
  clear h12
  go_wp2_with (go_at_call 115;refine (wantF _).mono ?_;rintro e w' ⟨⟨T,v,rfl⟩,hw'⟩;rw [hw'];clear hw')
  exact ⟨rfl,.inr ⟨HZ.out,⟨_,_,rfl⟩,HGi.out⟩⟩
 have e12 : ((rowN m.rows i).txt.length : Int) < 12 := by omega
 by_cases h20 : 20 < t.length
 ·have HZ : Hid ((sayMb m t).2 = false) := HNo.out (.inr (.inr (.inr (.inl h20))))
  have e23 : decide ((t.length : Int) ≤ 20) = false := decide_eq_false (by omega)
  clear h20
  go_wp2_with (go_at_call 115;(try rw [e23]);refine (wantF _).mono ?_;rintro e w' ⟨⟨T,v,rfl⟩,hw'⟩;rw [hw'];clear hw')
  exact ⟨rfl,.inr ⟨HZ.out,⟨_,_,rfl⟩,HGi.out⟩⟩
 have e20 : (t.length : Int) ≤ 20 := by omega
 have HH : Hid (¬ ((rowN m.rows i).wed = true) ∧ ¬ m.done = true ∧ ¬ (rowN m.rows i).txt.length = 12 ∧ ¬ 20 < t.length) := ⟨by rw [hwd];decide,by rw [hd];decide,h12,h20⟩
 clear h12 h20 hwd HGi
 go_upto_region 2 with (go_at_call 115;refine (wantT _).mono ?_;rintro e w' ⟨rfl,hw'⟩;rw [hw'];clear hw')
 clear d4 e12 e20
 obtain ⟨u,f,hu,hfz,how,hlt,hset⟩ := HM1.out.at hil (j := 1) rfl
 have hbd : Below wA.heap.size wA wA.drew := (Same.drewN wA 1).below
 have hu' : ∀ X,Below wA.heap.size wA X → X.cell? ⟨g,off + i * 8 + 1,none⟩ = some u := fun X hX => (hX.cell (World.block_lt_of_cell? _ _ hu)).trans hu
 have hCl := clone_any t wA.drew ht
 obtain ⟨ta,tc,_,rfl,_⟩ := ow_scl.1 how
 have HS : Hid (∀ (X1 : World) (c' : Cel) (u' : Value) (f' : Fp) (r' : Rw),(rw8 (rowN m.rows i)).set 1 c' = rw8 r' → Wrt f wA X1 → Cel.ow X1 c' u' f' → (∀ b,f' b → f b ∨ wA.heap.size ≤ b) → X1.cell? ⟨g,off + i * 8 + 1,none⟩ = some (.slice ta (rowN m.rows i).txt.length tc) ∧ X1.frozen? ⟨g,off + i * 8 + 1,none⟩ = false ∧ Iw w (X1.setCell ⟨g,off + i * 8 + 1,none⟩ u') B { m with rows := m.rows.set i r' } fp g off c ∧ (u' = .slice ta (rowN m.rows i).txt.length tc → Iw w X1 B { m with rows := m.rows.set i r' } fp g off c)) := hset
 clear d1 hset hlt HM1
 refine gt_begin (S := fun X : World => X.cell? ⟨g,off + i * 8 + 1,none⟩ = some (.slice ta (rowN m.rows i).txt.length tc)) 11 hmix (by kernel_rfl) ?_
 have hHeld : (fun X : World => X.cell? ⟨g,off + i * 8 + 1,none⟩ = some (.slice ta (rowN m.rows i).txt.length tc)) wA.drew := (hu' _ hbd)
 refine gt_take (i := 0) (v := ?_) rfl (by kernel_rfl) (by kernel_rfl) (by kernel_rfl) (by kernel_rfl) (fun _ _ _ h => h) (Or.inl ⟨by rfl, ?_⟩) hHeld ?_
 rotate_left
 ·(intro X hSX;(try dsimp only at hSX);have g0 := hSX;go_simp;try with_reducible rfl)
 try simp only [Act.put,List.setIfInBounds_toArray,List.set_cons_zero,List.set_cons_succ]
 refine gt_take (i := 1) (v := ?_) rfl (by kernel_rfl) (by kernel_rfl) (by kernel_rfl) (by kernel_rfl) (fun _ _ _ h => h) (Or.inl ⟨by rfl, ?_⟩) hHeld ?_
 rotate_left
 ·(intro X hSX;(try dsimp only at hSX);have g0 := hSX;go_simp;try with_reducible rfl)
 try simp only [Act.put,List.setIfInBounds_toArray,List.set_cons_zero,List.set_cons_succ]
 refine gt_take (i := 2) (v := ?_) rfl (by kernel_rfl) (by kernel_rfl) (by kernel_rfl) (by kernel_rfl) (fun _ _ _ h => h) (Or.inl ⟨by rfl, ?_⟩) hHeld ?_
 rotate_left
 ·(intro X hSX;(try dsimp only at hSX);have g0 := hSX;go_simp;try with_reducible rfl)
 try simp only [Act.put,List.setIfInBounds_toArray,List.set_cons_zero,List.set_cons_succ]
 refine gt_take (i := 3) (v := ?_) rfl (by kernel_rfl) (by kernel_rfl) (by kernel_rfl) (by kernel_rfl) (fun _ _ _ h => h) (Or.inl ⟨by rfl, ?_⟩) hHeld ?_
 rotate_left
 ·(intro X hSX;(try dsimp only at hSX);have g0 := hSX;go_simp;try with_reducible rfl)
 try simp only [Act.put,List.setIfInBounds_toArray,List.set_cons_zero,List.set_cons_succ]
 refine gt_take (i := 4) (v := ?_) rfl (by kernel_rfl) (by kernel_rfl) (by kernel_rfl) (by kernel_rfl) (fun _ _ _ h => h) (Or.inl ⟨by rfl, ?_⟩) hHeld ?_
 rotate_left
 ·(intro X hSX;(try dsimp only at hSX);have g0 := hSX;go_simp;try with_reducible rfl)
 try simp only [Act.put,List.setIfInBounds_toArray,List.set_cons_zero,List.set_cons_succ]
 refine gt_take (i := 5) (v := ?_) rfl (by kernel_rfl) (by kernel_rfl) (by kernel_rfl) (by kernel_rfl) (fun _ _ _ h => h) (Or.inl ⟨by rfl, ?_⟩) hHeld ?_
 rotate_left
 ·(intro X hSX;(try dsimp only at hSX);have g0 := hSX;go_simp;try with_reducible rfl)
 try simp only [Act.put,List.setIfInBounds_toArray,List.set_cons_zero,List.set_cons_succ]
 refine gt_one (i := 6) rfl (by kernel_rfl) (by kernel_rfl) (fun K hK => ?_)
 go_simp
 go_at_call 118
 refine hCl.mono ?_
 rintro e V1 ⟨rfl,hb1⟩
 have hbV1 : Below wA.heap.size wA V1 := hbd.trans (hb1.mono hbd.size)
 obtain ⟨ta',tc',et,hA⟩ := ow_txt_app t (Cel.ow_below how hbV1) (by omega)
 cases et
 have hba := oneA16 V1 (.cells #[.string (sv t)] 9)
 refine hK.out _ _ (hu' _ hbV1) (fun hHeldN => ?_)
 clear hK hHeld
 have hHeld := hHeldN
 try simp only [Act.put,List.setIfInBounds_toArray,List.set_cons_zero,List.set_cons_succ]
 refine gt_one (i := 7) rfl (by kernel_rfl) (by kernel_rfl) (fun K hK => ?_)
 go_simp
 refine hK.out _ _ (hu' _ (hbV1.trans (hba.mono hbV1.size))) (fun hHeldN => ?_)
 clear hK hHeld
 have hHeld := hHeldN
 try simp only [Act.put,List.setIfInBounds_toArray,List.set_cons_zero,List.set_cons_succ]
 refine gt_one (i := 8) rfl (by kernel_rfl) (by kernel_rfl) (fun K hK => ?_)
 refine step_append_of (by rfl) _ _ _ _ (by rfl) (.slice ta (rowN m.rows i).txt.length tc) _ (by rfl) (by rfl) hA ⟨rfl,rfl,rfl,rfl⟩ ?_
 rintro v9 w1 ⟨a1,e1,f1,rfl,k1,k2,k3⟩
 have hs1 := hbV1.size
 obtain ⟨q1,q2,M2,_⟩ := HS.out w1 _ _ f1 { rowN m.rows i with txt := (rowN m.rows i).txt ++ [t] } rfl ((Wrt.of_below hbV1).trans k3 (fun _ _ h => h)) k1 (fun b hb => (k2 b hb).imp id (fun h => by omega))
 have HM2 : Hid (Iw w (w1.setCell ⟨g,off + i * 8 + 1,none⟩ (.slice a1 ((rowN m.rows i).txt.length + 1) e1)) B { m with rows := m.rows.set i { rowN m.rows i with txt := (rowN m.rows i).txt ++ [t] } } fp g off c) := M2
 refine hK.out _ _ q1 (fun hHeldN => ?_)
 clear hK hHeld
 have hHeld := hHeldN
 try simp only [Act.put,List.setIfInBounds_toArray,List.set_cons_zero,List.set_cons_succ]
 refine gt_one (i := 9) rfl (by kernel_rfl) (by kernel_rfl) (fun K hK => ?_)
 go_simp
 refine hK.out _ _ q1 (fun hHeldN => ?_)
 clear hK hHeld
 have hHeld := hHeldN
 try simp only [Act.put,List.setIfInBounds_toArray,List.set_cons_zero,List.set_cons_succ]
 refine gt_one (i := 10) rfl (by kernel_rfl) (by kernel_rfl) (fun K hK => ?_)
 go_simp
 refine hK.out _ _ q1 (fun hHeldN => ?_)
 clear hK hHeld
 have hHeld := hHeldN
 try simp only [Act.put,List.setIfInBounds_toArray,List.set_cons_zero,List.set_cons_succ]
 refine gt_last rfl (by kernel_rfl) (by kernel_rfl) (fun K hK => ?_)
 go_simp
 refine hK.out _ _ ?_
 clear hHeld hK M2 k1 k2 k3 hA HS q1 q2 hu' hu how hfz hCl hbV1 hbd hb1 hba
 go_upto_region 3 with fail
 generalize w1.setCell ⟨g,off + i * 8 + 1,none⟩ (.slice a1 ((rowN m.rows i).txt.length + 1) e1) = W5 at *
 generalize hr1 : ({ rowN m.rows i with txt := (rowN m.rows i).txt ++ [t] } : Rw) = r1 at *
 have hgl : r1.got = (rowN m.rows i).got := by rw [← hr1]
 have hvl : r1.ver = (rowN m.rows i).ver := by rw [← hr1]
 have hset1 : rowN (m.rows.set i r1) i = r1 := rowN_self hil
 have hil1 : i < (m.rows.set i r1).length := by rw [List.length_set];exact hil
 have hgi : i < r1.got.length := by rw [hgl,hr.gl];exact ok.lt
 obtain ⟨u,f,hu,hfz,how,hlt,hset⟩ := HM2.out.at hil1 (j := 2) (cl := icl r1.got) (by rw [hset1];rfl)
 obtain ⟨gb,go,gc,rfl,hfg,hge,hgz,hgs⟩ := ow_int_set how hgi
 obtain ⟨c0,c4⟩ := HM2.out.id'
 simp only at c0
 rw [ok.hid] at c0
 have i0 : (0 : Int) ≤ (i : Int) := by omega
 have i2 : (i : Int) < (r1.got.length : Int) := by omega
 have p0 : ∀ q : Bk W5,q.w.cell? ⟨B,0,none⟩ = _ := fun q => (q.h.cell (World.block_lt_of_cell? _ _ c0)).trans c0
 have p2 : ∀ q : Bk W5,q.w.cell? ⟨g,off + i * 8 + 2,none⟩ = _ := fun q => (q.h.cell (World.block_lt_of_cell? _ _ hu)).trans hu
 have p3 : ∀ q : Bk W5,q.w.cell? ⟨gb,go + i,none⟩ = _ := fun q => (q.h.cell (World.block_lt_of_cell? _ _ hge)).trans hge
 have hx12 : -1000 ≤ el r1.got i ∧ el r1.got i ≤ 1000 := by
  have hg := (small_iff hr.n5 hr.gl).1 ⟨hr.got,hr.g12⟩ i ok.lt
  rw [hgl]
  omega
 have hwx : wrap64 (el r1.got i + 1) = el r1.got i + 1 := by unfold wrap64;omega
 have HEL : Hid (el r1.got i = el (rowN m.rows i).got i) := by rw [Hid,hgl]
 have HGL : Hid (r1.got = (rowN m.rows i).got) := hgl
 have HVL : Hid (r1.ver = (rowN m.rows i).ver) := hvl
 have HS1 : Hid (rowN (m.rows.set i r1) i = r1) := hset1
 have HR1 : Hid (({ rowN m.rows i with txt := (rowN m.rows i).txt ++ [t] } : Rw) = r1) := hr1
 clear hu hfz hge hgz hgs how hset c0 c4 hx12 hgl hvl hset1 hr1
 generalize el r1.got i = x at *
 refine wp_region_quiet_tail (C := fun w' => ∃ p : Bk W5,w' = p.w) 13 hmix (by kernel_rfl) ⟨⟨W5.drewN 1,belowN (Below.refl _ _)⟩,rfl⟩ ?_
 simp only [List.take_succ_cons,List.take_zero]
 repeat (go_big_quiet_step ((first | rfl)))
 refine wpQuiet_nil ?_
 intro wE hw'
 obtain ⟨⟨w11,hb11⟩,hw''⟩ := hw'
 have hwe : wE = w11 := hw''
 clear hw''
 subst hwe
 simp only [List.drop_succ_cons,List.drop_zero]
 have hu3 := p2 ⟨wE,hb11⟩
 simp only at hu3
 have M3 := HM2.out.step hb11
 obtain ⟨u,f3,hu,hfz,how,hlt3,hset⟩ := M3.at hil1 (j := 2) (cl := icl r1.got) (by rw [HS1.out];rfl)
 obtain rfl := Option.some.inj (hu.symm.trans hu3)
 obtain ⟨gb',go',gc',e4,hfg4,hge,hgz,hgs⟩ := ow_int_set how hgi
 cases e4
 obtain ⟨k1,k2⟩ := hgs (x + 1)
 obtain ⟨_,_,_,hM4⟩ := hset _ (icl (r1.got.set i (x + 1))) _ f3 { r1 with got := r1.got.set i (x + 1) } (by rw [HS1.out];rfl) k2 k1 (fun b hb => .inl hb)
 have HM4 : Hid (Iw w (wE.setCell ⟨gb,go + i,none⟩ (.int .i64 (x + 1))) B { m with rows := (m.rows.set i r1).set i { r1 with got := r1.got.set i (x + 1) } } fp g off c) := hM4 rfl
 clear hM4 hgs k1 k2 hset M3 how hu hu3 hfz p0 p2 p3 hlt3 hlt
 go_upto_region 4 with fail
 generalize wE.setCell ⟨gb,go + i,none⟩ (.int .i64 (x + 1)) = W7 at *
 clear hge hgz
 rw [List.set_set] at HM4
 generalize hr2 : ({ r1 with got := r1.got.set i (x + 1) } : Rw) = r2 at *
 have hil2 : i < (m.rows.set i r2).length := by rw [List.length_set];exact hil
 have hv2 : r2.ver = (rowN m.rows i).ver := by rw [← hr2];exact HVL.out
 have hs2 : rowN (m.rows.set i r2) i = r2 := rowN_self hil
 obtain ⟨v1,v2,hM5⟩ := HM4.out.put hil2 (j := 0) (x := .int .i64 r2.ver) (y := .int .i64 (r2.ver + 1)) (r' := { r2 with ver := r2.ver + 1 }) (by rw [hs2];rfl) (by rw [hs2];rfl)
 have hvb := hr.ver
 simp only [Nat.add_zero] at v1 v2 hM5
 rw [List.set_set] at hM5
 have HM5 : Hid (Iw w (W7.setCell ⟨g,off + i * 8,none⟩ (.int .i64 (r2.ver + 1))) B { m with rows := m.rows.set i { r2 with ver := r2.ver + 1 } } fp g off c) := hM5
 have HFin : Hid ((rowN m.rows i).ver ≠ 1000000 → ({ m with rows := m.rows.set i { r2 with ver := r2.ver + 1 } } : Mb) = (sayMb m t).1 ∧ (sayMb m t).2 = true) := fun hne => by
  rw [HYes.out (by obtain ⟨h1,h2,h3,h4⟩ := HH.out;rintro (h | h | h | h | h);exact h1 h;exact h2 h;exact h3 h;exact h4 h;exact hne h)]
  refine ⟨?_,rfl⟩
  rw [← hr2,← HR1.out,HEL.out]
 by_cases hver : (rowN m.rows i).ver = 1000000
 ·have hnv := nvF_any g (off + i * 8) r2.ver W7 v1 (by omega)
  have HZ : Hid ((sayMb m t).2 = false) := HNo.out (.inr (.inr (.inr (.inr hver))))
  clear hM5 hr2 hs2 hv2 hvb HFin
  go_wp2_with (go_at_call 119;refine hnv.mono ?_;rintro e w' ⟨⟨T,v,rfl⟩,hw'⟩;rw [hw'];clear hw')
  exact ⟨rfl,.inr ⟨HZ.out,⟨_,_,rfl⟩,_,HM4.out.bcm⟩⟩
 ·have hnv := nvT_any g (off + i * 8) r2.ver W7 v1 v2 (by omega) (by omega)
  have HF := HFin.out hver
  have HF2 : Hid (({ m with rows := m.rows.set i { r2 with ver := r2.ver + 1 } } : Mb) = (sayMb m t).1 ∧ (sayMb m t).2 = true) := HF
  clear hM5 hr2 hs2 hv2 hvb HFin HF hver
  go_wp2_with (go_at_call 119;refine hnv.mono ?_;rintro e w' ⟨rfl,hw'⟩;rw [hw'];clear hw')
  first | go_end0 | go_ret
  exact .inl ⟨HF2.out.2,rfl,by rw [← HF2.out.1];exact HM5.out.bcm⟩
end Go.Proofs.YthioodpmgifomaaGreat
namespace Go.Proofs.YthioodpmgifomaaGreat
set_option linter.unusedVariables false
set_option linter.unusedSimpArgs false
open Go.RowKit Go.Sort
theorem Iw.own {w X : World} {B : Nat} {m : Mb} {fp : Fp} {g off c : Nat} (h : Iw w X B m fp g off c) {i : Nat} (hi : i < m.rows.length) : ∃ f,Plc X g (off + i * 8) (rw8 (rowN m.rows i)) f ∧ B ≠ g ∧ ¬ f B ∧ (∀ b,f b → b < X.heap.size) ∧ g < X.heap.size ∧ ∀ (X1 Y : World) (r : Rw),Below X.heap.size X X1 → Bcm X1 Y g (off + i * 8) (rw8 r) f → Iw w Y B { m with rows := m.rows.set i r } fp g off c := by
 obtain ⟨fp1,hp,hf1,hgo⟩ := h.bcm.next
 obtain ⟨g',off',c',f,h1,hgB,hfg,hfs,hpl,hput⟩ := hp.el (F := rw8) rw8_len (by omega) (j := 1) (L := m.rows) rfl (rowN_at hi)
 have e := Option.some.inj (h1.symm.trans h.rws)
 cases e
 have hfB : ¬ f B := fun hb => hp.nB (hfs B hb)
 refine ⟨f,hpl,fun e => hgB e.symm,hfB,hpl.flt,hpl.lt,fun X1 Y r hb hB => ?_⟩
 have hB1 := hB.first hb hpl.lt hpl.flt
 refine ⟨hgo Y _ rfl (hput Y r hB1), ?_⟩
 rw [World.cell?_of_block (hB1.wrt.block B hp.lt (fun kk => by rcases kk with kk | kk;exact hfB kk;exact hgB kk.symm)),h.rws]
 simp
end Go.Proofs.YthioodpmgifomaaGreat
namespace Go.Proofs.YthioodpmgifomaaGreat
set_option linter.unusedVariables false
set_option linter.unusedSimpArgs false
open Go.RowKit Go.Sort
def I64 (x : Int) : Prop := -9223372036854775808 ≤ x ∧ x ≤ 9223372036854775807
def ImplWoven : Prop := ∀ (a : Option Addr) (len cap : Nat) (cs : List Int) (w : World),Vec w a len cs → len ≤ cap → cap ≤ maxLen → Calls Tryz.prog 183 #[.slice a len cap] w fun e w' => ∃ Z,IsWoven cs Z ∧ AnsN w w' e Z
end Go.Proofs.YthioodpmgifomaaGreat
namespace Go.Proofs.YthioodpmgifomaaGreat
set_option linter.unusedVariables false
set_option linter.unusedSimpArgs false
open Go.RowKit Go.Sort
set_option maxHeartbeats 400000 in
theorem isW7_any (n last : Int) (w : World) : Calls Tryz.prog 129 #[.int .i64 n,.int .i64 last] w fun e w' => e = .returned (.bool (inB n 0 last)) ∧ w' = w := by
 by_cases h0 : (0 : Int) ≤ n
 ·have H : Hid (inB n 0 last = decide (n ≤ last)) := by rw [Hid,inB];simp [h0]
  go_enter Tryz.func129,Tryz.ntmps129
  go_wp2
  go_ret
  exact ⟨ret_bool (by rw [H.out]),rfl⟩
 ·have H : Hid (inB n 0 last = false) := by rw [Hid,inB];simp [h0]
  go_enter Tryz.func129,Tryz.ntmps129
  go_wp2
  go_ret
  exact ⟨ret_bool (by rw [H.out]),rfl⟩
set_option maxHeartbeats 400000 in
theorem senders_any (n : Int) (w : World) : Calls Tryz.prog 216 #[.int .i64 n] w fun e w' => e = .returned (.bool (inB n 1 8)) ∧ w' = w := by
 by_cases h0 : (1 : Int) ≤ n
 ·have H : Hid (inB n 1 8 = decide (n ≤ 8)) := by rw [Hid,inB];simp [h0]
  go_enter Tryz.func216,Tryz.ntmps216
  go_wp2
  go_ret
  exact ⟨ret_bool (by rw [H.out]),rfl⟩
 ·have H : Hid (inB n 1 8 = false) := by rw [Hid,inB];simp [h0]
  go_enter Tryz.func216,Tryz.ntmps216
  go_wp2
  go_ret
  exact ⟨ret_bool (by rw [H.out]),rfl⟩
set_option maxHeartbeats 400000 in
theorem turn_any (n q : Int) (w : World) : Calls Tryz.prog 191 #[.int .i64 n,.int .i64 q] w fun e w' => e = .returned (.bool (tellB n q)) ∧ w' = w := by
 cases e0 : inB n 1 8 with
 | false =>
  have H : Hid (tellB n q = false) := by rw [Hid,tellB,e0];rfl
  go_enter Tryz.func191,Tryz.ntmps191
  go_wp2_with (first | (go_at_call 216;refine (senders_any _ _).mono ?_;rintro e w' ⟨rfl,rfl⟩) | (go_at_call 129;refine (isW7_any _ _ _).mono ?_;rintro e w' ⟨rfl,rfl⟩))
  go_ret
  exact ⟨ret_bool (by rw [H.out]),rfl⟩
 | true =>
  have H : Hid (tellB n q = inB q 0 800000) := by rw [Hid,tellB,e0];rfl
  go_enter Tryz.func191,Tryz.ntmps191
  go_wp2_with (first | (go_at_call 216;refine (senders_any _ _).mono ?_;rintro e w' ⟨rfl,rfl⟩) | (go_at_call 129;refine (isW7_any _ _ _).mono ?_;rintro e w' ⟨rfl,rfl⟩))
  go_ret
  exact ⟨ret_bool (by rw [H.out]),rfl⟩
set_option maxHeartbeats 800000 in
theorem seqI_any (n s i : Int) (hn : I64 n) (w : World) : Calls Tryz.prog 231 #[.int .i64 n,.int .i64 s,.int .i64 i] w fun e w' => e = .returned (.int .i64 (seqL n s i)) ∧ w' = w := by
 unfold I64 at hn
 cases e0 : inB n 1 8 with
 | false =>
  have HZ : Hid (seqL n s i = -1) := by rw [Hid,seqL,seqB,e0];rfl
  go_enter Tryz.func231,Tryz.ntmps231
  go_wp2_with (first | (go_at_call 216;refine (senders_any _ _).mono ?_;rintro e w' ⟨rfl,rfl⟩) | (go_at_call 129;refine (isW7_any _ _ _).mono ?_;rintro e w' ⟨rfl,rfl⟩))
  go_ret
  exact ⟨ret_int (by rw [HZ.out]),rfl⟩
 | true =>
  have hk := inB7.1 e0
  cases e1 : inB s 0 (n - 1) with
  | false =>
   have HZ : Hid (seqL n s i = -1) := by rw [Hid,seqL,seqB,e0,e1];rfl
   go_enter Tryz.func231,Tryz.ntmps231
   go_wp2_with (first | (go_at_call 216;refine (senders_any _ _).mono ?_;rintro e w' ⟨rfl,rfl⟩) | (go_at_call 129;refine (isW7_any _ _ _).mono ?_;rintro e w' ⟨rfl,rfl⟩))
   go_ret
   exact ⟨ret_int (by rw [HZ.out]),rfl⟩
  | true =>
   have hs := inB7.1 e1
   cases e2 : inB i 0 100000 with
   | false =>
    have HZ : Hid (seqL n s i = -1) := by rw [Hid,seqL,seqB,e0,e1,e2];rfl
    go_enter Tryz.func231,Tryz.ntmps231
    go_wp2_with (first | (go_at_call 216;refine (senders_any _ _).mono ?_;rintro e w' ⟨rfl,rfl⟩) | (go_at_call 129;refine (isW7_any _ _ _).mono ?_;rintro e w' ⟨rfl,rfl⟩))
    go_ret
    exact ⟨ret_int (by rw [HZ.out]),rfl⟩
   | true =>
    have hi := inB7.1 e2
    have HZ : Hid (seqL n s i = n * i + s) := by rw [Hid,seqL,seqB,e0,e1,e2];rfl
    have m0 : 0 ≤ n * i := Int.mul_nonneg (by omega) hi.1
    have m1 : n * i ≤ 8 * 100000 := Int.mul_le_mul hk.2 hi.2 hi.1 (by omega)
    generalize hm : n * i = m at *
    go_enter Tryz.func231,Tryz.ntmps231
    go_wp2_with (first | (go_at_call 216;refine (senders_any _ _).mono ?_;rintro e w' ⟨rfl,rfl⟩) | (go_at_call 129;refine (isW7_any _ _ _).mono ?_;rintro e w' ⟨rfl,rfl⟩))
    go_ret
    exact ⟨ret_int (by rw [HZ.out]),rfl⟩
set_option maxHeartbeats 800000 in
theorem sndI_any (n q : Int) (w : World) : Calls Tryz.prog 149 #[.int .i64 n,.int .i64 q] w fun e w' => e = .returned (.int .i64 (sndL n q)) ∧ w' = w := by
 cases e0 : tellB n q with
 | false =>
  have HZ : Hid (sndL n q = -1) := by rw [Hid,sndL,e0];rfl
  go_enter Tryz.func149,Tryz.ntmps149
  go_wp2_with (go_at_call 191;refine (turn_any _ _ _).mono ?_;rintro e w' ⟨rfl,rfl⟩)
  go_ret
  exact ⟨ret_int (by rw [HZ.out]),rfl⟩
 | true =>
  have hk := tellB_iff.1 e0
  have HZ : Hid (sndL n q = q % n) := by rw [Hid,sndL,e0];rfl
  have hne : (n == 0) = false := by simp;omega
  have ht : q.tmod n = q % n := Int.tmod_eq_emod_of_nonneg hk.2.1
  have b0 : 0 ≤ q % n := Int.emod_nonneg _ (by omega)
  have b1 : q % n < n := Int.emod_lt_of_pos _ (by omega)
  go_enter Tryz.func149,Tryz.ntmps149
  go_wp2_with (go_at_call 191;refine (turn_any _ _ _).mono ?_;rintro e w' ⟨rfl,rfl⟩)
  go_ret
  exact ⟨ret_int (by rw [HZ.out]),rfl⟩
set_option maxHeartbeats 800000 in
theorem idxI_any (n q : Int) (w : World) : Calls Tryz.prog 150 #[.int .i64 n,.int .i64 q] w fun e w' => e = .returned (.int .i64 (idxL n q)) ∧ w' = w := by
 cases e0 : tellB n q with
 | false =>
  have HZ : Hid (idxL n q = -1) := by rw [Hid,idxL,e0];rfl
  go_enter Tryz.func150,Tryz.ntmps150
  go_wp2_with (go_at_call 191;refine (turn_any _ _ _).mono ?_;rintro e w' ⟨rfl,rfl⟩)
  go_ret
  exact ⟨ret_int (by rw [HZ.out]),rfl⟩
 | true =>
  have hk := tellB_iff.1 e0
  have HZ : Hid (idxL n q = q / n) := by rw [Hid,idxL,e0];rfl
  have hne : (n == 0) = false := by simp;omega
  have ht : q.tdiv n = q / n := Int.tdiv_eq_ediv_of_nonneg hk.2.1
  have b0 : 0 ≤ q / n := Int.ediv_nonneg hk.2.1 (by omega)
  have b1 : q / n ≤ q := Int.ediv_le_self n hk.2.1
  go_enter Tryz.func150,Tryz.ntmps150
  go_wp2_with (go_at_call 191;refine (turn_any _ _ _).mono ?_;rintro e w' ⟨rfl,rfl⟩)
  go_ret
  exact ⟨ret_int (by rw [HZ.out]),rfl⟩
def gr (cs : List Int) : Int := hiL (el cs 0) cs.tail
theorem hiL_le {x m : Int} : ∀ {xs : List Int},hiL x xs ≤ m ↔ x ≤ m ∧ ∀ y ∈ xs,y ≤ m := by
 intro xs
 induction xs generalizing x with
 | nil => simp [hiL]
 | cons y ys ih =>
  show hiL (max x y) ys ≤ m ↔ _
  rw [ih]
  simp only [List.mem_cons]
  constructor
  ·rintro ⟨h1,h2⟩
   exact ⟨by omega,fun z hz => by rcases hz with rfl | hz;omega;exact h2 z hz⟩
  ·rintro ⟨h1,h2⟩
   exact ⟨by have := h2 y (.inl rfl);omega,fun z hz => h2 z (.inr hz)⟩
theorem gr_le {cs : List Int} {m : Int} (h1 : 1 ≤ cs.length) : gr cs ≤ m ↔ ∀ i,i < cs.length → el cs i ≤ m := by
 cases cs with
 | nil => simp at h1
 | cons c ds =>
  have e : gr (c :: ds) = hiL c ds := rfl
  rw [e,hiL_le]
  constructor
  ·rintro ⟨a,b⟩ i hi
   rw [el_eq hi]
   have := List.getElem_mem hi
   rcases List.mem_cons.1 this with h | h
   ·rw [h];exact a
   ·exact b _ h
  ·intro h
   refine ⟨h 0 (by simp),fun y hy => ?_⟩
   obtain ⟨i,hi,rfl⟩ := List.getElem_of_mem hy
   have := h (i + 1) (by simp;omega)
   rw [el_eq (by simp;omega)] at this
   simpa using this
theorem gr_ge {cs : List Int} {i : Nat} (hi : i < cs.length) : el cs i ≤ gr cs := (gr_le (by omega)).1 (Int.le_refl _) i hi
theorem okCt_gr {cs : List Int} (h : okB cs = true) : okCt cs = decide (gr cs ≤ 100000) := by
 have h1 := (okB_len h).1
 rw [Bool.eq_iff_iff,decide_eq_true_eq,gr_le h1]
 exact ⟨fun k => fun i hi => ((okCt_all k).2 i hi).2,fun k => okCt_of h k⟩
set_option maxRecDepth 100000 in
set_option maxHeartbeats 800000 in
theorem areCounts_any (a : Option Addr) (len cap : Nat) (cs : List Int) (w : World) (hv : Vec w a len cs) (hcap : len ≤ cap) (hm : cap ≤ maxLen) :
  Calls Tryz.prog 211 #[.slice a len cap] w fun e w' => e = .returned (.bool (okCt cs)) ∧ ∃ n,w' = w.drewN n := by
 have hV := implOk_any a len cap cs w hv hcap hm
 cases hb : okB cs with
 | false =>
  rw [hb] at hV
  have HZ : Hid (okCt cs = false) := by rw [Hid,okCt,hb];rfl
  clear hb
  go_enter Tryz.func211,Tryz.ntmps211
  go_wp2_with (go_at_call 227;refine hV.mono ?_;rintro e w' ⟨rfl,n1,rfl⟩)
  go_ret
  exact ⟨ret_bool (by rw [HZ.out]),_,rfl⟩
 | true =>
  rw [hb] at hV
  have HZ : Hid (okCt cs = decide (gr cs ≤ 100000)) := okCt_gr hb
  have h18 := okB_len hb
  clear hb
  obtain ⟨hlen,hf,hcs⟩ := hv
  have hG : Hid (∀ n,Calls Tryz.prog 193 #[.slice a len cap] (w.drewN n) fun e w' => e = .returned (.int .i64 (gr cs)) ∧ ∃ m,w' = (w.drewN n).drewN m) := by
   intro n
   rcases hcs with h0 | ⟨b,off,rfl,hc⟩
   ·omega
   ·exact vgreatest_any b off len cap cs _ hlen hf (fun k hk => by rw [World.cell?_drewN];exact hc k hk) (by omega) hcap hm
  have HL : Hid (cs.length = len) := hlen
  clear hlen hcs hf h18
  generalize gr cs = G at *
  go_enter Tryz.func211,Tryz.ntmps211
  go_wp2_with (first | (go_at_call 227;refine hV.mono ?_;rintro e w' ⟨rfl,n1,rfl⟩) | (go_at_call 193;refine (hG.out _).mono ?_;rintro e w' ⟨rfl,n2,rfl⟩))
  go_ret
  exact ⟨ret_bool (by rw [HZ.out]),_,rfl⟩
end Go.Proofs.YthioodpmgifomaaGreat
namespace Go.Proofs.YthioodpmgifomaaGreat
set_option linter.unusedVariables false
set_option linter.unusedSimpArgs false
open Go.RowKit Go.Sort
theorem snd_nat {n q : Nat} (hn : 1 ≤ n ∧ n ≤ 5) (hq : q ≤ 60) : sndL (n : Int) (q : Int) = ((q % n : Nat) : Int) ∧ idxL (n : Int) (q : Int) = ((q / n : Nat) : Int) := by
 have ht : tellB (n : Int) (q : Int) = true := tellB_iff.2 (by omega)
 unfold sndL idxL
 rw [ht]
 exact ⟨by simp,by simp⟩
attribute [local irreducible] sv
end Go.Proofs.YthioodpmgifomaaGreat
namespace Go.Proofs.YthioodpmgifomaaGreat
set_option linter.unusedVariables false
set_option linter.unusedSimpArgs false
open Go.RowKit Go.Sort
structure OkW (m : Mb) (i n : Nat) : Prop where
 hid : m.id = (i : Int)
 n5 : 1 ≤ n ∧ n ≤ 5
 lt : i < n
 len : m.rows.length = n
 ok : ∀ k,k < n → OkR (rowN m.rows k) n
 fit : FitM m
theorem OkM.okw {m : Mb} {i n : Nat} (h : OkM m i n) : OkW m i n := ⟨h.hid,h.n5,h.lt,h.len,h.ok,h.fit⟩
set_option maxRecDepth 100000 in
set_option maxHeartbeats 1600000 in
theorem agt_any (w0 : World) (B : Nat) (m : Mb) (i n q : Nat) (fp : Fp) (g off c : Nat) (X : World) (M : Iw w0 X B m fp g off c) (ok : OkW m i n) (hq : q ≤ 60) :
  Calls Tryz.prog 184 #[.pointer (some ⟨B,0,none⟩),.int .i64 (q : Int)] X fun e w' => e = .returned (.bool (sings m.rows n q)) ∧ Below X.heap.size X w' := by
 have hn5 := ok.n5
 have c1 := M.rws
 rw [ok.len] at c1
 have hC := cnt_any B (some ⟨g,off,none⟩) n c X c1
 obtain ⟨e1,e2⟩ := snd_nat hn5 hq
 have hS := sndI_any (n : Int) (q : Int) X
 have hI := idxI_any (n : Int) (q : Int) X
 rw [e1] at hS
 rw [e2] at hI
 obtain ⟨z,hz⟩ : ∃ z : Nat,Hid (q % n = z) := ⟨_,rfl⟩
 obtain ⟨y,hy⟩ : ∃ y : Nat,Hid (q / n = y) := ⟨_,rfl⟩
 have hzn : z < n := by rw [← hz.out];exact Nat.mod_lt _ (by omega)
 rw [hz.out] at hS
 rw [hy.out] at hI
 have HM : Hid (Iw w0 X B m fp g off c) := M
 have HLn : Hid (m.rows.length = n) := ok.len
 have HOk : Hid (∀ k,k < n → OkR (rowN m.rows k) n) := ok.ok
 have HFm : Hid (FitM m) := ok.fit
 clear e1 e2 M
 go_enter Tryz.func184,Tryz.ntmps184
 go_wp2_with (first | (go_at_call 124;refine hC.mono ?_;rintro e w' ⟨rfl,hw'⟩;rw [hw'];clear hw') | (go_at_call 149;refine hS.mono ?_;rintro e w' ⟨rfl,hw'⟩;rw [hw'];clear hw') | (go_at_call 150;refine hI.mono ?_;rintro e w' ⟨rfl,hw'⟩;rw [hw'];clear hw'))
 clear hC hS hI c1
 go_loopw [22] (fun v wr => ∃ k : Nat,k ≤ n ∧ v = .int .i64 (k : Int) ∧ (∀ j,j < k → (y : Int) < el (rowN m.rows j).got z) ∧ Below X.heap.size X wr) (fun v _ => n - (intOf v).toNat)
 case atStart => exact ⟨0,Nat.zero_le _,rfl,fun j hj => by omega,Below.refl _ _⟩
 case round =>
  obtain ⟨k,hk,rfl,hall,hb⟩ := hrel
  have HA : Hid (∀ j,j < k → (y : Int) < el (rowN m.rows j).got z) := hall
  have HB : Hid (Below X.heap.size X wr) := hb
  clear hall
  by_cases hlt : k < n
  ·have hkl : k < m.rows.length := by rw [HLn.out];exact hlt
   obtain ⟨Ak,⟨⟨d0,d1,d2,d3⟩,d4,d5,d6,d7⟩,hrs⟩ := (HM.out.step hb).row HFm.out hkl
   have hgl := (HOk.out k hlt).gl
   have k0 : (0 : Int) ≤ (k : Int) := by omega
   have k1 : (k : Int) < (n : Int) := by omega
   have HNo : Hid (¬ ((y : Int) < el (rowN m.rows k).got z) → sings m.rows n q = false) := fun h => sings_no hkl (by rw [hy.out,hz.out];exact h)
   have HY : Hid ((y : Int) < el (rowN m.rows k).got z → ∀ j,j < k + 1 → (y : Int) < el (rowN m.rows j).got z) := fun h1 j hj => by
    rcases Nat.lt_succ_iff_lt_or_eq.1 hj with h | h
    ·exact HA.out j h
    ·rw [h];exact h1
   generalize rowN m.rows k = r at *
   have hba := oneA16 wr (.cells #[.int .i64 r.ver,.slice Ak.ta r.txt.length Ak.tc,.slice Ak.ga r.got.length Ak.gc,.slice Ak.sa r.sus.length Ak.sc,.bool r.wed,.bool r.rdy,.int .i64 r.by_,.slice Ak.ma r.trm.length Ak.mc] 37)
   have hxr := Bx.new wr 37 #[.int .i64 r.ver,.slice Ak.ta r.txt.length Ak.tc,.slice Ak.ga r.got.length Ak.gc,.slice Ak.sa r.sus.length Ak.sc,.bool r.wed,.bool r.rdy,.int .i64 r.by_,.slice Ak.ma r.trm.length Ak.mc]
   have HBa : Hid (Below X.heap.size X (wr.alloc (.cells #[.int .i64 r.ver,.slice Ak.ta r.txt.length Ak.tc,.slice Ak.ga r.got.length Ak.gc,.slice Ak.sa r.sus.length Ak.sc,.bool r.wed,.bool r.rdy,.int .i64 r.by_,.slice Ak.ma r.trm.length Ak.mc] 37))) := HB.out.trans (hba.mono HB.out.size)
   rcases (hrs.got.below hba (Nat.le_refl _)).2.2 with h0 | ⟨gb,go,hga,hgc⟩
   ·omega
   have hge := hgc z (by omega)
   have z0 : (0 : Int) ≤ (z : Int) := by omega
   have z1 : (z : Int) < (r.got.length : Int) := by omega
   have HXr : Hid (Bx (wr.alloc (.cells #[.int .i64 r.ver,.slice Ak.ta r.txt.length Ak.tc,.slice Ak.ga r.got.length Ak.gc,.slice Ak.sa r.sus.length Ak.sc,.bool r.wed,.bool r.rdy,.int .i64 r.by_,.slice Ak.ma r.trm.length Ak.mc] 37)) wr.heap.size 37 #[.int .i64 r.ver,.slice Ak.ta r.txt.length Ak.tc,.slice Ak.ga r.got.length Ak.gc,.slice Ak.sa r.sus.length Ak.sc,.bool r.wed,.bool r.rdy,.int .i64 r.by_,.slice Ak.ma r.trm.length Ak.mc]) := hxr
   have HGA : Hid (Ak.ga = some ⟨gb,go,none⟩) := hga
   clear hrs hb hgc hba hxr hga hgl
   generalize hxe : el r.got z = x at *
   go_upto_region 5 with fail
   generalize wr.alloc (.cells #[.int .i64 r.ver,.slice Ak.ta r.txt.length Ak.tc,.slice Ak.ga r.got.length Ak.gc,.slice Ak.sa r.sus.length Ak.sc,.bool r.wed,.bool r.rdy,.int .i64 r.by_,.slice Ak.ma r.trm.length Ak.mc] 37) = W5 at *
   clear d0 d1 d2 d3 d4 d5 d6 d7
   have x2 := HXr.out.at 2 (v := .slice Ak.ga r.got.length Ak.gc) rfl
   rw [HGA.out] at x2
   by_cases hxy : (y : Int) < x
   ·have e2 : ¬ (x ≤ (y : Int)) := by omega
    have e3 : decide (x ≤ (y : Int)) = false := decide_eq_false e2
    have HN : Hid (∀ j,j < k + 1 → (y : Int) < el (rowN m.rows j).got z) := HY.out hxy
    clear HY HNo hxy
    go_wp2
    go_roundw
    case rel => exact ⟨k + 1,by omega,by go_num,HN.out,HBa.out⟩
    case measure => simp [intOf];omega
   ·have e2 : x ≤ (y : Int) := by omega
    have e3 : decide (x ≤ (y : Int)) = true := decide_eq_true e2
    have HN : Hid (sings m.rows n q = false) := HNo.out hxy
    clear HY HNo hxy
    go_wp2
    go_ret
    exact ⟨ret_bool (by rw [HN.out]),HBa.out⟩
  ·have k1 : ¬ ((k : Int) < (n : Int)) := by omega
   obtain rfl : k = n := by omega
   have HN : Hid (sings m.rows k q = true) := sings_yes (fun j hj => by rw [hy.out,hz.out];exact HA.out j (by rw [← HLn.out];exact hj))
   clear hb
   go_wp2
   go_ret
   exact ⟨ret_bool (by rw [HN.out]),HB.out⟩
theorem sings_lt {m : Mb} {i n q : Nat} (ok : OkW m i n) (h : sings m.rows n q = true) : q < 60 := by
 have h5 := ok.n5
 have h0 := ok.ok 0 (by omega)
 have hl := ok.len
 rw [sings,List.all_eq_true] at h
 have := h _ (List.mem_of_getElem? (rowN_at (R := m.rows) (k := 0) (by omega)))
 simp only [decide_eq_true_eq] at this
 have hm : q % n < n := Nat.mod_lt _ (by omega)
 have hg := (small_iff h0.n5 h0.gl).1 ⟨h0.got,h0.g12⟩ (q % n) hm
 have hq : q / n < 12 := by omega
 have hd := Nat.div_add_mod q n
 have h1 : n * (q / n) ≤ n * 11 := Nat.mul_le_mul_left n (by omega)
 omega
set_option maxRecDepth 100000 in
set_option maxHeartbeats 1600000 in
theorem sng_any (w0 : World) (B : Nat) (m : Mb) (i n : Nat) (fp : Fp) (g off c : Nat) (X : World) (M : Iw w0 X B m fp g off c) (ok : OkW m i n) (hsl : m.sung.length ≤ 60) :
  Calls Tryz.prog 140 #[.pointer (some ⟨B,0,none⟩)] X fun e w' => e = .returned (.tuple #[]) ∧ Iw w0 w' B { m with sung := sing m.rows n (60 - m.sung.length) m.sung } fp g off c := by
 have hmix := mixed17
 have HM0 : Hid (Iw w0 X B m fp g off c) := M
 have HOk : Hid (OkW m i n) := ok
 clear M
 go_enter Tryz.func140,Tryz.ntmps140
 go_wp2_with fail
 go_loopg [] 61 (fun gk wr => ∃ s : List Int,s.length ≤ 60 ∧ 60 - s.length < gk ∧ Fits s ∧ Hid (sing m.rows n (60 - m.sung.length) m.sung = sing m.rows n (60 - s.length) s) ∧ Iw w0 wr B { m with sung := s } fp g off c)
 case atStart => exact ⟨m.sung,hsl,by omega,HOk.out.fit.2,rfl,HM0.out⟩
 case round =>
  obtain ⟨s,hs60,hgk,hfs,hS,M⟩ := hrel
  have hokw : OkW { m with sung := s } i n := ⟨HOk.out.hid,HOk.out.n5,HOk.out.lt,HOk.out.len,HOk.out.ok,HOk.out.fit.1,hfs⟩
  obtain ⟨sa,sc,⟨c0,c1,c2,c3⟩,hms⟩ := M.box hokw.fit
  simp only at c0 c1 c2 c3
  have HM : Hid (Iw w0 wr B { m with sung := s } fp g off c) := M
  have hAg : ∀ q : Bk wr,Calls Tryz.prog 184 #[.pointer (some ⟨B,0,none⟩),.int .i64 (s.length : Int)] q.w fun e w' => e = .returned (.bool (sings m.rows n s.length)) ∧ Below q.w.heap.size q.w w' := fun q => agt_any w0 B { m with sung := s } i n s.length fp g off c q.w (HM.out.step q.h) hokw hs60
  have y2 : ∀ q : Bk wr,q.w.cell? ⟨B,2,none⟩ = some (.slice sa s.length sc) := fun q => (q.h.cell (World.block_lt_of_cell? _ _ c2)).trans c2
  have HLt : Hid (sings m.rows n s.length = true → s.length < 60) := fun h => sings_lt HOk.out h
  clear M hms c0 c1 c2 c3
  cases hsg : sings m.rows n s.length with
  | false =>
   have HE : Hid (sing m.rows n (60 - m.sung.length) m.sung = s) := by
    rw [Hid,hS.out]
    cases 60 - s.length with
    | zero => rfl
    | succ f => rw [sing,if_neg (by rw [hsg];decide)]
   rw [hsg] at hAg
   clear hsg
   go_wp2_with fail
   refine wp_region_bk (by kernel_rfl) (by kernel_rfl) ?_
   repeat (go_big_quiet_step ((first | (go_at_call 184;exact bk_call _ (hAg _)) | rfl)))
   refine wpQuiet_nil ?_
   intro wE hw'
   obtain ⟨⟨w11,hb11⟩,hw''⟩ := hw'
   have hwe : wE = w11 := hw''
   clear hw''
   subst hwe
   have HME : Hid (Iw w0 wE B { m with sung := s } fp g off c) := HM.out.step hb11
   clear hAg y2 hb11
   go_wp2
   first | go_end0 | go_ret
   exact ⟨rfl,by rw [HE.out];exact HME.out⟩
  | true =>
   have hl60 := HLt.out hsg
   have HE : Hid (sing m.rows n (60 - m.sung.length) m.sung = sing m.rows n (60 - (s ++ [(s.length : Int)]).length) (s ++ [(s.length : Int)])) := by
    rw [Hid,hS.out,List.length_append,show 60 - s.length = (60 - (s.length + 1)) + 1 by omega,sing,if_pos hsg]
    rfl
   rw [hsg] at hAg
   clear hsg HLt
   go_upto_region 0 with fail
   refine wp_region_bk (by kernel_rfl) (by kernel_rfl) ?_
   repeat (go_big_quiet_step ((first | (go_at_call 184;exact bk_call _ (hAg _)) | rfl)))
   refine wpQuiet_nil ?_
   intro wE hw'
   obtain ⟨⟨w11,hb11⟩,hw''⟩ := hw'
   have hwe : wE = w11 := hw''
   clear hw''
   subst hwe
   have M1 := HM.out.step hb11
   obtain ⟨u,f,hu,hz,how,hlt,hset⟩ := M1.mat (j := 2) rfl (by decide)
   have hu2 := y2 ⟨wE,hb11⟩
   simp only at hu2
   obtain rfl := Option.some.inj (hu.symm.trans hu2)
   obtain ⟨sa',sc',es,hA⟩ := ow_int_app (s.length : Int) how (Nat.le_trans hs60 (by decide))
   cases es
   have hbd : Below wE.heap.size wE wE.drew := (Same.drewN wE 1).below
   have KS : ∀ Z,Below wE.heap.size wE Z → Z.cell? ⟨B,2,none⟩ = some (.slice sa s.length sc) := fun Z hZ => (hZ.cell (World.block_lt_of_cell? _ _ hu2)).trans hu2
   have hba := oneA16 wE (.cells #[.int .i64 (s.length : Int)] 2)
   have HSet : Hid (∀ (X1 : World) (c' : Cel) (u' : Value) (f' : Fp) (m' : Mb),(mb4 { m with sung := s }).set 2 c' = mb4 m' → m'.rows.length = m.rows.length → Wrt f wE X1 → Cel.ow X1 c' u' f' → (∀ b,f' b → f b ∨ wE.heap.size ≤ b) → X1.cell? ⟨B,2,none⟩ = some (.slice sa s.length sc) ∧ X1.frozen? ⟨B,2,none⟩ = false ∧ Iw w0 (X1.setCell ⟨B,2,none⟩ u') B m' fp g off c) := hset
   clear hAg y2 hset hu hz hlt M1 how hb11
   go_upto_region 1 with fail
   refine gt_begin (S := fun Z : World => Z.cell? ⟨B,2,none⟩ = some (.slice sa s.length sc)) 14 hmix (by kernel_rfl) ?_
   have hHeld : (fun Z : World => Z.cell? ⟨B,2,none⟩ = some (.slice sa s.length sc)) wE.drew := (KS _ hbd)
   refine gt_take (i := 0) (v := ?_) rfl (by kernel_rfl) (by kernel_rfl) (by kernel_rfl) (by kernel_rfl) (fun _ _ _ h => h) (Or.inl ⟨by rfl, ?_⟩) hHeld ?_
   rotate_left
   ·(intro X hSX;(try dsimp only at hSX);have g0 := hSX;go_simp;try with_reducible rfl)
   try simp only [Act.put,List.setIfInBounds_toArray,List.set_cons_zero,List.set_cons_succ]
   refine gt_take (i := 1) (v := ?_) rfl (by kernel_rfl) (by kernel_rfl) (by kernel_rfl) (by kernel_rfl) (fun _ _ _ h => h) (Or.inl ⟨by rfl, ?_⟩) hHeld ?_
   rotate_left
   ·(intro X hSX;(try dsimp only at hSX);have g0 := hSX;go_simp;try with_reducible rfl)
   try simp only [Act.put,List.setIfInBounds_toArray,List.set_cons_zero,List.set_cons_succ]
   refine gt_take (i := 2) (v := ?_) rfl (by kernel_rfl) (by kernel_rfl) (by kernel_rfl) (by kernel_rfl) (fun _ _ _ h => h) (Or.inl ⟨by rfl, ?_⟩) hHeld ?_
   rotate_left
   ·(intro X hSX;(try dsimp only at hSX);have g0 := hSX;go_simp;try with_reducible rfl)
   try simp only [Act.put,List.setIfInBounds_toArray,List.set_cons_zero,List.set_cons_succ]
   refine gt_take (i := 3) (v := ?_) rfl (by kernel_rfl) (by kernel_rfl) (by kernel_rfl) (by kernel_rfl) (fun _ _ _ h => h) (Or.inl ⟨by rfl, ?_⟩) hHeld ?_
   rotate_left
   ·(intro X hSX;(try dsimp only at hSX);have g0 := hSX;go_simp;try with_reducible rfl)
   try simp only [Act.put,List.setIfInBounds_toArray,List.set_cons_zero,List.set_cons_succ]
   refine gt_take (i := 4) (v := ?_) rfl (by kernel_rfl) (by kernel_rfl) (by kernel_rfl) (by kernel_rfl) (fun _ _ _ h => h) (Or.inl ⟨by rfl, ?_⟩) hHeld ?_
   rotate_left
   ·(intro X hSX;(try dsimp only at hSX);have g0 := hSX;go_simp;try with_reducible rfl)
   try simp only [Act.put,List.setIfInBounds_toArray,List.set_cons_zero,List.set_cons_succ]
   refine gt_take (i := 5) (v := ?_) rfl (by kernel_rfl) (by kernel_rfl) (by kernel_rfl) (by kernel_rfl) (fun _ _ _ h => h) (Or.inl ⟨by rfl, ?_⟩) hHeld ?_
   rotate_left
   ·(intro X hSX;(try dsimp only at hSX);have g0 := hSX;go_simp;try with_reducible rfl)
   try simp only [Act.put,List.setIfInBounds_toArray,List.set_cons_zero,List.set_cons_succ]
   refine gt_take (i := 6) (v := ?_) rfl (by kernel_rfl) (by kernel_rfl) (by kernel_rfl) (by kernel_rfl) (fun _ _ _ h => h) (Or.inl ⟨by rfl, ?_⟩) hHeld ?_
   rotate_left
   ·(intro X hSX;(try dsimp only at hSX);have g0 := hSX;go_simp;try with_reducible rfl)
   try simp only [Act.put,List.setIfInBounds_toArray,List.set_cons_zero,List.set_cons_succ]
   refine gt_take (i := 7) (v := ?_) rfl (by kernel_rfl) (by kernel_rfl) (by kernel_rfl) (by kernel_rfl) (fun _ _ _ h => h) (Or.inl ⟨by rfl, ?_⟩) hHeld ?_
   rotate_left
   ·(intro X hSX;(try dsimp only at hSX);have g0 := hSX;go_simp;try with_reducible rfl)
   try simp only [Act.put,List.setIfInBounds_toArray,List.set_cons_zero,List.set_cons_succ]
   refine gt_take (i := 8) (v := ?_) rfl (by kernel_rfl) (by kernel_rfl) (by kernel_rfl) (by kernel_rfl) (fun _ _ _ h => h) (Or.inl ⟨by rfl, ?_⟩) hHeld ?_
   rotate_left
   ·(intro X hSX;(try dsimp only at hSX);have g0 := hSX;go_simp;try with_reducible rfl)
   try simp only [Act.put,List.setIfInBounds_toArray,List.set_cons_zero,List.set_cons_succ]
   refine gt_take (i := 9) (v := ?_) rfl (by kernel_rfl) (by kernel_rfl) (by kernel_rfl) (by kernel_rfl) (fun _ _ _ h => h) (Or.inl ⟨by rfl, ?_⟩) hHeld ?_
   rotate_left
   ·(intro X hSX;(try dsimp only at hSX);have g0 := hSX;go_simp;try with_reducible rfl)
   try simp only [Act.put,List.setIfInBounds_toArray,List.set_cons_zero,List.set_cons_succ]
   refine gt_one (i := 10) rfl (by kernel_rfl) (by kernel_rfl) (fun K hK => ?_)
   go_simp
   refine hK.out _ _ (KS _ (hbd.trans ((oneA16 wE.drew (.cells #[.int .i64 (s.length : Int)] 2)).mono hbd.size))) (fun hHeldN => ?_)
   clear hK hHeld
   have hHeld := hHeldN
   try simp only [Act.put,List.setIfInBounds_toArray,List.set_cons_zero,List.set_cons_succ]
   refine gt_one (i := 11) rfl (by kernel_rfl) (by kernel_rfl) (fun K hK => ?_)
   refine step_append_of (by rfl) _ _ _ _ (by rfl) (.slice sa s.length sc) _ (by rfl) (by rfl) hA ⟨rfl,rfl,rfl,rfl⟩ ?_
   rintro v9 w1 ⟨a1,e1,f1,rfl,k1,k2,k3⟩
   obtain ⟨q1,q2,M2⟩ := HSet.out w1 (icl (s ++ [(s.length : Int)])) (.slice a1 (s.length + 1) e1) f1 { m with sung := s ++ [(s.length : Int)] } rfl rfl k3 k1 k2
   have HM2 : Hid (Iw w0 (w1.setCell ⟨B,2,none⟩ (.slice a1 (s.length + 1) e1)) B { m with sung := s ++ [(s.length : Int)] } fp g off c) := M2
   refine hK.out _ _ q1 (fun hHeldN => ?_)
   clear hK hHeld
   have hHeld := hHeldN
   try simp only [Act.put,List.setIfInBounds_toArray,List.set_cons_zero,List.set_cons_succ]
   refine gt_one (i := 12) rfl (by kernel_rfl) (by kernel_rfl) (fun K hK => ?_)
   go_simp
   refine hK.out _ _ q1 (fun hHeldN => ?_)
   clear hK hHeld
   have hHeld := hHeldN
   try simp only [Act.put,List.setIfInBounds_toArray,List.set_cons_zero,List.set_cons_succ]
   refine gt_one (i := 13) rfl (by kernel_rfl) (by kernel_rfl) (fun K hK => ?_)
   go_simp
   refine hK.out _ _ q1 (fun hHeldN => ?_)
   clear hK hHeld
   have hHeld := hHeldN
   try simp only [Act.put,List.setIfInBounds_toArray,List.set_cons_zero,List.set_cons_succ]
   refine gt_last rfl (by kernel_rfl) (by kernel_rfl) (fun K hK => ?_)
   go_simp
   refine hK.out _ _ ?_
   clear hHeld hK M2 k1 k2 k3 hA HSet q1 q2 KS hbd hba hu2
   generalize w1.setCell ⟨B,2,none⟩ (.slice a1 (s.length + 1) e1) = W9 at *
   go_wp2
   go_roundg (60 - s.length)
   case measure => omega
   case rel => exact ⟨s ++ [(s.length : Int)],by simp;omega,by simp;omega,fun x hx => by
    rcases List.mem_append.1 hx with h | h
    ·exact hfs x h
    ·rw [List.mem_singleton.1 h];omega,HE.out,HM2.out⟩
end Go.Proofs.YthioodpmgifomaaGreat
namespace Go.Proofs.YthioodpmgifomaaGreat
set_option linter.unusedVariables false
set_option linter.unusedSimpArgs false
open Go.RowKit Go.Sort
theorem Iw.ownO {w X : World} {B : Nat} {m : Mb} {fp : Fp} {g off c : Nat} (h : Iw w X B m fp g off c) {i J : Nat} (hi : i < m.rows.length) (hJ : J < m.rows.length) (hne : J ≠ i) (hfit : FitR (rowN m.rows J)) : ∃ (f : Fp) (A : Ra),Plc X g (off + i * 8) (rw8 (rowN m.rows i)) f ∧ B ≠ g ∧ ¬ f B ∧ RV X g (off + J * 8) A (rowN m.rows J) ∧ (∀ b o,A.sa = some ⟨b,o,none⟩ → (rowN m.rows J).sus ≠ [] → ¬ f b ∧ b ≠ g) ∧ ∀ (X1 Y : World) (r : Rw),Below X.heap.size X X1 → Bcm X1 Y g (off + i * 8) (rw8 r) f → Iw w Y B { m with rows := m.rows.set i r } fp g off c := by
 obtain ⟨fp1,hp,hf1,hgo⟩ := h.bcm.next
 obtain ⟨g',off',c',f,f2,vs2,h1,hgB,hfs,hpl,hpv,hdis,hvl,hput⟩ := hp.elO (F := rw8) rw8_len (by omega) (j := 1) (L := m.rows) rfl (rowN_at hi) (rowN_at hJ) hne
 have e := Option.some.inj (h1.symm.trans h.rws)
 cases e
 have hfB : ¬ f B := fun hb => hp.nB (hfs B hb)
 obtain ⟨A,rfl,hl⟩ := rw8_ow hpv.own
 refine ⟨f,A,hpl,fun e => hgB e.symm,hfB,hpv.rv rfl hfit,fun b o e hn => ?_,fun X1 Y r hb hB => ?_⟩
 ·obtain ⟨u1,us1,q1,g1,e1,o1,l2,d1,i1⟩ := hl
  cases e1
  obtain ⟨u2,us2,q2,g2,e2,o2,l3,d2,i2⟩ := l2
  cases e2
  obtain ⟨u3,us3,q3,g3,e3,o3,l4,d3,i3⟩ := l3
  cases e3
  have hf2 : ∀ b,q3 b → f2 b := fun b hb => (i1 b).2 (.inr ((i2 b).2 (.inr ((i3 b).2 (.inl hb)))))
  have hlen : 0 < (rowN m.rows J).sus.length := by
   rcases Nat.eq_zero_or_pos (rowN m.rows J).sus.length with h | h
   ·exact absurd (List.eq_nil_of_length_eq_zero h) hn
   ·exact h
  obtain ⟨g1',o1',c1',ee,hq,_⟩ := ow_int_set o3 hlen
  rw [e] at ee
  cases ee
  exact ⟨hdis _ (hf2 _ hq),fun e => hpv.nB (e ▸ hf2 _ hq)⟩
 ·have hB1 := hB.first hb hpl.lt hpl.flt
  refine ⟨hgo Y _ rfl (hput Y r hB1), ?_⟩
  rw [World.cell?_of_block (hB1.wrt.block B hp.lt (fun kk => by rcases kk with kk | kk;exact hfB kk;exact hgB kk.symm)),h.rws]
  simp
set_option maxRecDepth 100000 in
set_option maxHeartbeats 1600000 in
theorem tkd_any (w0 : World) (B : Nat) (m : Mb) (i n : Nat) (fp : Fp) (g off c : Nat) (X : World) (M : Iw w0 X B m fp g off c) (ok : OkM m i n) :
  Calls Tryz.prog 136 #[.pointer (some ⟨B,0,none⟩)] X fun e w' => e = .returned (.tuple #[]) ∧ Iw w0 w' B { m with rows := m.rows.set i (learn m.rows i (rowN m.rows i) (leftN n (rowN m.rows i).sus)) } fp g off c := by
 have hil : i < m.rows.length := by rw [ok.len];exact ok.lt
 have hr := ok.ok i ok.lt
 have hn5 := ok.n5
 have hL := lft_any w0 B m i n fp g off c X M ok
 have HM : Hid (Iw w0 X B m fp g off c) := M
 have HLn : Hid (∀ k ∈ leftN n (rowN m.rows i).sus,k < n) := fun k hk => (mem_leftN.1 hk).1
 have hLL := leftN_len n (rowN m.rows i).sus
 generalize hLe : leftN n (rowN m.rows i).sus = L at *
 clear hLe M
 go_enter Tryz.func136,Tryz.ntmps136
 go_wp2_with fail
 refine hL.mono ?_
 rintro e wl ⟨la,lc,rfl,fl,hl1,hl2,hl3⟩
 obtain ⟨fp5,f1,f2,_,M5,f4⟩ := HM.out.sub hl3
 have HF4 : Hid (∀ (Y : World) (m' : Mb),Iw wl Y B m' fp5 g off c → Iw w0 Y B m' fp g off c) := f4
 have HM5 : Hid (Iw wl wl B m fp5 g off c) := M5
 have HL1 : Hid (Cel.ow wl (icl (lN L)) (.slice la (lN L).length lc) fl) := hl1
 have HFL : Hid (∀ b,fl b → ¬ fp5 b ∧ b ≠ B) := fun b hb => ⟨fun k => by have := f1 b k;have := hl2 b hb;omega,fun k => by have := hl2 b hb;omega⟩
 rw [lN_len] at HL1 ⊢
 clear hl1 hl2 hl3 f1 f2 f4 M5 hL HM
 go_wp2_with fail
 go_loopw [8] (fun v wr => ∃ (k : Nat) (ow : Rw),k ≤ L.length ∧ v = .int .i64 (k : Int) ∧ Hid (ow = learn m.rows i (rowN m.rows i) (L.take k)) ∧ Iw wl wr B { m with rows := m.rows.set i ow } fp5 g off c) (fun v _ => L.length - (intOf v).toNat)
 case atStart =>
  refine ⟨0,rowN m.rows i,Nat.zero_le _,rfl,rfl, ?_⟩
  have e : ({ m with rows := m.rows.set i (rowN m.rows i) } : Mb) = m := by
   have := set_sameA (rowN_at hil)
   rw [this]
  rw [e]
  exact HM5.out
 case round =>
  obtain ⟨k,ow,hk,rfl,hOw,M⟩ := hrel
  have HM : Hid (Iw wl wr B { m with rows := m.rows.set i ow } fp5 g off c) := M
  clear HM5
  by_cases hlt : k < L.length
  ·have hokw : OkR ow n := by rw [hOw.out];exact okR_learn ok.ok hr (fun x hx => HLn.out x (List.mem_of_mem_take hx))
   have hfm : FitM { m with rows := m.rows.set i ow } := fitM_set ok hokw
   have hJn : L.getD k 0 < n := HLn.out _ (getD_memN hlt)
   have hJl : L.getD k 0 < ({ m with rows := m.rows.set i ow } : Mb).rows.length := by rw [set_own,ok.len];exact hJn
   have hil2 : i < ({ m with rows := m.rows.set i ow } : Mb).rows.length := by rw [set_own];exact hil
   have hLc := M.cel HL1.out HFL.out
   have hLv := vec_of_ow (by rw [lN_len];exact hLc) (lN_fits HLn.out (by omega))
   rcases hLv.2.2 with hz | ⟨lb,lo,hla,hlc⟩
   ·rw [lN_len] at hz;omega
   have hlk := hlc k (by rw [lN_len];exact hlt)
   rw [el_lN hlt] at hlk
   have HTk : Hid (learn m.rows i (rowN m.rows i) (L.take (k + 1)) = learn1 i ow (L.getD k 0) (rowN m.rows (L.getD k 0))) := by rw [Hid,learn_take hlt,← hOw.out]
   have HRk : Hid (L.getD k 0 ≠ i → rowN (m.rows.set i ow) (L.getD k 0) = rowN m.rows (L.getD k 0)) := fun hne => by rw [rowN_set hil,if_neg hne]
   generalize L.getD k 0 = J at *
   have k1 : (k : Int) < (L.length : Int) := by omega
   have k0 : (0 : Int) ≤ (k : Int) := by omega
   have J0 : (0 : Int) ≤ (J : Int) := by omega
   have J1 : (J : Int) < (m.rows.length : Int) := by rw [ok.len];omega
   have hml : m.rows.length ≤ 5 := by rw [ok.len];exact hn5.2
   have crw := M.rws
   rw [set_own] at crw
   obtain ⟨c0,_⟩ := M.id'
   simp only at c0
   rw [ok.hid] at c0
   have hokr : OkR (rowN (m.rows.set i ow) J) n := by
    rw [rowN_set hil]
    split
    ·exact hokw
    ·exact ok.ok J hJn
   have hs2 : rowN (m.rows.set i ow) i = ow := rowN_self hil
   by_cases hJi : J = i
   ·-- itself: nothing
    subst hJi
    obtain ⟨AJ,⟨⟨d0,d1,d2,d3⟩,d4,d5,d6,d7⟩,_⟩ := M.row hfm hJl
    simp only at d0 d1 d2 d3 d4 d5 d6 d7
    have HT : Hid (ow = learn m.rows J (rowN m.rows J) (L.take (k + 1))) := by rw [Hid,HTk.out,learn1,if_pos (.inl rfl)]
    have e1 : ((J : Int) != (J : Int)) = false := by simp
    generalize rowN (m.rows.set J ow) J = r at *
    have hba := oneA16 wr (.cells #[.int .i64 r.ver,.slice AJ.ta r.txt.length AJ.tc,.slice AJ.ga r.got.length AJ.gc,.slice AJ.sa r.sus.length AJ.sc,.bool r.wed,.bool r.rdy,.int .i64 r.by_,.slice AJ.ma r.trm.length AJ.mc] 37)
    have HME : Hid (Iw wl (wr.alloc (.cells #[.int .i64 r.ver,.slice AJ.ta r.txt.length AJ.tc,.slice AJ.ga r.got.length AJ.gc,.slice AJ.sa r.sus.length AJ.sc,.bool r.wed,.bool r.rdy,.int .i64 r.by_,.slice AJ.ma r.trm.length AJ.mc] 37)) B { m with rows := m.rows.set J ow } fp5 g off c) := HM.out.step hba
    have b0 := (hba.cell (World.block_lt_of_cell? _ _ c0)).trans c0
    rw [hla]
    have HLA : Hid (la = some ⟨lb,lo,none⟩) := hla
    clear M hLc hLv hlc hba hla hs2 hokr
    go_upto_region 4 with fail
    generalize wr.alloc (.cells #[.int .i64 r.ver,.slice AJ.ta r.txt.length AJ.tc,.slice AJ.ga r.got.length AJ.gc,.slice AJ.sa r.sus.length AJ.sc,.bool r.wed,.bool r.rdy,.int .i64 r.by_,.slice AJ.ma r.trm.length AJ.mc] 37) = W5 at *
    clear d0 d1 d2 d3 d4 d5 d6 d7 crw c0 hlk
    go_wp2
    go_roundw
    case rel => exact ⟨k + 1,ow,by omega,by go_num,HT,HME.out⟩
    case measure => simp [intOf];omega
   obtain ⟨f,AJ,hpl,hBg,hfB,hRV,hvb,hput⟩ := M.ownO hil2 hJl hJi hokr.fit
   simp only at hpl hRV hvb hput
   rw [hs2] at hpl
   obtain ⟨⟨⟨d0,d1,d2,d3⟩,d4,d5,d6,d7⟩,hrs⟩ := hRV
   have hrJ := HRk.out hJi
   have HrJ : Hid (rowN (m.rows.set i ow) J = rowN m.rows J) := hrJ
   rw [← hrJ] at HTk
   generalize rowN (m.rows.set i ow) J = r at *
   have e1 : ((J : Int) != (i : Int)) = true := by simp;omega
   have hba := oneA16 wr (.cells #[.int .i64 r.ver,.slice AJ.ta r.txt.length AJ.tc,.slice AJ.ga r.got.length AJ.gc,.slice AJ.sa r.sus.length AJ.sc,.bool r.wed,.bool r.rdy,.int .i64 r.by_,.slice AJ.ma r.trm.length AJ.mc] 37)
   have hxr := Bx.new wr 37 #[.int .i64 r.ver,.slice AJ.ta r.txt.length AJ.tc,.slice AJ.ga r.got.length AJ.gc,.slice AJ.sa r.sus.length AJ.sc,.bool r.wed,.bool r.rdy,.int .i64 r.by_,.slice AJ.ma r.trm.length AJ.mc]
   have HBa : Hid (Below wr.heap.size wr (wr.alloc (.cells #[.int .i64 r.ver,.slice AJ.ta r.txt.length AJ.tc,.slice AJ.ga r.got.length AJ.gc,.slice AJ.sa r.sus.length AJ.sc,.bool r.wed,.bool r.rdy,.int .i64 r.by_,.slice AJ.ma r.trm.length AJ.mc] 37))) := hba
   have HXr : Hid (Bx (wr.alloc (.cells #[.int .i64 r.ver,.slice AJ.ta r.txt.length AJ.tc,.slice AJ.ga r.got.length AJ.gc,.slice AJ.sa r.sus.length AJ.sc,.bool r.wed,.bool r.rdy,.int .i64 r.by_,.slice AJ.ma r.trm.length AJ.mc] 37)) wr.heap.size 37 #[.int .i64 r.ver,.slice AJ.ta r.txt.length AJ.tc,.slice AJ.ga r.got.length AJ.gc,.slice AJ.sa r.sus.length AJ.sc,.bool r.wed,.bool r.rdy,.int .i64 r.by_,.slice AJ.ma r.trm.length AJ.mc]) := hxr
   have b0 := (hba.cell (World.block_lt_of_cell? _ _ c0)).trans c0
   have b1 := (hba.cell (World.block_lt_of_cell? _ _ crw)).trans crw
   have hWd := wdg_any B i m.rows.length g off c n ow f r.sus AJ.sa AJ.sc _ (hpl.below hba) hBg hfB b0 b1 hil (hrs.sus.below hba (Nat.le_refl _)) hvb hokw hokr.sus (by have := hokr.sl;have := hokr.n5;omega)
   have hWd2 : Calls Tryz.prog 121 #[.pointer (some ⟨B,0,none⟩),.slice AJ.sa r.sus.length AJ.sc] (wr.alloc (.cells #[.int .i64 r.ver,.slice AJ.ta r.txt.length AJ.tc,.slice AJ.ga r.got.length AJ.gc,.slice AJ.sa r.sus.length AJ.sc,.bool r.wed,.bool r.rdy,.int .i64 r.by_,.slice AJ.ma r.trm.length AJ.mc] 37)) fun e w' => e = .returned (.tuple #[]) ∧ Iw wl w' B { m with rows := m.rows.set i { ow with wed := true,sus := learnS i ow.sus r.sus } } fp5 g off c := hWd.mono (fun e w' h => ⟨h.1,by
    have := hput _ w' _ hba h.2
    simp only [List.set_set,wdR,List.take_length] at this
    exact this⟩)
   have HME : Hid (Iw wl (wr.alloc (.cells #[.int .i64 r.ver,.slice AJ.ta r.txt.length AJ.tc,.slice AJ.ga r.got.length AJ.gc,.slice AJ.sa r.sus.length AJ.sc,.bool r.wed,.bool r.rdy,.int .i64 r.by_,.slice AJ.ma r.trm.length AJ.mc] 37)) B { m with rows := m.rows.set i ow } fp5 g off c) := HM.out.step hba
   rw [hla]
   have HLA : Hid (la = some ⟨lb,lo,none⟩) := hla
   have HJi : Hid (J ≠ i) := hJi
   clear M hLc hLv hlc hba hxr hla hpl hput hvb hWd hrs hBg hfB hs2 hrJ
   go_upto_region 4 with fail
   generalize wr.alloc (.cells #[.int .i64 r.ver,.slice AJ.ta r.txt.length AJ.tc,.slice AJ.ga r.got.length AJ.gc,.slice AJ.sa r.sus.length AJ.sc,.bool r.wed,.bool r.rdy,.int .i64 r.by_,.slice AJ.ma r.trm.length AJ.mc] 37) = W5 at *
   clear d0 d1 d2 d3 d4 d5 d6 d7 crw c0 hlk hJi
   obtain ⟨⟨x0,x1,x2,x3⟩,x4,x5,x6,x7⟩ := Bx.r8 HXr.out
   by_cases hws : r.wed = false ∧ r.sus = []
   ·have HT : Hid (ow = learn m.rows i (rowN m.rows i) (L.take (k + 1))) := by rw [Hid,HTk.out,learn1,if_pos (.inr hws)]
    rw [hws.1] at x4
    have e3 : ¬ ((0 : Int) < (r.sus.length : Int)) := by rw [hws.2];simp
    clear hws
    go_wp2
    go_roundw
    case rel => exact ⟨k + 1,ow,by omega,by go_num,HT,HME.out⟩
    case measure => simp [intOf];omega
   have HT : Hid ({ ow with wed := true,sus := learnS i ow.sus r.sus } = learn m.rows i (rowN m.rows i) (L.take (k + 1))) := by rw [Hid,HTk.out,learn1,if_neg (by rintro (h | h);exact HJi.out h;exact hws h)]
   cases hwd : r.wed with
   | true =>
    rw [hwd] at x4
    clear hwd hws
    go_wp2_with (go_at_call 121;refine hWd2.mono ?_;rintro e w9 ⟨rfl,hM9⟩;have HM9 : Hid (Iw wl w9 B { m with rows := m.rows.set i { ow with wed := true,sus := learnS i ow.sus r.sus } } fp5 g off c) := hM9;clear hM9)
    go_roundw
    case rel => exact ⟨k + 1,_,by omega,by go_num,HT,HM9.out⟩
    case measure => simp [intOf];omega
   | false =>
    rw [hwd] at x4
    have e3 : (0 : Int) < (r.sus.length : Int) := by
     have : r.sus ≠ [] := fun h => hws ⟨hwd,h⟩
     have : r.sus.length ≠ 0 := fun h => this (List.eq_nil_of_length_eq_zero h)
     omega
    clear hwd hws
    go_wp2_with (go_at_call 121;refine hWd2.mono ?_;rintro e w9 ⟨rfl,hM9⟩;have HM9 : Hid (Iw wl w9 B { m with rows := m.rows.set i { ow with wed := true,sus := learnS i ow.sus r.sus } } fp5 g off c) := hM9;clear hM9)
    go_roundw
    case rel => exact ⟨k + 1,_,by omega,by go_num,HT,HM9.out⟩
    case measure => simp [intOf];omega
  ·have k1 : ¬ ((k : Int) < (L.length : Int)) := by omega
   have eo : ow = learn m.rows i (rowN m.rows i) L := by rw [hOw.out,show k = L.length by omega,List.take_length]
   have HF : Hid (Iw w0 wr B { m with rows := m.rows.set i (learn m.rows i (rowN m.rows i) L) } fp g off c) := by rw [Hid,← eo];exact HF4.out _ _ M
   clear M
   go_wp2
   first | go_end0 | go_ret
   exact ⟨rfl,HF.out⟩
end Go.Proofs.YthioodpmgifomaaGreat