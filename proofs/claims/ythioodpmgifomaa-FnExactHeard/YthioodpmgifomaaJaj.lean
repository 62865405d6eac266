/-
  Texts in one: Nmj Nmk Nml Nmm Nmn Nmo.
-/
import Derived.Test.YthioodpmgifomaaJai
import Derived.Test.YthioodpmgifomaaJaf
import Derived.Test.YthioodpmgifomaaJad
namespace Go.Proofs.Ythioodpmgifomaa
set_option linter.unusedVariables false
set_option linter.unusedSimpArgs false
open Go.RowKit Go.Sort
theorem ow_mb4 {w : World} {A : Ma} {m : Mb} {f : Fp} (h : owL w (mbCels m) (mbVals A m) f) : owL w (mb4 m) (imC A m).toList f := by
 obtain ⟨u1,us1,f1,g1,e1,o1,h2,d1,i1⟩ := h
 cases e1
 obtain ⟨u2,us2,f2,g2,e2,o2,h3,d2,i2⟩ := h2
 cases e2
 exact owL_v ⟨_,_,f1,g1,rfl,o1,⟨_,_,f2,g2,rfl,o2,owL_v h3,d2,i2⟩,d1,i1⟩
theorem mb4_ow {w : World} {m : Mb} {us : List Value} {f : Fp} (h : owL w (mb4 m) us f) : ∃ A : Ma,us = (imC A m).toList ∧ owL w (mbCels m) (mbVals A m) f := by
 obtain ⟨us0,rfl,hq1⟩ := owL_v' h
 obtain ⟨u1,us1,f1,g1,rfl,o1,h2,d1,i1⟩ := hq1
 obtain ⟨u2,us2,f2,g2,rfl,o2,h3,d2,i2⟩ := h2
 obtain ⟨us4,rfl,⟨rfl,h4⟩⟩ := owL_v' h3
 have o1' := o1
 obtain ⟨ra,rc,_,_,_,rfl,_⟩ := o1'
 obtain ⟨sa,sc,_,rfl,_⟩ := ow_icl.1 o2
 exact ⟨⟨ra,rc,sa,sc⟩,rfl,⟨_,_,f1,g1,rfl,o1,⟨_,_,f2,g2,rfl,o2,⟨rfl,h4⟩,d2,i2⟩,d1,i1⟩⟩
theorem Plc.c4 {w : World} {B : Nat} {m : Mb} {f : Fp} (h : Plc w B 0 (mb4 m) f) : ∃ A : Ma,C4 w B (.int .i64 m.id) (.slice A.ra m.rows.length A.rc) (.slice A.sa m.sung.length A.sc) (.bool m.done) ∧ (w.frozen? ⟨B,0,none⟩ = false ∧ w.frozen? ⟨B,1,none⟩ = false ∧ w.frozen? ⟨B,2,none⟩ = false ∧ w.frozen? ⟨B,3,none⟩ = false) ∧ owL w (mbCels m) (mbVals A m) f := by
 obtain ⟨vs,hpc,hov,_⟩ := h
 obtain ⟨A,rfl,hl⟩ := mb4_ow hov
 have hl4 : (imC A m).toList.length = 4 := rfl
 have c := hpc.cell
 have f := hpc.free
 exact ⟨A,⟨c 0 (by rw [hl4];omega),c 1 (by rw [hl4];omega),c 2 (by rw [hl4];omega),c 3 (by rw [hl4];omega)⟩,⟨f 0 (by rw [hl4];omega),f 1 (by rw [hl4];omega),f 2 (by rw [hl4];omega),f 3 (by rw [hl4];omega)⟩,hl⟩
theorem ibox_plc {w : World} {B : Nat} {T : TypeId} {A : Ma} {m : Mb} {fp : Fp} (h : Bx w B T (imC A m)) (hl : owL w (mbCels m) (mbVals A m) fp) (hB : ¬ fp B) : Plc w B 0 (mb4 m) fp := ⟨_,h.pc,ow_mb4 hl,hB⟩
set_option maxRecDepth 100000 in
set_option maxHeartbeats 800000 in
theorem tol_any (A : Ma) (m : Mb) (w : World) (hn : m.n = (m.rows.length : Int)) :
  Calls Try.prog 122 #[imV A m] w fun e w' => e = .returned (mbV A m) ∧ Below w.heap.size w w' := by
 have hmix := mixed17
 have hb1 := oneA16 w (.cells #[.int .i64 m.id,.slice A.ra m.rows.length A.rc,.slice A.sa m.sung.length A.sc,.bool m.done] 134)
 have hb2 := oneA16 (w.alloc (.cells #[.int .i64 m.id,.slice A.ra m.rows.length A.rc,.slice A.sa m.sung.length A.sc,.bool m.done] 134)) (.cells #[.int .i64 0,.int .i64 0,.slice none 0 0,.slice none 0 0,.bool false] 39)
 have hx1 : Bx ((w.alloc (.cells #[.int .i64 m.id,.slice A.ra m.rows.length A.rc,.slice A.sa m.sung.length A.sc,.bool m.done] 134)).alloc (.cells #[.int .i64 0,.int .i64 0,.slice none 0 0,.slice none 0 0,.bool false] 39)) w.heap.size 134 #[.int .i64 m.id,.slice A.ra m.rows.length A.rc,.slice A.sa m.sung.length A.sc,.bool m.done] := (Bx.new w _ _).alloc _
 have hx2 : Bx ((w.alloc (.cells #[.int .i64 m.id,.slice A.ra m.rows.length A.rc,.slice A.sa m.sung.length A.sc,.bool m.done] 134)).alloc (.cells #[.int .i64 0,.int .i64 0,.slice none 0 0,.slice none 0 0,.bool false] 39)) (w.heap.size + 1) 39 #[.int .i64 0,.int .i64 0,.slice none 0 0,.slice none 0 0,.bool false] := by
  have := Bx.new (w.alloc (.cells #[.int .i64 m.id,.slice A.ra m.rows.length A.rc,.slice A.sa m.sung.length A.sc,.bool m.done] 134)) 39 #[.int .i64 0,.int .i64 0,.slice none 0 0,.slice none 0 0,.bool false]
  simp only [World.size_alloc] at this
  exact this
 have hb12 : Below w.heap.size w ((w.alloc (.cells #[.int .i64 m.id,.slice A.ra m.rows.length A.rc,.slice A.sa m.sung.length A.sc,.bool m.done] 134)).alloc (.cells #[.int .i64 0,.int .i64 0,.slice none 0 0,.slice none 0 0,.bool false] 39)) := hb1.trans (hb2.mono hb1.size)
 unfold imV imC
 have HX2 : Hid (Bx ((w.alloc (.cells #[.int .i64 m.id,.slice A.ra m.rows.length A.rc,.slice A.sa m.sung.length A.sc,.bool m.done] 134)).alloc (.cells #[.int .i64 0,.int .i64 0,.slice none 0 0,.slice none 0 0,.bool false] 39)) (w.heap.size + 1) 39 #[.int .i64 0,.int .i64 0,.slice none 0 0,.slice none 0 0,.bool false]) := hx2
 have HB : Hid (Below w.heap.size w ((w.alloc (.cells #[.int .i64 m.id,.slice A.ra m.rows.length A.rc,.slice A.sa m.sung.length A.sc,.bool m.done] 134)).alloc (.cells #[.int .i64 0,.int .i64 0,.slice none 0 0,.slice none 0 0,.bool false] 39))) := hb12
 obtain ⟨c0,c1,c2,c3⟩ := Bx.r4 hx1
 have HN : Hid (m.n = (m.rows.length : Int)) := hn
 clear hb1 hb2 hx1 hx2 hb12 hn
 go_enter Try.func122,Try.ntmps122
 go_upto_region 1 with fail
 generalize ((w.alloc (.cells #[.int .i64 m.id,.slice A.ra m.rows.length A.rc,.slice A.sa m.sung.length A.sc,.bool m.done] 134)).alloc (.cells #[.int .i64 0,.int .i64 0,.slice none 0 0,.slice none 0 0,.bool false] 39)) = W0 at *
 have T : ∀ {x v},W0.cell? x = some v → ∀ q : Bk W0,q.w.cell? x = some v := fun h q => (q.h.cell (World.block_lt_of_cell? _ _ h)).trans h
 have y0 := T c0
 have y1 := T c1
 have y2 := T c2
 have y3 := T c3
 have hC : ∀ q : Bk W0,Calls Try.prog 128 #[.pointer (some ⟨w.heap.size,0,none⟩)] q.w fun e w' => e = .returned (.int .i64 (m.rows.length : Int)) ∧ Below q.w.heap.size q.w w' := fun q => (cnt_any w.heap.size A.ra m.rows.length A.rc q.w (y1 q)).mono (fun e w' h => ⟨h.1,by rw [h.2];exact Below.refl _ _⟩)
 clear T c0 c1 c2 c3
 refine wp_region_quiet_tail (C := fun w' => ∃ p : Bk W0,w' = p.w) 13 hmix (by kernel_rfl) ⟨⟨W0.drewN 1,belowN (Below.refl _ _)⟩,rfl⟩ ?_
 simp only [List.take_succ_cons,List.take_zero]
 repeat (go_big_quiet_step ((first | (go_at_call 128;exact bk_call _ (hC _)) | rfl)))
 refine wpQuiet_nil ?_
 intro wE hw'
 obtain ⟨⟨w11,hb11⟩,hw''⟩ := hw'
 have hwe : wE = w11 := hw''
 clear hw''
 subst hwe
 simp only [List.drop_succ_cons,List.drop_zero]
 have hR := HX2.out.below hb11
 have HB1 : Hid (Below w.heap.size w wE) := HB.out.trans (hb11.mono HB.out.size)
 obtain ⟨z0,z1,z2,z3,z4⟩ := Bx.r5 hR
 obtain ⟨f0,f1,f2,f3,f4⟩ := hR.f5
 clear y0 y1 y2 y3 hC hb11 hR HX2
 go_wp2
 refine bodyPost_ret (v := mbV A m) (by simp [results,Try.results122,go_sem,mbV,mbC,HN.out, *]) rfl ?_
 exact ⟨rfl,(wrt5 wE (w.heap.size + 1)).below HB1.out HB1.out.size (fun b e => by omega)⟩
set_option maxRecDepth 100000 in
set_option maxHeartbeats 800000 in
theorem wk1_any (F : Nat) (C : Array Value) (m : Mb) (B wb : Nat) (fp : Fp) (X : World) (R : Ending → World → Prop) (hE : ∀ (args : Array Value) (w : World),(callFunc F args).run Try.prog w = .ok (.enter F args) w) (h : Plc X B 0 (mb4 m) fp) (hw : X.cell? ⟨wb,0,none⟩ = some (.func (.func F) #[] C))
  (hF : m.done = false → Calls Try.prog F (#[.pointer (some ⟨B,0,none⟩)] ++ C) X R) (hD : m.done = true → ∀ e,Gu e → R e X) (hR : ∀ e w',R e w' → e = .returned (.tuple #[]) ∨ Gu e) :
  Calls Try.prog 120 #[.pointer (some ⟨B,0,none⟩),.pointer (some ⟨wb,0,none⟩)] X R := by
 obtain ⟨A,⟨c0,c1,c2,c3⟩,_,_⟩ := h.c4
 cases hd : m.done with
 | true =>
  have HD : Hid (∀ e,Gu e → R e X) := hD hd
  rw [hd] at c3
  clear hD hF hd h hR
  go_enter Try.func120,Try.ntmps120
  go_wp2_with (go_at_call 121;refine (wantF _).mono ?_;rintro e w' ⟨⟨T,v,rfl⟩,hw'⟩;rw [hw'];clear hw')
  exact ⟨rfl,HD.out _ ⟨_,_,rfl⟩⟩
 | false =>
  have hFF := hF hd
  rw [hd] at c3
  have HR : Hid (∀ e w',R e w' → e = .returned (.tuple #[]) ∨ Gu e) := hR
  clear hD hF hd h hR
  go_enter Try.func120,Try.ntmps120
  go_wp2_with (go_at_call 121;refine (wantT _).mono ?_;rintro e w' ⟨rfl,hw'⟩;rw [hw'];clear hw')
  refine hFF.mono ?_
  intro e w1 hRe
  rcases HR.out e w1 hRe with rfl | ⟨T,v,rfl⟩
  ·have HRe : Hid (R (.returned (.tuple #[])) w1) := hRe
   clear hRe hFF c0 c1 c2 c3
   go_wp2
   first | go_end0 | go_ret
   exact HRe.out
  ·exact ⟨rfl,hRe⟩
end Go.Proofs.Ythioodpmgifomaa
namespace Go.Proofs.Ythioodpmgifomaa
set_option linter.unusedVariables false
set_option linter.unusedSimpArgs false
open Go.RowKit Go.Sort
def wkdM (m m' : Mb) (flag : Bool) : Mb × Bool := if okMb m = true then (if m.done = true then (m,false) else if flag = true then (m',true) else (m,false)) else (zeroMb,false)
def WkR (X : World) (B : Nat) (fp : Fp) (m' : Mb) (b : Bool) (w' : World) : Prop := if b = true then Bcm X w' B 0 (mb4 m') fp else ∃ m1,Bcm X w' B 0 (mb4 m1) fp
theorem WkR.wrt {X w' : World} {B : Nat} {fp : Fp} {m' : Mb} {b : Bool} (h : WkR X B fp m' b w') : Wrt (fun x => fp x ∨ x = B) X w' := by
 unfold WkR at h
 split at h
 ·exact h.wrt
 ·obtain ⟨m1,h⟩ := h
  exact h.wrt
set_option maxRecDepth 100000 in
set_option maxHeartbeats 1600000 in
theorem wkd_any (F : Nat) (C : Array Value) (A : Ma) (m m' : Mb) (flag : Bool) (w : World) (hv : MbP w A m) (hE : ∀ (args : Array Value) (w : World),(callFunc F args).run Try.prog w = .ok (.enter F args) w)
  (hm' : okMb m = true → flag = true → m'.n = (m'.rows.length : Int))
  (hF : ∀ X B fp i n,Below w.heap.size w X → Plc X B 0 (mb4 m) fp → OkM m i n → m.done = false → Calls Try.prog F (#[.pointer (some ⟨B,0,none⟩)] ++ C) X fun e w' => (flag = true ∧ e = .returned (.tuple #[]) ∧ Bcm X w' B 0 (mb4 m') fp) ∨ (flag = false ∧ Gu e ∧ ∃ m1,Bcm X w' B 0 (mb4 m1) fp)) :
  Calls Try.prog 74 #[mbV A m,.func (.func F) #[] C] w fun e w' => AnsMf w w' e (wkdM m m' flag).1 (wkdM m m' flag).2 := by
 have hmf : ∀ (fn : Fn) (first cap : Array Value) (w : World),(Instr.makeFunc fn first cap).run Try.prog w = .ok (.func fn first cap) w := fun _ _ _ _ => rfl
 have hb1 := oneA16 w (.cells #[.int .i64 m.id,.int .i64 m.n,.slice A.ra m.rows.length A.rc,.slice A.sa m.sung.length A.sc,.bool m.done] 39)
 have hb2 := oneA16 (w.alloc (.cells #[.int .i64 m.id,.int .i64 m.n,.slice A.ra m.rows.length A.rc,.slice A.sa m.sung.length A.sc,.bool m.done] 39)) (.cells #[.func (.func F) #[] C] 100)
 have hb3 := oneA16 ((w.alloc (.cells #[.int .i64 m.id,.int .i64 m.n,.slice A.ra m.rows.length A.rc,.slice A.sa m.sung.length A.sc,.bool m.done] 39)).alloc (.cells #[.func (.func F) #[] C] 100)) (.cells #[.int .i64 0,.int .i64 0,.slice none 0 0,.slice none 0 0,.bool false] 39)
 have hx1 : Bx (((w.alloc (.cells #[.int .i64 m.id,.int .i64 m.n,.slice A.ra m.rows.length A.rc,.slice A.sa m.sung.length A.sc,.bool m.done] 39)).alloc (.cells #[.func (.func F) #[] C] 100)).alloc (.cells #[.int .i64 0,.int .i64 0,.slice none 0 0,.slice none 0 0,.bool false] 39)) w.heap.size 39 #[.int .i64 m.id,.int .i64 m.n,.slice A.ra m.rows.length A.rc,.slice A.sa m.sung.length A.sc,.bool m.done] := ((Bx.new w _ _).alloc _).alloc _
 have hx2 : Bx (((w.alloc (.cells #[.int .i64 m.id,.int .i64 m.n,.slice A.ra m.rows.length A.rc,.slice A.sa m.sung.length A.sc,.bool m.done] 39)).alloc (.cells #[.func (.func F) #[] C] 100)).alloc (.cells #[.int .i64 0,.int .i64 0,.slice none 0 0,.slice none 0 0,.bool false] 39)) (w.heap.size + 1) 100 #[.func (.func F) #[] C] := by
  have := (Bx.new (w.alloc (.cells #[.int .i64 m.id,.int .i64 m.n,.slice A.ra m.rows.length A.rc,.slice A.sa m.sung.length A.sc,.bool m.done] 39)) 100 #[.func (.func F) #[] C]).alloc (.cells #[.int .i64 0,.int .i64 0,.slice none 0 0,.slice none 0 0,.bool false] 39)
  simp only [World.size_alloc] at this
  exact this
 have hx3 : Bx (((w.alloc (.cells #[.int .i64 m.id,.int .i64 m.n,.slice A.ra m.rows.length A.rc,.slice A.sa m.sung.length A.sc,.bool m.done] 39)).alloc (.cells #[.func (.func F) #[] C] 100)).alloc (.cells #[.int .i64 0,.int .i64 0,.slice none 0 0,.slice none 0 0,.bool false] 39)) (w.heap.size + 1 + 1) 39 #[.int .i64 0,.int .i64 0,.slice none 0 0,.slice none 0 0,.bool false] := by
  have := Bx.new ((w.alloc (.cells #[.int .i64 m.id,.int .i64 m.n,.slice A.ra m.rows.length A.rc,.slice A.sa m.sung.length A.sc,.bool m.done] 39)).alloc (.cells #[.func (.func F) #[] C] 100)) 39 #[.int .i64 0,.int .i64 0,.slice none 0 0,.slice none 0 0,.bool false]
  simp only [World.size_alloc] at this
  exact this
 have hb12 := hb1.trans (hb2.mono hb1.size)
 have hb13 : Below w.heap.size w (((w.alloc (.cells #[.int .i64 m.id,.int .i64 m.n,.slice A.ra m.rows.length A.rc,.slice A.sa m.sung.length A.sc,.bool m.done] 39)).alloc (.cells #[.func (.func F) #[] C] 100)).alloc (.cells #[.int .i64 0,.int .i64 0,.slice none 0 0,.slice none 0 0,.bool false] 39)) := hb12.trans (hb3.mono hb12.size)
 have hM0 := memI_any A m (((w.alloc (.cells #[.int .i64 m.id,.int .i64 m.n,.slice A.ra m.rows.length A.rc,.slice A.sa m.sung.length A.sc,.bool m.done] 39)).alloc (.cells #[.func (.func F) #[] C] 100)).alloc (.cells #[.int .i64 0,.int .i64 0,.slice none 0 0,.slice none 0 0,.bool false] 39)) (hv.below hb13)
 unfold mbV mbC at *
 have HX1 : Hid (Bx (((w.alloc (.cells #[.int .i64 m.id,.int .i64 m.n,.slice A.ra m.rows.length A.rc,.slice A.sa m.sung.length A.sc,.bool m.done] 39)).alloc (.cells #[.func (.func F) #[] C] 100)).alloc (.cells #[.int .i64 0,.int .i64 0,.slice none 0 0,.slice none 0 0,.bool false] 39)) w.heap.size 39 #[.int .i64 m.id,.int .i64 m.n,.slice A.ra m.rows.length A.rc,.slice A.sa m.sung.length A.sc,.bool m.done]) := hx1
 have HX2 : Hid (Bx (((w.alloc (.cells #[.int .i64 m.id,.int .i64 m.n,.slice A.ra m.rows.length A.rc,.slice A.sa m.sung.length A.sc,.bool m.done] 39)).alloc (.cells #[.func (.func F) #[] C] 100)).alloc (.cells #[.int .i64 0,.int .i64 0,.slice none 0 0,.slice none 0 0,.bool false] 39)) (w.heap.size + 1) 100 #[.func (.func F) #[] C]) := hx2
 have HX3 : Hid (Bx (((w.alloc (.cells #[.int .i64 m.id,.int .i64 m.n,.slice A.ra m.rows.length A.rc,.slice A.sa m.sung.length A.sc,.bool m.done] 39)).alloc (.cells #[.func (.func F) #[] C] 100)).alloc (.cells #[.int .i64 0,.int .i64 0,.slice none 0 0,.slice none 0 0,.bool false] 39)) (w.heap.size + 1 + 1) 39 #[.int .i64 0,.int .i64 0,.slice none 0 0,.slice none 0 0,.bool false]) := hx3
 have HB0 : Hid (Below w.heap.size w (((w.alloc (.cells #[.int .i64 m.id,.int .i64 m.n,.slice A.ra m.rows.length A.rc,.slice A.sa m.sung.length A.sc,.bool m.done] 39)).alloc (.cells #[.func (.func F) #[] C] 100)).alloc (.cells #[.int .i64 0,.int .i64 0,.slice none 0 0,.slice none 0 0,.bool false] 39))) := hb13
 have HV : Hid (MbP w A m) := hv
 obtain ⟨c0,c1,c2,c3,c4⟩ := Bx.r5 hx1
 clear hb1 hb2 hb3 hx1 hx2 hx3 hb12 hb13 hv
 cases hok : okMb m with
 | false =>
  have HZ : Hid (wkdM m m' flag = (zeroMb,false)) := by rw [Hid,wkdM,if_neg (by rw [hok];decide)]
  rw [hok] at hM0
  clear hok hm' hF
  go_enter Try.func74,Try.ntmps74
  go_wp2_with fail
  generalize (((w.alloc (.cells #[.int .i64 m.id,.int .i64 m.n,.slice A.ra m.rows.length A.rc,.slice A.sa m.sung.length A.sc,.bool m.done] 39)).alloc (.cells #[.func (.func F) #[] C] 100)).alloc (.cells #[.int .i64 0,.int .i64 0,.slice none 0 0,.slice none 0 0,.bool false] 39)) = W0 at *
  refine hM0.mono ?_
  rintro e w1 ⟨rfl,hb1⟩
  have hR := HX3.out.below hb1
  have HB1 : Hid (Below w.heap.size w w1) := HB0.out.trans (hb1.mono HB0.out.size)
  obtain ⟨z0,z1,z2,z3,z4⟩ := Bx.r5 hR
  obtain ⟨f0,f1,f2,f3,f4⟩ := hR.f5
  clear hR hb1 c0 c1 c2 c3 c4 hM0
  go_wp2
  refine bodyPost_ret (v := .tuple #[mbV ⟨none,0,none,0⟩ zeroMb,.bool false]) (by simp [results,Try.results74,go_sem,mbV,mbC,zeroMb, *]) rfl ?_
  rw [HZ.out]
  exact ⟨_,rfl,ansM_zero ((wrt5 w1 (w.heap.size + 1 + 1)).below HB1.out HB1.out.size (fun b h => by omega))⟩
 | true =>
 obtain ⟨i,n,ok⟩ := okMb_iff.1 hok
 have HZ : Hid (wkdM m m' flag = if m.done = true then (m,false) else if flag = true then (m',true) else (m,false)) := by rw [Hid,wkdM,if_pos hok]
 have HM' : Hid (flag = true → m'.n = (m'.rows.length : Int)) := hm' hok
 have HMn : Hid (m.n = (m.rows.length : Int)) := by rw [Hid,ok.hn,ok.len]
 rw [hok] at hM0
 have HF : Hid (∀ X B fp i n,Below w.heap.size w X → Plc X B 0 (mb4 m) fp → OkM m i n → m.done = false → Calls Try.prog F (#[.pointer (some ⟨B,0,none⟩)] ++ C) X fun e w' => (flag = true ∧ e = .returned (.tuple #[]) ∧ Bcm X w' B 0 (mb4 m') fp) ∨ (flag = false ∧ Gu e ∧ ∃ m1,Bcm X w' B 0 (mb4 m1) fp)) := hF
 clear hok hm' hF
 go_enter Try.func74,Try.ntmps74
 go_wp2_with fail
 generalize (((w.alloc (.cells #[.int .i64 m.id,.int .i64 m.n,.slice A.ra m.rows.length A.rc,.slice A.sa m.sung.length A.sc,.bool m.done] 39)).alloc (.cells #[.func (.func F) #[] C] 100)).alloc (.cells #[.int .i64 0,.int .i64 0,.slice none 0 0,.slice none 0 0,.bool false] 39)) = W0 at *
 refine hM0.mono ?_
 rintro e w1 ⟨rfl,hb1⟩
 have HB1 : Hid (Below w.heap.size w w1) := HB0.out.trans (hb1.mono HB0.out.size)
 have HY1 : Hid (Bx w1 w.heap.size 39 #[.int .i64 m.id,.int .i64 m.n,.slice A.ra m.rows.length A.rc,.slice A.sa m.sung.length A.sc,.bool m.done]) := HX1.out.below hb1
 have HY2 : Hid (Bx w1 (w.heap.size + 1) 100 #[.func (.func F) #[] C]) := HX2.out.below hb1
 have HY3 : Hid (Bx w1 (w.heap.size + 1 + 1) 39 #[.int .i64 0,.int .i64 0,.slice none 0 0,.slice none 0 0,.bool false]) := HX3.out.below hb1
 clear hb1 c0 c1 c2 c3 c4 hM0 HX1 HX2 HX3 HB0
 have hMo := mof_any A m i n w1 (HV.out.below HB1.out) ok
 unfold mbV mbC at hMo
 obtain ⟨c0,c1,c2,c3,c4⟩ := Bx.r5 HY1.out
 go_wp2_with fail
 refine hMo.mono ?_
 rintro e w2 ⟨A2,rfl,fp,hl2,hf2,hb2⟩
 unfold imV imC
 have HB2 : Hid (Below w.heap.size w w2) := HB1.out.trans (hb2.mono HB1.out.size)
 have HZ1 : Hid (Bx w2 w.heap.size 39 #[.int .i64 m.id,.int .i64 m.n,.slice A.ra m.rows.length A.rc,.slice A.sa m.sung.length A.sc,.bool m.done]) := HY1.out.below hb2
 have HZ2 : Hid (Bx w2 (w.heap.size + 1) 100 #[.func (.func F) #[] C]) := HY2.out.below hb2
 have HZ3 : Hid (Bx w2 (w.heap.size + 1 + 1) 39 #[.int .i64 0,.int .i64 0,.slice none 0 0,.slice none 0 0,.bool false]) := HY3.out.below hb2
 have hlt2 := owL_lt hl2
 have hw1 := HY3.out.lt
 have hs2 := hb2.size
 clear c0 c1 c2 c3 c4 hMo
 -- the copy lies in a box of its own
 have hba := oneA16 w2 (.cells #[.int .i64 m.id,.slice A2.ra m.rows.length A2.rc,.slice A2.sa m.sung.length A2.sc,.bool m.done] 134)
 have hxb := Bx.new w2 134 #[.int .i64 m.id,.slice A2.ra m.rows.length A2.rc,.slice A2.sa m.sung.length A2.sc,.bool m.done]
 have hP3 : Plc (w2.alloc (.cells #[.int .i64 m.id,.slice A2.ra m.rows.length A2.rc,.slice A2.sa m.sung.length A2.sc,.bool m.done] 134)) w2.heap.size 0 (mb4 m) fp := ibox_plc hxb (owL_below hl2 hba) (fun k => by have := hlt2 _ k;omega)
 have HB3 : Hid (Below w.heap.size w (w2.alloc (.cells #[.int .i64 m.id,.slice A2.ra m.rows.length A2.rc,.slice A2.sa m.sung.length A2.sc,.bool m.done] 134))) := HB2.out.trans (hba.mono HB2.out.size)
 have HU1 : Hid (Bx (w2.alloc (.cells #[.int .i64 m.id,.slice A2.ra m.rows.length A2.rc,.slice A2.sa m.sung.length A2.sc,.bool m.done] 134)) w.heap.size 39 #[.int .i64 m.id,.int .i64 m.n,.slice A.ra m.rows.length A.rc,.slice A.sa m.sung.length A.sc,.bool m.done]) := HZ1.out.below hba
 have HU2 : Hid (Bx (w2.alloc (.cells #[.int .i64 m.id,.slice A2.ra m.rows.length A2.rc,.slice A2.sa m.sung.length A2.sc,.bool m.done] 134)) (w.heap.size + 1) 100 #[.func (.func F) #[] C]) := HZ2.out.below hba
 have HU3 : Hid (Bx (w2.alloc (.cells #[.int .i64 m.id,.slice A2.ra m.rows.length A2.rc,.slice A2.sa m.sung.length A2.sc,.bool m.done] 134)) (w.heap.size + 1 + 1) 39 #[.int .i64 0,.int .i64 0,.slice none 0 0,.slice none 0 0,.bool false]) := HZ3.out.below hba
 have hB3 : w2.heap.size < (w2.alloc (.cells #[.int .i64 m.id,.slice A2.ra m.rows.length A2.rc,.slice A2.sa m.sung.length A2.sc,.bool m.done] 134)).heap.size := hxb.lt
 have hfl : ∀ b,fp b → w.heap.size + 1 + 1 < b ∧ b < w2.heap.size := fun b hb => ⟨by have := hf2 b hb;omega,hlt2 b hb⟩
 clear hxb hl2 hf2 hlt2 hb2 hba HY1 HY2 HY3 HZ1 HZ2 HZ3
 go_upto_region 4 with fail
 generalize w2.alloc (.cells #[.int .i64 m.id,.slice A2.ra m.rows.length A2.rc,.slice A2.sa m.sung.length A2.sc,.bool m.done] 134) = V3 at *
 generalize w2.heap.size = B at *
 have hbt := oneA16 V3 (.cells #[.bool false] 4)
 have hP4 := hP3.below hbt
 have hB4 : Below w.heap.size w (V3.alloc (.cells #[.bool false] 4)) := HB3.out.trans (hbt.mono HB3.out.size)
 have hw4 := (HU2.out.below hbt).at 0 (v := .func (.func F) #[] C) rfl
 have hsz4 : V3.heap.size < (V3.alloc (.cells #[.bool false] 4)).heap.size := (Bx.new V3 4 #[.bool false]).lt
 have hT := told_any 120 #[] #[.pointer (some ⟨B,0,none⟩),.pointer (some ⟨w.heap.size + 1,0,none⟩)] V3 (fun b X => b = (!m.done && flag) ∧ WkR (V3.alloc (.cells #[.bool false] 4)) B fp m' b X) (fun _ _ => enters_of Try.func120 (by kernel_rfl) rfl _ _)
  ((wk1_any F C m B (w.heap.size + 1) fp _ (fun e w' => (m.done = false ∧ flag = true ∧ e = .returned (.tuple #[]) ∧ Bcm (V3.alloc (.cells #[.bool false] 4)) w' B 0 (mb4 m') fp) ∨ ((m.done = true ∨ flag = false) ∧ Gu e ∧ ∃ m1,Bcm (V3.alloc (.cells #[.bool false] 4)) w' B 0 (mb4 m1) fp)) hE hP4 hw4 (fun hd => (HF.out _ B fp i n hB4 hP4 ok hd).mono (fun e w' h => by
   rcases h with ⟨h1,h2,h3⟩ | ⟨h1,h2,h3⟩
   ·exact .inl ⟨hd,h1,h2,h3⟩
   ·exact .inr ⟨.inr h1,h2,h3⟩)) (fun hd e hg => .inr ⟨.inl hd,hg,m,Bcm.refl hP4⟩) (fun e w' h => by
   rcases h with ⟨_,_,h,_⟩ | ⟨_,h,_⟩
   ·exact .inl h
   ·exact .inr h)).mono (fun e w' h => by
   rcases h with ⟨h1,h2,h3,h4⟩ | ⟨h1,h2,h3⟩
   ·exact .inl ⟨h3,by rw [h1,h2];rfl,by unfold WkR;rw [if_pos rfl];exact h4⟩
   ·refine .inr ⟨h2, ?_,by unfold WkR;rw [if_neg (by decide)];exact h3⟩
    rcases h1 with h1 | h1 <;> rw [h1] <;> simp)) (fun b X h => (Bx.new V3 4 #[.bool false]).wrt h.2.wrt (fun k => by rcases k with k | k;have := hfl _ k;omega;omega))
 clear hP3 hbt hP4 hB4 hw4
 have HU1' := HU1
 go_wp2_with fail
 refine hT.mono ?_
 rintro e Y ⟨b,X,rfl,⟨hbv,hWk⟩,hWt⟩
 have hWX := hWk.wrt
 have hX0 : Below w.heap.size w (V3.alloc (.cells #[.bool false] 4)) := HB3.out.trans ((oneA16 V3 _).mono HB3.out.size)
 have hBX : Below w.heap.size w X := hWX.below hX0 hX0.size (fun x hx => by rcases hx with hx | hx;have := hfl x hx;omega;omega)
 have hBY : Below w.heap.size w Y := hWt.below hBX hBX.size (fun x hx => by have := HB3.out.size;omega)
 have keep : ∀ {k : Nat} {T : TypeId} {cs : Array Value},k < w.heap.size + 1 + 1 + 1 → Bx V3 k T cs → Bx Y k T cs := fun {k T cs} hk hx => ((hx.alloc (.cells #[.bool false] 4)).wrt hWX (fun kk => by rcases kk with kk | kk;have := hfl _ kk;omega;omega)).wrt hWt (fun kk => by omega)
 have HT1 : Hid (Bx Y w.heap.size 39 #[.int .i64 m.id,.int .i64 m.n,.slice A.ra m.rows.length A.rc,.slice A.sa m.sung.length A.sc,.bool m.done]) := keep (by omega) HU1.out
 have HT3 : Hid (Bx Y (w.heap.size + 1 + 1) 39 #[.int .i64 0,.int .i64 0,.slice none 0 0,.slice none 0 0,.bool false]) := keep (by omega) HU3.out
 have hsz : (V3.alloc (.cells #[.bool false] 4)).heap.size = V3.heap.size + 1 := World.size_alloc _ _
 have hpl : ∃ (mm : Mb) (fp1 : Fp),Plc Y B 0 (mb4 mm) fp1 ∧ (∀ x,fp1 x → w.heap.size + 1 + 1 < x) ∧ (b = true → mm = m') := by
  have key : ∀ mm,Bcm (V3.alloc (.cells #[.bool false] 4)) X B 0 (mb4 mm) fp → ∃ fp1,Plc Y B 0 (mb4 mm) fp1 ∧ ∀ x,fp1 x → w.heap.size + 1 + 1 < x := fun mm hb => by
   obtain ⟨fp1,h1,h2⟩ := hb.plc
   have h3 : ∀ x,fp1 x → w.heap.size + 1 + 1 < x ∧ x ≠ V3.heap.size := fun x hx => by
    rcases h2 x hx with k | k
    ·have := hfl x k;omega
    ·have := HB3.out.size;omega
   exact ⟨fp1,h1.wrt hWt (fun x hx e => by rcases hx with hx | hx;exact (h3 x hx).2 e;omega),fun x hx => (h3 x hx).1⟩
  unfold WkR at hWk
  cases b with
  | true =>
   rw [if_pos rfl] at hWk
   obtain ⟨fp1,h1,h2⟩ := key m' hWk
   exact ⟨m',fp1,h1,h2,fun _ => rfl⟩
  | false =>
   rw [if_neg (by decide)] at hWk
   obtain ⟨m1,hWk⟩ := hWk
   obtain ⟨fp1,h1,h2⟩ := key m1 hWk
   exact ⟨m1,fp1,h1,h2,fun h => by cases h⟩
 obtain ⟨mm,fp1,hPY,hf1,hmm⟩ := hpl
 have HBY : Hid (Below w.heap.size w Y) := hBY
 have hBl := hPY.lt
 obtain ⟨A3,⟨y0,y1,y2,y3⟩,⟨q0,q1,q2,q3⟩,hl3⟩ := hPY.c4
 clear hT hWk hWX hX0 hBX hBY keep hWt HU1 HU1' HU2 HU3 hPY hsz
 cases b with
 | true =>
  have hmm' := hmm rfl
  subst hmm'
  have hdf : m.done = false ∧ flag = true := by
   cases hd : m.done <;> cases hf : flag <;> rw [hd,hf] at hbv <;> simp at hbv ⊢
  have HZf : Hid (wkdM m mm flag = (mm,true)) := by rw [Hid,HZ.out,if_neg (by rw [hdf.1];decide),if_pos hdf.2]
  have hTo := tol_any A3 mm Y (HM'.out hdf.2)
  unfold imV imC at hTo
  clear hmm hbv hdf q0 q1 q2 q3
  go_wp2_with fail
  refine hTo.mono ?_
  rintro e Y2 ⟨rfl,hb2⟩
  have hR := HT3.out.below hb2
  have HN : Hid (∀ {z0 z1 z2 z3 z4 : Value},NewL w (((((Y2.setCell ⟨w.heap.size + 1 + 1,0,none⟩ z0).setCell ⟨w.heap.size + 1 + 1,1,none⟩ z1).setCell ⟨w.heap.size + 1 + 1,2,none⟩ z2).setCell ⟨w.heap.size + 1 + 1,3,none⟩ z3).setCell ⟨w.heap.size + 1 + 1,4,none⟩ z4) (mbCels mm) (mbVals A3 mm)) := fun {z0 z1 z2 z3 z4} => by
   have hB2 : Below w.heap.size w Y2 := HBY.out.trans (hb2.mono HBY.out.size)
   exact ⟨fp1,owL_wrt (owL_below hl3 hb2) (wrt5 Y2 (w.heap.size + 1 + 1)) (fun x hx e => by have := hf1 x hx;omega),fun x hx => by have := hf1 x hx;omega,(wrt5 Y2 (w.heap.size + 1 + 1)).below hB2 hB2.size (fun x e => by omega)⟩
  unfold mbV mbC
  obtain ⟨z0,z1,z2,z3,z4⟩ := Bx.r5 hR
  obtain ⟨r0,r1,r2,r3,r4⟩ := hR.f5
  clear hTo hR hb2 hl3 y0 y1 y2 y3
  go_wp2
  refine bodyPost_ret (v := .tuple #[mbV A3 mm,.bool true]) (by simp [results,Try.results74,go_sem,mbV,mbC, *]) rfl ?_
  rw [HZf.out]
  exact ⟨_,rfl,HN.out⟩
 | false =>
  have HZf : Hid (wkdM m m' flag = (m,false)) := by
   rw [Hid,HZ.out]
   cases hd : m.done <;> cases hf : flag <;> rw [hd,hf] at hbv <;> simp at hbv ⊢
  have hMo := mof_any A m i n Y (HV.out.below HBY.out) ok
  unfold mbV mbC at hMo
  obtain ⟨c0,c1,c2,c3,c4⟩ := Bx.r5 HT1.out
  have HQ : Hid (∀ Z,Below Y.heap.size Y Z → (∃ v0 v1 v2 v3,Z.cell? ⟨B,0,none⟩ = some v0 ∧ Z.cell? ⟨B,1,none⟩ = some v1 ∧ Z.cell? ⟨B,2,none⟩ = some v2 ∧ Z.cell? ⟨B,3,none⟩ = some v3) ∧ Z.frozen? ⟨B,0,none⟩ = false ∧ Z.frozen? ⟨B,1,none⟩ = false ∧ Z.frozen? ⟨B,2,none⟩ = false ∧ Z.frozen? ⟨B,3,none⟩ = false) := fun Z hZ => by
   have e := hZ.block B hBl
   have t : ∀ {j v},Y.cell? ⟨B,j,none⟩ = some v → Z.cell? ⟨B,j,none⟩ = some v := fun h => (World.cell?_of_block e).trans h
   have u : ∀ {j},Y.frozen? ⟨B,j,none⟩ = false → Z.frozen? ⟨B,j,none⟩ = false := fun h => by simp only [World.frozen?,e] at h ⊢;exact h
   exact ⟨⟨_,_,_,_,t y0,t y1,t y2,t y3⟩,u q0,u q1,u q2,u q3⟩
  clear hmm hbv q0 q1 q2 q3 y0 y1 y2 y3 hl3
  go_wp2_with fail
  refine hMo.mono ?_
  rintro e Y1 ⟨A4,rfl,fp4,hl4,hf4,hb4⟩
  unfold imV imC
  obtain ⟨⟨v0,v1,v2,v3,g0,g1,g2,g3⟩,p0,p1,p2,p3⟩ := HQ.out Y1 hb4
  have hsY := hb4.size
  have hW4 : Wrt (fun x => x = B) Y1 ((((Y1.setCell ⟨B,0,none⟩ (.int .i64 m.id)).setCell ⟨B,1,none⟩ (.slice A4.ra m.rows.length A4.rc)).setCell ⟨B,2,none⟩ (.slice A4.sa m.sung.length A4.sc)).setCell ⟨B,3,none⟩ (.bool m.done)) := wrt4 Y1 B
  have hl5 : owL ((((Y1.setCell ⟨B,0,none⟩ (.int .i64 m.id)).setCell ⟨B,1,none⟩ (.slice A4.ra m.rows.length A4.rc)).setCell ⟨B,2,none⟩ (.slice A4.sa m.sung.length A4.sc)).setCell ⟨B,3,none⟩ (.bool m.done)) (mbCels m) (mbVals A4 m) fp4 := owL_wrt hl4 hW4 (fun x hx e => by have := hf4 x hx;omega)
  have HB5 : Hid (Below w.heap.size w ((((Y1.setCell ⟨B,0,none⟩ (.int .i64 m.id)).setCell ⟨B,1,none⟩ (.slice A4.ra m.rows.length A4.rc)).setCell ⟨B,2,none⟩ (.slice A4.sa m.sung.length A4.sc)).setCell ⟨B,3,none⟩ (.bool m.done))) := hW4.below (HBY.out.trans (hb4.mono HBY.out.size)) (HBY.out.trans (hb4.mono HBY.out.size)).size (fun x e => by omega)
  have hT5 : Bx ((((Y1.setCell ⟨B,0,none⟩ (.int .i64 m.id)).setCell ⟨B,1,none⟩ (.slice A4.ra m.rows.length A4.rc)).setCell ⟨B,2,none⟩ (.slice A4.sa m.sung.length A4.sc)).setCell ⟨B,3,none⟩ (.bool m.done)) (w.heap.size + 1 + 1) 39 #[.int .i64 0,.int .i64 0,.slice none 0 0,.slice none 0 0,.bool false] := (HT3.out.below hb4).wrt hW4 (fun e => by omega)
  have HT5 : Hid (Bx ((((Y1.setCell ⟨B,0,none⟩ (.int .i64 m.id)).setCell ⟨B,1,none⟩ (.slice A4.ra m.rows.length A4.rc)).setCell ⟨B,2,none⟩ (.slice A4.sa m.sung.length A4.sc)).setCell ⟨B,3,none⟩ (.bool m.done)) (w.heap.size + 1 + 1) 39 #[.int .i64 0,.int .i64 0,.slice none 0 0,.slice none 0 0,.bool false]) := hT5
  have HL5 : Hid (owL ((((Y1.setCell ⟨B,0,none⟩ (.int .i64 m.id)).setCell ⟨B,1,none⟩ (.slice A4.ra m.rows.length A4.rc)).setCell ⟨B,2,none⟩ (.slice A4.sa m.sung.length A4.sc)).setCell ⟨B,3,none⟩ (.bool m.done)) (mbCels m) (mbVals A4 m) fp4) := hl5
  have x0 : ((((Y1.setCell ⟨B,0,none⟩ (.int .i64 m.id)).setCell ⟨B,1,none⟩ (.slice A4.ra m.rows.length A4.rc)).setCell ⟨B,2,none⟩ (.slice A4.sa m.sung.length A4.sc)).setCell ⟨B,3,none⟩ (.bool m.done)).cell? ⟨B,0,none⟩ = some (.int .i64 m.id) := by simp [go_sem,g0,g1,g2,g3]
  have x1 : ((((Y1.setCell ⟨B,0,none⟩ (.int .i64 m.id)).setCell ⟨B,1,none⟩ (.slice A4.ra m.rows.length A4.rc)).setCell ⟨B,2,none⟩ (.slice A4.sa m.sung.length A4.sc)).setCell ⟨B,3,none⟩ (.bool m.done)).cell? ⟨B,1,none⟩ = some (.slice A4.ra m.rows.length A4.rc) := by simp [go_sem,g0,g1,g2,g3]
  have x2 : ((((Y1.setCell ⟨B,0,none⟩ (.int .i64 m.id)).setCell ⟨B,1,none⟩ (.slice A4.ra m.rows.length A4.rc)).setCell ⟨B,2,none⟩ (.slice A4.sa m.sung.length A4.sc)).setCell ⟨B,3,none⟩ (.bool m.done)).cell? ⟨B,2,none⟩ = some (.slice A4.sa m.sung.length A4.sc) := by simp [go_sem,g0,g1,g2,g3]
  have x3 : ((((Y1.setCell ⟨B,0,none⟩ (.int .i64 m.id)).setCell ⟨B,1,none⟩ (.slice A4.ra m.rows.length A4.rc)).setCell ⟨B,2,none⟩ (.slice A4.sa m.sung.length A4.sc)).setCell ⟨B,3,none⟩ (.bool m.done)).cell? ⟨B,3,none⟩ = some (.bool m.done) := by simp [go_sem,g0,g1,g2,g3]
  have hTo := tol_any A4 m ((((Y1.setCell ⟨B,0,none⟩ (.int .i64 m.id)).setCell ⟨B,1,none⟩ (.slice A4.ra m.rows.length A4.rc)).setCell ⟨B,2,none⟩ (.slice A4.sa m.sung.length A4.sc)).setCell ⟨B,3,none⟩ (.bool m.done)) HMn.out
  unfold imV imC at hTo
  have HF4 : Hid (∀ x,fp4 x → w.heap.size + 1 + 1 < x) := fun x hx => by have := hf4 x hx;have := HT3.out.lt;omega
  clear hl4 hf4 hl5 hT5 hW4 hMo c0 c1 c2 c3 c4 HQ
  go_upto_region 7 with fail
  generalize ((((Y1.setCell ⟨B,0,none⟩ (.int .i64 m.id)).setCell ⟨B,1,none⟩ (.slice A4.ra m.rows.length A4.rc)).setCell ⟨B,2,none⟩ (.slice A4.sa m.sung.length A4.sc)).setCell ⟨B,3,none⟩ (.bool m.done)) = Y5 at *
  clear g0 g1 g2 g3 p0 p1 p2 p3
  go_wp2_with fail
  refine hTo.mono ?_
  rintro e Y2 ⟨rfl,hb2⟩
  have hR := HT5.out.below hb2
  have HN : Hid (∀ {z0 z1 z2 z3 z4 : Value},NewL w (((((Y2.setCell ⟨w.heap.size + 1 + 1,0,none⟩ z0).setCell ⟨w.heap.size + 1 + 1,1,none⟩ z1).setCell ⟨w.heap.size + 1 + 1,2,none⟩ z2).setCell ⟨w.heap.size + 1 + 1,3,none⟩ z3).setCell ⟨w.heap.size + 1 + 1,4,none⟩ z4) (mbCels m) (mbVals A4 m)) := fun {z0 z1 z2 z3 z4} => by
   have hB2 : Below w.heap.size w Y2 := HB5.out.trans (hb2.mono HB5.out.size)
   exact ⟨fp4,owL_wrt (owL_below HL5.out hb2) (wrt5 Y2 (w.heap.size + 1 + 1)) (fun x hx e => by have := HF4.out x hx;omega),fun x hx => by have := HF4.out x hx;omega,(wrt5 Y2 (w.heap.size + 1 + 1)).below hB2 hB2.size (fun x e => by omega)⟩
  unfold mbV mbC
  obtain ⟨z0,z1,z2,z3,z4⟩ := Bx.r5 hR
  obtain ⟨r0,r1,r2,r3,r4⟩ := hR.f5
  clear hTo hR hb2 x0 x1 x2 x3
  go_wp2
  refine bodyPost_ret (v := .tuple #[mbV A4 m,.bool false]) (by simp [results,Try.results74,go_sem,mbV,mbC, *]) rfl ?_
  rw [HZf.out]
  exact ⟨_,rfl,HN.out⟩
end Go.Proofs.Ythioodpmgifomaa
namespace Go.Proofs.Ythioodpmgifomaa
set_option linter.unusedVariables false
set_option linter.unusedSimpArgs false
open Go.RowKit Go.Sort
attribute [local irreducible] sv
end Go.Proofs.Ythioodpmgifomaa
namespace Go.Proofs.Ythioodpmgifomaa
set_option linter.unusedVariables false
set_option linter.unusedSimpArgs false
open Go.RowKit Go.Sort
attribute [local irreducible] sv
end Go.Proofs.Ythioodpmgifomaa
namespace Go.Proofs.Ythioodpmgifomaa
set_option linter.unusedVariables false
set_option linter.unusedSimpArgs false
open Go.RowKit Go.Sort
attribute [local irreducible] sv
theorem oth_heard {m : Mb} {i n : Nat} (ok : OkM m i n) (fr : Int) (r : Rw) (hd : m.done = false) : (heardMb m fr r).2 = (othB i n (rowN m.rows i).sus fr && (okRw r m.n && decide ((rowN m.rows fr.toNat).ver < r.ver))) ∧ ((heardMb m fr r).2 = true → (heardMb m fr r).1 = { m with rows := m.rows.set fr.toNat r }) := by
 have e : m.i = i := by unfold Mb.i;rw [ok.hid];rfl
 unfold heardMb othB
 rw [Mb.own,e,hd,ok.hid,ok.hn]
 split
 ·rename_i h
  refine ⟨?_,fun h => by cases h⟩
  rcases h with h | h | h | h | h | h
  ·rw [h];simp
  ·rw [h];simp
  ·rw [decide_eq_false (p := fr ∉ _) (by simpa using h)];simp
  ·cases h
  ·rw [h];simp
  ·rw [decide_eq_false (p := _ < r.ver) (by omega)];simp
 ·rename_i h
  refine ⟨?_,fun _ => rfl⟩
  simp only [not_or,Bool.not_eq_false,Int.not_le] at h
  obtain ⟨h1,h2,h3,_,h5,h6⟩ := h
  rw [h1,h5,decide_eq_true h2,decide_eq_true h3,decide_eq_true h6]
  rfl
set_option maxRecDepth 100000 in
set_option maxHeartbeats 1600000 in
theorem hear_any (B : Nat) (m : Mb) (i n : Nat) (fr : Int) (Ar : Ra) (r : Rw) (fp : Fp) (w : World) (h : Plc w B 0 (mb4 m) fp) (ok : OkM m i n) (hd : m.done = false) (hrp : RwP w Ar r) :
  Calls Try.prog 87 #[.pointer (some ⟨B,0,none⟩),.int .i64 fr,rwV Ar r] w fun e w' => ((heardMb m fr r).2 = true ∧ e = .returned (.tuple #[]) ∧ Bcm w w' B 0 (mb4 (heardMb m fr r).1) fp) ∨ ((heardMb m fr r).2 = false ∧ Gu e ∧ ∃ m1,Bcm w w' B 0 (mb4 m1) fp) := by
 have hmix := mixed17
 have hil : i < m.rows.length := by rw [ok.len];exact ok.lt
 have hn5 := ok.n5
 obtain ⟨g,off,c,M0⟩ := Iw.start h (by omega)
 have hba := oneA16 w (.cells #[.int .i64 r.ver,.slice Ar.ta r.txt.length Ar.tc,.slice Ar.ga r.got.length Ar.gc,.slice Ar.sa r.sus.length Ar.sc,.bool r.wed,.bool r.rdy,.int .i64 r.by_,.slice Ar.ma r.trm.length Ar.mc] 51)
 have hxr := Bx.new w 51 #[.int .i64 r.ver,.slice Ar.ta r.txt.length Ar.tc,.slice Ar.ga r.got.length Ar.gc,.slice Ar.sa r.sus.length Ar.sc,.bool r.wed,.bool r.rdy,.int .i64 r.by_,.slice Ar.ma r.trm.length Ar.mc]
 have M1 := M0.step hba
 have hrp1 := hrp.below hba
 obtain ⟨HP1,HP2⟩ := oth_heard ok fr r hd
 have HH1 : Hid ((heardMb m fr r).2 = (othB i n (rowN m.rows i).sus fr && (okRw r m.n && decide ((rowN m.rows fr.toNat).ver < r.ver)))) := HP1
 have HH2 : Hid ((heardMb m fr r).2 = true → (heardMb m fr r).1 = { m with rows := m.rows.set fr.toNat r }) := HP2
 clear HP1 HP2 h M0
 unfold rwV rwC
 generalize hWW : w.alloc (.cells #[.int .i64 r.ver,.slice Ar.ta r.txt.length Ar.tc,.slice Ar.ga r.got.length Ar.gc,.slice Ar.sa r.sus.length Ar.sc,.bool r.wed,.bool r.rdy,.int .i64 r.by_,.slice Ar.ma r.trm.length Ar.mc] 51) = W1 at *
 have HW : Hid (w.heap.size < W1.heap.size) := hxr.lt
 have HM1 : Hid (Iw w W1 B m fp g off c) := M1
 have HXr : Hid (Bx W1 w.heap.size 51 #[.int .i64 r.ver,.slice Ar.ta r.txt.length Ar.tc,.slice Ar.ga r.got.length Ar.gc,.slice Ar.sa r.sus.length Ar.sc,.bool r.wed,.bool r.rdy,.int .i64 r.by_,.slice Ar.ma r.trm.length Ar.mc]) := hxr
 have HRp : Hid (RwP W1 Ar r) := hrp1
 obtain ⟨c0,c3⟩ := M1.id'
 have c1 := M1.rws
 rw [ok.hid] at c0
 obtain ⟨Ak,⟨⟨d0,d1,d2,d3⟩,d4,d5,d6,d7⟩,hrs⟩ := M1.row ok.fit hil
 have T : ∀ {x v},W1.cell? x = some v → ∀ q : Bk W1,q.w.cell? x = some v := fun h q => (q.h.cell (World.block_lt_of_cell? _ _ h)).trans h
 have hO : ∀ q : Bk W1,Calls Try.prog 127 #[.pointer (some ⟨B,0,none⟩),.int .i64 fr] q.w fun e w' => e = .returned (.bool (othB i n (rowN m.rows i).sus fr)) ∧ Below q.w.heap.size q.w w' := fun q => oth_any B i n g off c Ak.sa Ak.sc (rowN m.rows i).sus fr q.w (T c0 q) (by rw [← ok.len];exact T c1 q) ok.lt hn5.2 (T d3 q) (hrs.sus.below q.h (Nat.le_refl _)) hrs.ms
 have hC : ∀ q : Bk W1,Calls Try.prog 128 #[.pointer (some ⟨B,0,none⟩)] q.w fun e w' => e = .returned (.int .i64 m.n) ∧ Below q.w.heap.size q.w w' := fun q => (cnt_any B (some ⟨g,off,none⟩) m.rows.length c q.w (T c1 q)).mono (fun e w' h => ⟨by rw [h.1,ok.hn,ok.len],by rw [h.2];exact Below.refl _ _⟩)
 have hR : ∀ q : Bk W1,Calls Try.prog 100 #[.agg #[.int .i64 r.ver,.slice Ar.ta r.txt.length Ar.tc,.slice Ar.ga r.got.length Ar.gc,.slice Ar.sa r.sus.length Ar.sc,.bool r.wed,.bool r.rdy,.int .i64 r.by_,.slice Ar.ma r.trm.length Ar.mc],.int .i64 m.n] q.w fun e w' => e = .returned (.bool (okRw r m.n)) ∧ Below q.w.heap.size q.w w' := fun q => rowI_any Ar r m.n q.w (hrp1.below q.h)
 have y1 := T c1
 obtain ⟨⟨x0,x1,x2,x3⟩,x4,x5,x6,x7⟩ := Bx.r8 hxr
 have u0 := T x0
 have u1 := T x1
 have u2 := T x2
 have u3 := T x3
 have u4 := T x4
 have u5 := T x5
 have u6 := T x6
 have u7 := T x7
 have HGi : Hid (∀ wE,Below W1.heap.size W1 wE → ∃ m1,Bcm w wE B 0 (mb4 m1) fp) := fun wE hb => ⟨m,(HM1.out.step hb).bcm⟩
 have HFr : Hid (othB i n (rowN m.rows i).sus fr = true → ∃ F : Nat,fr = (F : Int) ∧ F < m.rows.length) := fun h => by
  unfold othB at h
  simp only [Bool.and_eq_true] at h
  have := inB7.1 h.2.1
  exact ⟨fr.toNat,by omega,by rw [ok.len];omega⟩
 have HT : Hid (∀ {x v},W1.cell? x = some v → ∀ q : Bk W1,q.w.cell? x = some v) := @T
 clear hrp hba hxr M1 hrp1 x0 x1 x2 x3 x4 x5 x6 x7 c0 c1 c3 d0 d1 d2 d3 d4 d5 d6 d7 hrs T
 have hw0 : w.alloc (.cells #[.int .i64 r.ver,.slice Ar.ta r.txt.length Ar.tc,.slice Ar.ga r.got.length Ar.gc,.slice Ar.sa r.sus.length Ar.sc,.bool r.wed,.bool r.rdy,.int .i64 r.by_,.slice Ar.ma r.trm.length Ar.mc] 51) = W1 := hWW
 clear hWW
 cases e1 : othB i n (rowN m.rows i).sus fr with
 | false =>
  have HZ : Hid ((heardMb m fr r).2 = false) := by rw [Hid,HH1.out,e1];rfl
  rw [e1] at hO
  clear e1
  go_enter Try.func87,Try.ntmps87
  go_wp2_with fail
  clear hw0
  refine wp_region_quiet_tail (C := fun w' => ∃ p : Bk W1,w' = p.w) 25 hmix (by kernel_rfl) ⟨⟨W1.drewN 1,belowN (Below.refl _ _)⟩,rfl⟩ ?_
  simp only [List.take_succ_cons,List.take_zero]
  repeat (go_big_quiet_step ((first | (go_at_call 127;exact bk_call _ (hO _)) | rfl)))
  refine wpQuiet_nil ?_
  intro wE hw'
  obtain ⟨⟨w11,hb11⟩,hw''⟩ := hw'
  have hwe : wE = w11 := hw''
  clear hw''
  subst hwe
  simp only [List.drop_succ_cons,List.drop_zero]
  have HG := HGi.out wE hb11
  have HG2 : Hid (∃ m1,Bcm w wE B 0 (mb4 m1) fp) := HG
  clear hO hC hR y1 u0 u1 u2 u3 u4 u5 u6 u7 hb11 HG
  go_wp2_with (go_at_call 121;refine (wantF _).mono ?_;rintro e w' ⟨⟨T,v,rfl⟩,hw'⟩;rw [hw'];clear hw')
  exact ⟨rfl,.inr ⟨HZ.out,⟨_,_,rfl⟩,HG2.out⟩⟩
 | true =>
 obtain ⟨F,rfl,hFl⟩ := HFr.out e1
 rw [e1] at hO
 cases e2 : okRw r m.n with
 | false =>
  have HZ : Hid ((heardMb m (F : Int) r).2 = false) := by rw [Hid,HH1.out,e1,e2];rfl
  rw [e2] at hR
  clear e1 e2
  go_enter Try.func87,Try.ntmps87
  go_wp2_with fail
  clear hw0
  refine wp_region_quiet_tail (C := fun w' => ∃ p : Bk W1,w' = p.w) 25 hmix (by kernel_rfl) ⟨⟨W1.drewN 1,belowN (Below.refl _ _)⟩,rfl⟩ ?_
  simp only [List.take_succ_cons,List.take_zero]
  repeat (go_big_quiet_step ((first | (go_at_call 127;exact bk_call _ (hO _)) | (go_at_call 128;exact bk_call _ (hC _)) | (go_at_call 100;exact bk_call _ (hR _)) | rfl)))
  refine wpQuiet_nil ?_
  intro wE hw'
  obtain ⟨⟨w11,hb11⟩,hw''⟩ := hw'
  have hwe : wE = w11 := hw''
  clear hw''
  subst hwe
  simp only [List.drop_succ_cons,List.drop_zero]
  have HG := HGi.out wE hb11
  have HG2 : Hid (∃ m1,Bcm w wE B 0 (mb4 m1) fp) := HG
  clear hO hC hR y1 u0 u1 u2 u3 u4 u5 u6 u7 hb11 HG
  go_wp2_with (go_at_call 121;refine (wantF _).mono ?_;rintro e w' ⟨⟨T,v,rfl⟩,hw'⟩;rw [hw'];clear hw')
  exact ⟨rfl,.inr ⟨HZ.out,⟨_,_,rfl⟩,HG2.out⟩⟩
 | true =>
 rw [e2] at hR
 obtain ⟨Af,⟨⟨d0,d1,d2,d3⟩,d4,d5,d6,d7⟩,_⟩ := HM1.out.row ok.fit hFl
 have HLv : Hid ((heardMb m (F : Int) r).2 = decide ((rowN m.rows F).ver < r.ver)) := by rw [Hid,HH1.out,e1,e2];simp
 have v0 := HT.out d0
 have v1 := HT.out d1
 have v2 := HT.out d2
 have v3 := HT.out d3
 have v4 := HT.out d4
 have v5 := HT.out d5
 have v6 := HT.out d6
 have v7 := HT.out d7
 have hL : ∀ q : Bk W1,Calls Try.prog 129 #[.agg #[.int .i64 r.ver,.slice Ar.ta r.txt.length Ar.tc,.slice Ar.ga r.got.length Ar.gc,.slice Ar.sa r.sus.length Ar.sc,.bool r.wed,.bool r.rdy,.int .i64 r.by_,.slice Ar.ma r.trm.length Ar.mc],rwV Af (rowN m.rows F)] q.w fun e w' => e = .returned (.bool (decide ((rowN m.rows F).ver < r.ver))) ∧ Below q.w.heap.size q.w w' := fun q => latI_any Ar Af r (rowN m.rows F) q.w
 unfold rwV rwC at hL
 have F0 : (0 : Int) ≤ (F : Int) := by omega
 have F1 : (F : Int) < (m.rows.length : Int) := by omega
 have hokr : OkR r n := okRw_iff.1 (by rw [← ok.hn];exact e2)
 clear e1 e2 d0 d1 d2 d3 d4 d5 d6 d7
 cases e3 : decide ((rowN m.rows F).ver < r.ver) with
 | false =>
  have HZ : Hid ((heardMb m (F : Int) r).2 = false) := by rw [Hid,HLv.out,e3]
  rw [e3] at hL
  clear e3
  go_enter Try.func87,Try.ntmps87
  go_wp2_with fail
  clear hw0
  refine wp_region_quiet_tail (C := fun w' => ∃ p : Bk W1,w' = p.w) 25 hmix (by kernel_rfl) ⟨⟨W1.drewN 1,belowN (Below.refl _ _)⟩,rfl⟩ ?_
  simp only [List.take_succ_cons,List.take_zero]
  repeat (go_big_quiet_step ((first | (go_at_call 127;exact bk_call _ (hO _)) | (go_at_call 128;exact bk_call _ (hC _)) | (go_at_call 100;exact bk_call _ (hR _)) | (go_at_call 129;exact bk_call _ (hL _)) | rfl)))
  refine wpQuiet_nil ?_
  intro wE hw'
  obtain ⟨⟨w11,hb11⟩,hw''⟩ := hw'
  have hwe : wE = w11 := hw''
  clear hw''
  subst hwe
  simp only [List.drop_succ_cons,List.drop_zero]
  have HG := HGi.out wE hb11
  have HG2 : Hid (∃ m1,Bcm w wE B 0 (mb4 m1) fp) := HG
  clear hO hC hR hL y1 u0 u1 u2 u3 u4 u5 u6 u7 v0 v1 v2 v3 v4 v5 v6 v7 hb11 HG
  go_wp2_with (go_at_call 121;refine (wantF _).mono ?_;rintro e w' ⟨⟨T,v,rfl⟩,hw'⟩;rw [hw'];clear hw')
  exact ⟨rfl,.inr ⟨HZ.out,⟨_,_,rfl⟩,HG2.out⟩⟩
 | true =>
 have HZ : Hid ((heardMb m (F : Int) r).2 = true) := by rw [Hid,HLv.out,e3]
 rw [e3] at hL
 clear e3
 go_enter Try.func87,Try.ntmps87
 go_wp2_with fail
 clear hw0
 refine wp_region_quiet_tail (C := fun w' => ∃ p : Bk W1,w' = p.w) 25 hmix (by kernel_rfl) ⟨⟨W1.drewN 1,belowN (Below.refl _ _)⟩,rfl⟩ ?_
 simp only [List.take_succ_cons,List.take_zero]
 repeat (go_big_quiet_step ((first | (go_at_call 127;exact bk_call _ (hO _)) | (go_at_call 128;exact bk_call _ (hC _)) | (go_at_call 100;exact bk_call _ (hR _)) | (go_at_call 129;exact bk_call _ (hL _)) | rfl)))
 refine wpQuiet_nil ?_
 intro wE hw'
 obtain ⟨⟨w11,hb11⟩,hw''⟩ := hw'
 have hwe : wE = w11 := hw''
 clear hw''
 subst hwe
 simp only [List.drop_succ_cons,List.drop_zero]
 have M2 := HM1.out.step hb11
 have HM2 : Hid (Iw w wE B m fp g off c) := M2
 have hrp2 := HRp.out.below hb11
 have hxr2 := HXr.out.below hb11
 clear hO hC hR hL y1 u0 u1 u2 u3 u4 u5 u6 u7 v0 v1 v2 v3 v4 v5 v6 v7
 have KS : ∀ X,Below wE.heap.size wE X → X.cell? ⟨B,1,none⟩ = some (.slice (some ⟨g,off,none⟩) m.rows.length c) ∧ X.cell? ⟨w.heap.size,0,none⟩ = some (.int .i64 r.ver) ∧ X.cell? ⟨w.heap.size,1,none⟩ = some (.slice Ar.ta r.txt.length Ar.tc) ∧ X.cell? ⟨w.heap.size,2,none⟩ = some (.slice Ar.ga r.got.length Ar.gc) ∧ X.cell? ⟨w.heap.size,3,none⟩ = some (.slice Ar.sa r.sus.length Ar.sc) ∧ X.cell? ⟨w.heap.size,4,none⟩ = some (.bool r.wed) ∧ X.cell? ⟨w.heap.size,5,none⟩ = some (.bool r.rdy) ∧ X.cell? ⟨w.heap.size,6,none⟩ = some (.int .i64 r.by_) ∧ X.cell? ⟨w.heap.size,7,none⟩ = some (.slice Ar.ma r.trm.length Ar.mc) := fun X hX => by
  obtain ⟨⟨x0,x1,x2,x3⟩,x4,x5,x6,x7⟩ := Bx.r8 (hxr2.below hX)
  exact ⟨(hX.cell (World.block_lt_of_cell? _ _ M2.rws)).trans M2.rws,x0,x1,x2,x3,x4,x5,x6,x7⟩
 have hbd : Below wE.heap.size wE wE.drew := (Same.drewN wE 1).below
 have hAn := anw_any Ar r wE.drew (hrp2.below hbd) (by rw [hokr.gl];omega) (by have := hokr.c8.2;omega)
 unfold rwV rwC at hAn
 clear hrp2 hxr2 hb11 M2
 go_upto_region 2 with (go_at_call 121;refine (wantT _).mono ?_;rintro e w' ⟨rfl,hw'⟩;rw [hw'];clear hw')
 refine gt_begin (S := fun X : World => X.cell? ⟨B,1,none⟩ = some (.slice (some ⟨g,off,none⟩) m.rows.length c) ∧ X.cell? ⟨w.heap.size,0,none⟩ = some (.int .i64 r.ver) ∧ X.cell? ⟨w.heap.size,1,none⟩ = some (.slice Ar.ta r.txt.length Ar.tc) ∧ X.cell? ⟨w.heap.size,2,none⟩ = some (.slice Ar.ga r.got.length Ar.gc) ∧ X.cell? ⟨w.heap.size,3,none⟩ = some (.slice Ar.sa r.sus.length Ar.sc) ∧ X.cell? ⟨w.heap.size,4,none⟩ = some (.bool r.wed) ∧ X.cell? ⟨w.heap.size,5,none⟩ = some (.bool r.rdy) ∧ X.cell? ⟨w.heap.size,6,none⟩ = some (.int .i64 r.by_) ∧ X.cell? ⟨w.heap.size,7,none⟩ = some (.slice Ar.ma r.trm.length Ar.mc)) 9 hmix (by kernel_rfl) ?_
 have hHeld : (fun X : World => X.cell? ⟨B,1,none⟩ = some (.slice (some ⟨g,off,none⟩) m.rows.length c) ∧ X.cell? ⟨w.heap.size,0,none⟩ = some (.int .i64 r.ver) ∧ X.cell? ⟨w.heap.size,1,none⟩ = some (.slice Ar.ta r.txt.length Ar.tc) ∧ X.cell? ⟨w.heap.size,2,none⟩ = some (.slice Ar.ga r.got.length Ar.gc) ∧ X.cell? ⟨w.heap.size,3,none⟩ = some (.slice Ar.sa r.sus.length Ar.sc) ∧ X.cell? ⟨w.heap.size,4,none⟩ = some (.bool r.wed) ∧ X.cell? ⟨w.heap.size,5,none⟩ = some (.bool r.rdy) ∧ X.cell? ⟨w.heap.size,6,none⟩ = some (.int .i64 r.by_) ∧ X.cell? ⟨w.heap.size,7,none⟩ = some (.slice Ar.ma r.trm.length Ar.mc)) wE.drew := (KS _ hbd)
 refine gt_take (i := 0) (v := ?_) rfl (by kernel_rfl) (by kernel_rfl) (by kernel_rfl) (by kernel_rfl) (fun _ _ _ h => h) (Or.inl ⟨by rfl, ?_⟩) hHeld ?_
 rotate_left
 ·(intro X hSX;(try dsimp only at hSX);obtain ⟨g0,g1,g2,g3,g4,g5,g6,g7,g8⟩ := hSX;go_simp;try with_reducible rfl)
 try simp only [Act.put,List.setIfInBounds_toArray,List.set_cons_zero,List.set_cons_succ]
 refine gt_take (i := 1) (v := ?_) rfl (by kernel_rfl) (by kernel_rfl) (by kernel_rfl) (by kernel_rfl) (fun _ _ _ h => h) (Or.inl ⟨by rfl, ?_⟩) hHeld ?_
 rotate_left
 ·(intro X hSX;(try dsimp only at hSX);obtain ⟨g0,g1,g2,g3,g4,g5,g6,g7,g8⟩ := hSX;go_simp;try with_reducible rfl)
 try simp only [Act.put,List.setIfInBounds_toArray,List.set_cons_zero,List.set_cons_succ]
 refine gt_take (i := 2) (v := ?_) rfl (by kernel_rfl) (by kernel_rfl) (by kernel_rfl) (by kernel_rfl) (fun _ _ _ h => h) (Or.inl ⟨by rfl, ?_⟩) hHeld ?_
 rotate_left
 ·(intro X hSX;(try dsimp only at hSX);obtain ⟨g0,g1,g2,g3,g4,g5,g6,g7,g8⟩ := hSX;go_simp;try with_reducible rfl)
 try simp only [Act.put,List.setIfInBounds_toArray,List.set_cons_zero,List.set_cons_succ]
 refine gt_take (i := 3) (v := ?_) rfl (by kernel_rfl) (by kernel_rfl) (by kernel_rfl) (by kernel_rfl) (fun _ _ _ h => h) (Or.inl ⟨by rfl, ?_⟩) hHeld ?_
 rotate_left
 ·(intro X hSX;(try dsimp only at hSX);obtain ⟨g0,g1,g2,g3,g4,g5,g6,g7,g8⟩ := hSX;go_simp;try with_reducible rfl)
 try simp only [Act.put,List.setIfInBounds_toArray,List.set_cons_zero,List.set_cons_succ]
 refine gt_take (i := 4) (v := ?_) rfl (by kernel_rfl) (by kernel_rfl) (by kernel_rfl) (by kernel_rfl) (fun _ _ _ h => h) (Or.inl ⟨by rfl, ?_⟩) hHeld ?_
 rotate_left
 ·(intro X hSX;(try dsimp only at hSX);obtain ⟨g0,g1,g2,g3,g4,g5,g6,g7,g8⟩ := hSX;go_simp;try with_reducible rfl)
 try simp only [Act.put,List.setIfInBounds_toArray,List.set_cons_zero,List.set_cons_succ]
 refine gt_take (i := 5) (v := ?_) rfl (by kernel_rfl) (by kernel_rfl) (by kernel_rfl) (by kernel_rfl) (fun _ _ _ h => h) (Or.inl ⟨by rfl, ?_⟩) hHeld ?_
 rotate_left
 ·(intro X hSX;(try dsimp only at hSX);obtain ⟨g0,g1,g2,g3,g4,g5,g6,g7,g8⟩ := hSX;go_simp;try with_reducible rfl)
 try simp only [Act.put,List.setIfInBounds_toArray,List.set_cons_zero,List.set_cons_succ]
 refine gt_take (i := 6) (v := ?_) rfl (by kernel_rfl) (by kernel_rfl) (by kernel_rfl) (by kernel_rfl) (fun _ _ _ h => h) (Or.inl ⟨by rfl, ?_⟩) hHeld ?_
 rotate_left
 ·(intro X hSX;(try dsimp only at hSX);obtain ⟨g0,g1,g2,g3,g4,g5,g6,g7,g8⟩ := hSX;go_simp;try with_reducible rfl)
 try simp only [Act.put,List.setIfInBounds_toArray,List.set_cons_zero,List.set_cons_succ]
 refine gt_one (i := 7) rfl (by kernel_rfl) (by kernel_rfl) (fun K hK => ?_)
 go_simp
 go_at_call 130
 refine hAn.mono ?_
 rintro e V1 ⟨A2,rfl,f2,hl2,hf2,hb2⟩
 have hbV1 : Below wE.heap.size wE V1 := hbd.trans (hb2.mono hbd.size)
 have hd2 : wE.drew.heap.size = wE.heap.size := rfl
 have M3 := HM2.out.rowAll hFl hbV1 hl2 (fun b hb => by have := hf2 b hb;omega)
 have M4 := HM2.out.step hbV1
 obtain ⟨Ag,⟨⟨k0,k1,k2,k3⟩,k4,k5,k6,k7⟩,_⟩ := M4.row ok.fit hFl
 obtain ⟨⟨j0,j1,j2,j3⟩,j4,j5,j6,j7⟩ := M4.free hFl
 have HM3 : Hid _ := M3
 refine hK.out _ _ (KS _ hbV1) (fun hHeldN => ?_)
 clear hK hHeld
 have hHeld := hHeldN
 try simp only [Act.put,List.setIfInBounds_toArray,List.set_cons_zero,List.set_cons_succ]
 refine gt_one (i := 8) rfl (by kernel_rfl) (by kernel_rfl) (fun K hK => ?_)
 go_simp
 refine hK.out _ _ (KS _ hbV1) (fun hHeldN => ?_)
 clear hK hHeld
 have hHeld := hHeldN
 try simp only [Act.put,List.setIfInBounds_toArray,List.set_cons_zero,List.set_cons_succ]
 unfold rwV rwC
 refine gt_last rfl (by kernel_rfl) (by kernel_rfl) (fun K hK => ?_)
 go_simp
 refine hK.out _ _ ?_
 clear hHeld hK M3 M4 hl2 hf2 hb2 k0 k1 k2 k3 k4 k5 k6 k7 j0 j1 j2 j3 j4 j5 j6 j7 KS hbd hbV1 hAn
 have HF2 : Hid ((heardMb m (F : Int) r).1 = { m with rows := m.rows.set F r }) := by rw [Hid,HH2.out HZ.out];rfl
 go_wp2
 first | go_end0 | go_ret
 exact .inl ⟨HZ.out,rfl,by rw [HF2.out];exact HM3.out.bcm⟩
end Go.Proofs.Ythioodpmgifomaa
namespace Go.Proofs.Ythioodpmgifomaa
set_option linter.unusedVariables false
set_option linter.unusedSimpArgs false
open Go.RowKit Go.Sort
attribute [local irreducible] sv
theorem heard_wkd (m : Mb) (fr : Int) (r : Rw) : hrdM m fr r = wkdM m (heardMb m fr r).1 (heardMb m fr r).2 := by
 unfold hrdM wkdM
 split
 ·by_cases hd : m.done = true
  ·rw [if_pos hd,heardMb,if_pos (.inr (.inr (.inr (.inl hd))))]
  ·rw [if_neg hd]
   cases hf : (heardMb m fr r).2 with
   | true => rw [if_pos rfl,← hf]
   | false =>
    rw [if_neg (by decide)]
    unfold heardMb at hf ⊢
    split at hf
    ·rename_i h;rw [if_pos h]
    ·cases hf
 ·rfl
set_option maxRecDepth 100000 in
set_option maxHeartbeats 800000 in
theorem hrd1_any (B : Nat) (fr : Int) (Ar : Ra) (r : Rw) (b1 b2 : Nat) (X : World) (R : Ending → World → Prop) (hc : X.cell? ⟨b1,0,none⟩ = some (.int .i64 fr)) (hx : Bx X b2 51 #[.int .i64 r.ver,.slice Ar.ta r.txt.length Ar.tc,.slice Ar.ga r.got.length Ar.gc,.slice Ar.sa r.sus.length Ar.sc,.bool r.wed,.bool r.rdy,.int .i64 r.by_,.slice Ar.ma r.trm.length Ar.mc]) (hS : Calls Try.prog 87 #[.pointer (some ⟨B,0,none⟩),.int .i64 fr,.agg #[.int .i64 r.ver,.slice Ar.ta r.txt.length Ar.tc,.slice Ar.ga r.got.length Ar.gc,.slice Ar.sa r.sus.length Ar.sc,.bool r.wed,.bool r.rdy,.int .i64 r.by_,.slice Ar.ma r.trm.length Ar.mc]] X R) (hR : ∀ e w',R e w' → e = .returned (.tuple #[]) ∨ Gu e) :
  Calls Try.prog 86 #[.pointer (some ⟨B,0,none⟩),.pointer (some ⟨b1,0,none⟩),.pointer (some ⟨b2,0,none⟩)] X R := by
 have HR : Hid (∀ e w',R e w' → e = .returned (.tuple #[]) ∨ Gu e) := hR
 clear hR
 obtain ⟨⟨x0,x1,x2,x3⟩,x4,x5,x6,x7⟩ := Bx.r8 hx
 clear hx
 go_enter Try.func86,Try.ntmps86
 go_wp2_with fail
 refine hS.mono ?_
 intro e w1 hRe
 rcases HR.out e w1 hRe with rfl | ⟨T,v,rfl⟩
 ·have HRe : Hid (R (.returned (.tuple #[])) w1) := hRe
  clear hRe hS
  go_wp2
  first | go_end0 | go_ret
  exact HRe.out
 ·exact ⟨rfl,hRe⟩
set_option maxRecDepth 100000 in
set_option maxHeartbeats 1600000 in
theorem implHeard : ImplHeard := by
 intro A m fr Ar r w hv h6 hrp
 have hmf : ∀ (fn : Fn) (first cap : Array Value) (w : World),(Instr.makeFunc fn first cap).run Try.prog w = .ok (.func fn first cap) w := fun _ _ _ _ => rfl
 have a0 := oneA16 w (.cells #[.int .i64 m.id,.int .i64 m.n,.slice A.ra m.rows.length A.rc,.slice A.sa m.sung.length A.sc,.bool m.done] 39)
 have hb0 : Below w.heap.size w (w.alloc (.cells #[.int .i64 m.id,.int .i64 m.n,.slice A.ra m.rows.length A.rc,.slice A.sa m.sung.length A.sc,.bool m.done] 39)) := a0
 have a1 := oneA16 (w.alloc (.cells #[.int .i64 m.id,.int .i64 m.n,.slice A.ra m.rows.length A.rc,.slice A.sa m.sung.length A.sc,.bool m.done] 39)) (.cells #[.int .i64 fr] 2)
 have hb1 : Below w.heap.size w ((w.alloc (.cells #[.int .i64 m.id,.int .i64 m.n,.slice A.ra m.rows.length A.rc,.slice A.sa m.sung.length A.sc,.bool m.done] 39)).alloc (.cells #[.int .i64 fr] 2)) := hb0.trans (a1.mono hb0.size)
 have a2 := oneA16 ((w.alloc (.cells #[.int .i64 m.id,.int .i64 m.n,.slice A.ra m.rows.length A.rc,.slice A.sa m.sung.length A.sc,.bool m.done] 39)).alloc (.cells #[.int .i64 fr] 2)) (.cells #[.int .i64 r.ver,.slice Ar.ta r.txt.length Ar.tc,.slice Ar.ga r.got.length Ar.gc,.slice Ar.sa r.sus.length Ar.sc,.bool r.wed,.bool r.rdy,.int .i64 r.by_,.slice Ar.ma r.trm.length Ar.mc] 51)
 have hb2 : Below w.heap.size w (((w.alloc (.cells #[.int .i64 m.id,.int .i64 m.n,.slice A.ra m.rows.length A.rc,.slice A.sa m.sung.length A.sc,.bool m.done] 39)).alloc (.cells #[.int .i64 fr] 2)).alloc (.cells #[.int .i64 r.ver,.slice Ar.ta r.txt.length Ar.tc,.slice Ar.ga r.got.length Ar.gc,.slice Ar.sa r.sus.length Ar.sc,.bool r.wed,.bool r.rdy,.int .i64 r.by_,.slice Ar.ma r.trm.length Ar.mc] 51)) := hb1.trans (a2.mono hb1.size)
 have a3 := oneA16 (((w.alloc (.cells #[.int .i64 m.id,.int .i64 m.n,.slice A.ra m.rows.length A.rc,.slice A.sa m.sung.length A.sc,.bool m.done] 39)).alloc (.cells #[.int .i64 fr] 2)).alloc (.cells #[.int .i64 r.ver,.slice Ar.ta r.txt.length Ar.tc,.slice Ar.ga r.got.length Ar.gc,.slice Ar.sa r.sus.length Ar.sc,.bool r.wed,.bool r.rdy,.int .i64 r.by_,.slice Ar.ma r.trm.length Ar.mc] 51)) (.cells #[.int .i64 0,.int .i64 0,.slice none 0 0,.slice none 0 0,.bool false] 39)
 have hb3 : Below w.heap.size w ((((w.alloc (.cells #[.int .i64 m.id,.int .i64 m.n,.slice A.ra m.rows.length A.rc,.slice A.sa m.sung.length A.sc,.bool m.done] 39)).alloc (.cells #[.int .i64 fr] 2)).alloc (.cells #[.int .i64 r.ver,.slice Ar.ta r.txt.length Ar.tc,.slice Ar.ga r.got.length Ar.gc,.slice Ar.sa r.sus.length Ar.sc,.bool r.wed,.bool r.rdy,.int .i64 r.by_,.slice Ar.ma r.trm.length Ar.mc] 51)).alloc (.cells #[.int .i64 0,.int .i64 0,.slice none 0 0,.slice none 0 0,.bool false] 39)) := hb2.trans (a3.mono hb2.size)
 have hx0 : Bx ((((w.alloc (.cells #[.int .i64 m.id,.int .i64 m.n,.slice A.ra m.rows.length A.rc,.slice A.sa m.sung.length A.sc,.bool m.done] 39)).alloc (.cells #[.int .i64 fr] 2)).alloc (.cells #[.int .i64 r.ver,.slice Ar.ta r.txt.length Ar.tc,.slice Ar.ga r.got.length Ar.gc,.slice Ar.sa r.sus.length Ar.sc,.bool r.wed,.bool r.rdy,.int .i64 r.by_,.slice Ar.ma r.trm.length Ar.mc] 51)).alloc (.cells #[.int .i64 0,.int .i64 0,.slice none 0 0,.slice none 0 0,.bool false] 39)) (w.heap.size) 39 #[.int .i64 m.id,.int .i64 m.n,.slice A.ra m.rows.length A.rc,.slice A.sa m.sung.length A.sc,.bool m.done] := by
  have := (((Bx.new w 39 #[.int .i64 m.id,.int .i64 m.n,.slice A.ra m.rows.length A.rc,.slice A.sa m.sung.length A.sc,.bool m.done]).alloc (.cells #[.int .i64 fr] 2)).alloc (.cells #[.int .i64 r.ver,.slice Ar.ta r.txt.length Ar.tc,.slice Ar.ga r.got.length Ar.gc,.slice Ar.sa r.sus.length Ar.sc,.bool r.wed,.bool r.rdy,.int .i64 r.by_,.slice Ar.ma r.trm.length Ar.mc] 51)).alloc (.cells #[.int .i64 0,.int .i64 0,.slice none 0 0,.slice none 0 0,.bool false] 39)
  try simp only [World.size_alloc] at this
  exact this
 have hx1 : Bx ((((w.alloc (.cells #[.int .i64 m.id,.int .i64 m.n,.slice A.ra m.rows.length A.rc,.slice A.sa m.sung.length A.sc,.bool m.done] 39)).alloc (.cells #[.int .i64 fr] 2)).alloc (.cells #[.int .i64 r.ver,.slice Ar.ta r.txt.length Ar.tc,.slice Ar.ga r.got.length Ar.gc,.slice Ar.sa r.sus.length Ar.sc,.bool r.wed,.bool r.rdy,.int .i64 r.by_,.slice Ar.ma r.trm.length Ar.mc] 51)).alloc (.cells #[.int .i64 0,.int .i64 0,.slice none 0 0,.slice none 0 0,.bool false] 39)) (w.heap.size + 1) 2 #[.int .i64 fr] := by
  have := ((Bx.new (w.alloc (.cells #[.int .i64 m.id,.int .i64 m.n,.slice A.ra m.rows.length A.rc,.slice A.sa m.sung.length A.sc,.bool m.done] 39)) 2 #[.int .i64 fr]).alloc (.cells #[.int .i64 r.ver,.slice Ar.ta r.txt.length Ar.tc,.slice Ar.ga r.got.length Ar.gc,.slice Ar.sa r.sus.length Ar.sc,.bool r.wed,.bool r.rdy,.int .i64 r.by_,.slice Ar.ma r.trm.length Ar.mc] 51)).alloc (.cells #[.int .i64 0,.int .i64 0,.slice none 0 0,.slice none 0 0,.bool false] 39)
  try simp only [World.size_alloc] at this
  exact this
 have hx2 : Bx ((((w.alloc (.cells #[.int .i64 m.id,.int .i64 m.n,.slice A.ra m.rows.length A.rc,.slice A.sa m.sung.length A.sc,.bool m.done] 39)).alloc (.cells #[.int .i64 fr] 2)).alloc (.cells #[.int .i64 r.ver,.slice Ar.ta r.txt.length Ar.tc,.slice Ar.ga r.got.length Ar.gc,.slice Ar.sa r.sus.length Ar.sc,.bool r.wed,.bool r.rdy,.int .i64 r.by_,.slice Ar.ma r.trm.length Ar.mc] 51)).alloc (.cells #[.int .i64 0,.int .i64 0,.slice none 0 0,.slice none 0 0,.bool false] 39)) (w.heap.size + 1 + 1) 51 #[.int .i64 r.ver,.slice Ar.ta r.txt.length Ar.tc,.slice Ar.ga r.got.length Ar.gc,.slice Ar.sa r.sus.length Ar.sc,.bool r.wed,.bool r.rdy,.int .i64 r.by_,.slice Ar.ma r.trm.length Ar.mc] := by
  have := (Bx.new ((w.alloc (.cells #[.int .i64 m.id,.int .i64 m.n,.slice A.ra m.rows.length A.rc,.slice A.sa m.sung.length A.sc,.bool m.done] 39)).alloc (.cells #[.int .i64 fr] 2)) 51 #[.int .i64 r.ver,.slice Ar.ta r.txt.length Ar.tc,.slice Ar.ga r.got.length Ar.gc,.slice Ar.sa r.sus.length Ar.sc,.bool r.wed,.bool r.rdy,.int .i64 r.by_,.slice Ar.ma r.trm.length Ar.mc]).alloc (.cells #[.int .i64 0,.int .i64 0,.slice none 0 0,.slice none 0 0,.bool false] 39)
  try simp only [World.size_alloc] at this
  exact this
 have hx3 : Bx ((((w.alloc (.cells #[.int .i64 m.id,.int .i64 m.n,.slice A.ra m.rows.length A.rc,.slice A.sa m.sung.length A.sc,.bool m.done] 39)).alloc (.cells #[.int .i64 fr] 2)).alloc (.cells #[.int .i64 r.ver,.slice Ar.ta r.txt.length Ar.tc,.slice Ar.ga r.got.length Ar.gc,.slice Ar.sa r.sus.length Ar.sc,.bool r.wed,.bool r.rdy,.int .i64 r.by_,.slice Ar.ma r.trm.length Ar.mc] 51)).alloc (.cells #[.int .i64 0,.int .i64 0,.slice none 0 0,.slice none 0 0,.bool false] 39)) (w.heap.size + 1 + 1 + 1) 39 #[.int .i64 0,.int .i64 0,.slice none 0 0,.slice none 0 0,.bool false] := by
  have := Bx.new (((w.alloc (.cells #[.int .i64 m.id,.int .i64 m.n,.slice A.ra m.rows.length A.rc,.slice A.sa m.sung.length A.sc,.bool m.done] 39)).alloc (.cells #[.int .i64 fr] 2)).alloc (.cells #[.int .i64 r.ver,.slice Ar.ta r.txt.length Ar.tc,.slice Ar.ga r.got.length Ar.gc,.slice Ar.sa r.sus.length Ar.sc,.bool r.wed,.bool r.rdy,.int .i64 r.by_,.slice Ar.ma r.trm.length Ar.mc] 51)) 39 #[.int .i64 0,.int .i64 0,.slice none 0 0,.slice none 0 0,.bool false]
  try simp only [World.size_alloc] at this
  exact this
 have hP := hv.below hb3
 have hWk := wkd_any 86 #[.pointer (some ⟨w.heap.size + 1,0,none⟩),.pointer (some ⟨w.heap.size + 1 + 1,0,none⟩)] A m (heardMb m fr r).1 (heardMb m fr r).2 ((((w.alloc (.cells #[.int .i64 m.id,.int .i64 m.n,.slice A.ra m.rows.length A.rc,.slice A.sa m.sung.length A.sc,.bool m.done] 39)).alloc (.cells #[.int .i64 fr] 2)).alloc (.cells #[.int .i64 r.ver,.slice Ar.ta r.txt.length Ar.tc,.slice Ar.ga r.got.length Ar.gc,.slice Ar.sa r.sus.length Ar.sc,.bool r.wed,.bool r.rdy,.int .i64 r.by_,.slice Ar.ma r.trm.length Ar.mc] 51)).alloc (.cells #[.int .i64 0,.int .i64 0,.slice none 0 0,.slice none 0 0,.bool false] 39)) hP (fun _ _ => enters_of Try.func86 (by kernel_rfl) rfl _ _)
  (fun hok hf => by
   obtain ⟨i,n,ok⟩ := okMb_iff.1 hok
   have := (heard_loc ok fr r).1
   rw [this.hn,this.len])
  (fun X B fp i n hX hpl ok hd => hrd1_any B fr Ar r (w.heap.size + 1) (w.heap.size + 1 + 1) X _ ((hx1.below hX).at 0 rfl) (hx2.below hX) (hear_any B m i n fr Ar r fp X hpl ok hd ((hrp.below hb3).below hX)) (fun e w' h => by
   rcases h with ⟨_,h,_⟩ | ⟨_,h,_⟩
   ·exact .inl h
   ·exact .inr h))
 have HZ0 := heard_wkd m fr r
 clear hrp
 unfold mbV mbC at hWk
 have hWl := hx3.lt
 obtain ⟨c0,c1,c2,c3,c4⟩ := Bx.r5 hx0
 have HR0 : Hid (Bx ((((w.alloc (.cells #[.int .i64 m.id,.int .i64 m.n,.slice A.ra m.rows.length A.rc,.slice A.sa m.sung.length A.sc,.bool m.done] 39)).alloc (.cells #[.int .i64 fr] 2)).alloc (.cells #[.int .i64 r.ver,.slice Ar.ta r.txt.length Ar.tc,.slice Ar.ga r.got.length Ar.gc,.slice Ar.sa r.sus.length Ar.sc,.bool r.wed,.bool r.rdy,.int .i64 r.by_,.slice Ar.ma r.trm.length Ar.mc] 51)).alloc (.cells #[.int .i64 0,.int .i64 0,.slice none 0 0,.slice none 0 0,.bool false] 39)) (w.heap.size + 1 + 1 + 1) 39 #[.int .i64 0,.int .i64 0,.slice none 0 0,.slice none 0 0,.bool false]) := hx3
 have HB0 : Hid (Below w.heap.size w ((((w.alloc (.cells #[.int .i64 m.id,.int .i64 m.n,.slice A.ra m.rows.length A.rc,.slice A.sa m.sung.length A.sc,.bool m.done] 39)).alloc (.cells #[.int .i64 fr] 2)).alloc (.cells #[.int .i64 r.ver,.slice Ar.ta r.txt.length Ar.tc,.slice Ar.ga r.got.length Ar.gc,.slice Ar.sa r.sus.length Ar.sc,.bool r.wed,.bool r.rdy,.int .i64 r.by_,.slice Ar.ma r.trm.length Ar.mc] 51)).alloc (.cells #[.int .i64 0,.int .i64 0,.slice none 0 0,.slice none 0 0,.bool false] 39))) := hb3
 have HZ : Hid (hrdM m fr r = wkdM m (heardMb m fr r).1 (heardMb m fr r).2) := HZ0
 clear a0 a1 a2 a3 hb0 hb1 hb2 hb3 hx0 hx1 hx2 hx3 hP hv HZ0
 unfold mbV mbC rwV rwC
 generalize wkdM m (heardMb m fr r).1 (heardMb m fr r).2 = pm at *
 go_enter Try.func36,Try.ntmps36
 go_wp2_with fail
 generalize ((((w.alloc (.cells #[.int .i64 m.id,.int .i64 m.n,.slice A.ra m.rows.length A.rc,.slice A.sa m.sung.length A.sc,.bool m.done] 39)).alloc (.cells #[.int .i64 fr] 2)).alloc (.cells #[.int .i64 r.ver,.slice Ar.ta r.txt.length Ar.tc,.slice Ar.ga r.got.length Ar.gc,.slice Ar.sa r.sus.length Ar.sc,.bool r.wed,.bool r.rdy,.int .i64 r.by_,.slice Ar.ma r.trm.length Ar.mc] 51)).alloc (.cells #[.int .i64 0,.int .i64 0,.slice none 0 0,.slice none 0 0,.bool false] 39)) = W0 at *
 refine hWk.mono ?_
 rintro e w1 ⟨A2,rfl,fp,hl,hf,hb⟩
 have hR := HR0.out.below hb
 have hsz := hb.size
 have HN : Hid (∀ {z0 z1 z2 z3 z4 : Value},NewL w (((((w1.setCell ⟨w.heap.size + 1 + 1 + 1,0,none⟩ z0).setCell ⟨w.heap.size + 1 + 1 + 1,1,none⟩ z1).setCell ⟨w.heap.size + 1 + 1 + 1,2,none⟩ z2).setCell ⟨w.heap.size + 1 + 1 + 1,3,none⟩ z3).setCell ⟨w.heap.size + 1 + 1 + 1,4,none⟩ z4) (mbCels pm.1) (mbVals A2 pm.1)) := fun {z0 z1 z2 z3 z4} => by
  have hB1 : Below w.heap.size w w1 := HB0.out.trans (hb.mono HB0.out.size)
  exact ⟨fp,owL_wrt hl (wrt5 w1 (w.heap.size + 1 + 1 + 1)) (fun x hx e => by have := hf x hx;omega),fun x hx => by have := hf x hx;omega,(wrt5 w1 (w.heap.size + 1 + 1 + 1)).below hB1 hB1.size (fun x e => by omega)⟩
 obtain ⟨z0,z1,z2,z3,z4⟩ := Bx.r5 hR
 obtain ⟨r0,r1,r2,r3,r4⟩ := hR.f5
 clear hWk hl hf hb hR c0 c1 c2 c3 c4
 unfold mbV mbC
 go_wp2
 refine bodyPost_ret (v := .tuple #[mbV A2 pm.1,.bool pm.2]) (by simp [results,Try.results36,go_sem,mbV,mbC, *]) rfl ?_
 rw [HZ.out]
 exact ⟨_,rfl,HN.out⟩
end Go.Proofs.Ythioodpmgifomaa