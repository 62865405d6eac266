/-
  Texts in one: Nmi Nmj Nmk Nml Nmw Lsq Irs.
-/
import Derived.Test.YtidnfdobljihoaaGreatJan
import Derived.Test.YtidnfdobljihoaaGreatJao
import Derived.Test.YtidnfdobljihoaaGreatJaf
import Derived.Test.YtidnfdobljihoaaGreatJah
namespace Go.Proofs.YtidnfdobljihoaaGreat
set_option linter.unusedVariables false
set_option linter.unusedSimpArgs false
open Go.RowKit Go.Sort
def imC (A : Ma) (m : Mb) : Array Value := #[.int .i64 m.id,.slice A.ra m.rows.length A.rc,.slice A.sa m.sung.length A.sc,.bool m.done]
def imV (A : Ma) (m : Mb) : Value := .agg (imC A m)
def AnsIm (w w' : World) (e : Ending) (m : Mb) : Prop := ∃ A : Ma,e = .returned (imV A m) ∧ NewL w w' (mbCels m) (mbVals A m)
theorem Bx.r4 {w : World} {B : Nat} {T : TypeId} {x0 x1 x2 x3 : Value} (h : Bx w B T #[x0,x1,x2,x3]) : w.cell? ⟨B,0,none⟩ = some x0 ∧ w.cell? ⟨B,1,none⟩ = some x1 ∧ w.cell? ⟨B,2,none⟩ = some x2 ∧ w.cell? ⟨B,3,none⟩ = some x3 := ⟨h.at 0 rfl,h.at 1 rfl,h.at 2 rfl,h.at 3 rfl⟩
theorem wrt4 (w : World) (g : Nat) {a b c d : Value} : Wrt (fun x => x = g) w ((((w.setCell ⟨g,0,none⟩ a).setCell ⟨g,1,none⟩ b).setCell ⟨g,2,none⟩ c).setCell ⟨g,3,none⟩ d) :=
 (((Wrt.set w g 0 a).trans (Wrt.set _ g 1 b) (fun _ _ h => h)).trans (Wrt.set _ g 2 c) (fun _ _ h => h)).trans (Wrt.set _ g 3 d) (fun _ _ h => h)
theorem le_mio {k : Nat} (h : k ≤ 100) : k ≤ 1000000 := Nat.le_trans h (by decide)
theorem mtA_any (v : Value) (w : World) : (Go.method 329 37 v "loop.example/g00266/impl.anew").run Tryz.prog w = .ok (83, v) w := by kernel_rfl
theorem ow_row_app {X X1 : World} {R : List Rw} {a : Option Addr} {c : Nat} {f : Fp} (h : Cel.ow X (lcl 8 rw8 R) (.slice a R.length c) f) (hb : Below X.heap.size X X1) {r : Rw} {Ar : Ra} {fr : Fp} (hr : owL X1 (rwCels r) (rwVals Ar r) fr) (hfr : ∀ b,fr b → X.heap.size ≤ b) (hl : R.length ≤ 1000000) :
  ∀ Y,Same Y (X1.alloc (.cells (rwC Ar r) 37)) → ∃ v' w4,(Builtin.append_ #[24,24] 24 #[.slice a R.length c,.slice (some ⟨X1.heap.size,0,none⟩) 1 1]).run Tryz.prog Y = .ok v' w4 ∧
   ∃ a' c' f',v' = .slice a' (R.length + 1) c' ∧ Cel.ow w4 (lcl 8 rw8 (R ++ [r])) (.slice a' (R ++ [r]).length c') f' ∧ (∀ b,f' b → f b ∨ X.heap.size ≤ b) ∧ Wrt f X w4 := by
 intro Y hY
 have hbY : Below X1.heap.size X1 Y := (oneA16 X1 _).trans (hY.below.mono (oneA16 X1 _).size)
 have h2 := Cel.ow_below (Cel.ow_below h hb) hbY
 have hrY := ow_rw8 (owL_below hr hbY)
 have hpl : ∀ b,f b → b < X.heap.size := Cel.ow_lt h
 have hXs := hb.size
 obtain ⟨a',c',w4,fp',k1,k2,k3,k4⟩ := ow_pushF (P := Tryz.prog) rw8_len (w := Y) 24 24 37 _ 120 Tryz.underlying24 Tryz.infoRw rfl (by omega) (x := r) h2 hrY (fun b hb1 hb2 => by have := hpl b hb1;have := hfr b hb2;omega) (by intro u hu;simp [rwC] at hu;rcases hu with h | h | h | h | h | h | h | h <;> rw [h] <;> rfl) X1.heap.size 37 (by rw [hY.heap];exact heap_alloc_new X1 _) (by unfold maxLen;omega) (by omega)
 have hYs : X1.heap.size < Y.heap.size := by rw [hY.size];simp
 have hXY : Below X.heap.size X Y := hb.trans (hbY.mono hb.size)
 refine ⟨_,w4,k1,a',c',fp',rfl,by rw [List.length_append];exact k2,fun b hb1 => ?_,(Wrt.of_below hXY).trans k3 (fun b _ h => h)⟩
 rcases k4 b hb1 with k | k | k
 ·exact .inl k
 ·exact .inr (hfr b k)
 ·exact .inr (by omega)
set_option maxRecDepth 100000 in
set_option maxHeartbeats 3200000 in
theorem alr_any (A : Ma) (m : Mb) (w : World) (hv : MbP w A m) (hok : ∀ k,k < m.rows.length → 0 < (rowN m.rows k).got.length ∧ szRw (rowN m.rows k) ≤ 1000) (hml : m.rows.length ≤ 5) :
  Calls Tryz.prog 173 #[.slice A.ra m.rows.length A.rc] w fun e w' => ∃ a c,e = .returned (.slice a m.rows.length c) ∧ NewO w w' (lcl 8 rw8 m.rows) (.slice a m.rows.length c) := by
 have hb0 := oneA16 w (.cells #[] 37)
 have HB0 : Hid (Below w.heap.size w (w.alloc (.cells #[] 37))) := hb0
 have HO0 : Hid (Cel.ow (w.alloc (.cells #[] 37)) (lcl 8 rw8 []) (.slice (some ⟨w.heap.size,0,none⟩) 0 0) (fun _ => False)) := ⟨some ⟨w.heap.size,0,none⟩,0,[],none,fun _ => False,rfl,OSo.nil _ _ (plainS _ _),⟨rfl,fun _ h => h⟩,fun _ _ h => h,fun b => by simp⟩
 have HV : Hid (MbP w A m) := hv
 have HOk : Hid (∀ k,k < m.rows.length → 0 < (rowN m.rows k).got.length ∧ szRw (rowN m.rows k) ≤ 1000) := hok
 clear hb0 hv hok
 go_enter Tryz.func173,Tryz.ntmps173
 go_wp2_with fail
 generalize w.alloc (.cells #[] 37) = W0 at *
 go_loopw [3,9] (fun v k wr => ∃ (j : Nat) (a : Option Addr) (cc : Nat) (Z : List Rw) (fz : Fp),j ≤ m.rows.length ∧ k = .int .i64 (j : Int) ∧ v = .slice a Z.length cc ∧ Hid (Z = m.rows.take j) ∧ Cel.ow wr (lcl 8 rw8 Z) (.slice a Z.length cc) fz ∧ (∀ b,fz b → w.heap.size ≤ b) ∧ Below w.heap.size w wr) (fun _ k _ => m.rows.length - (intOf k).toNat)
 case atStart => exact ⟨0,some ⟨w.heap.size,0,none⟩,0,[],_,Nat.zero_le _,rfl,rfl,rfl,HO0.out,fun b h => h.elim,HB0.out⟩
 case round =>
  obtain ⟨j,a,cc,Z,fz,hj,rfl,rfl,hZ,hO,hfz,hb⟩ := hrel
  by_cases hlt : j < m.rows.length
  ·have k1 : (j : Int) < (m.rows.length : Int) := by omega
   have k0 : (0 : Int) ≤ (j : Int) := by omega
   obtain ⟨g,off,Ak,hra,⟨⟨d0,d1,d2,d3⟩,d4,d5,d6,d7⟩,hrp⟩ := (HV.out.below hb).row hlt
   obtain ⟨hg0,hsr⟩ := HOk.out j hlt
   have HN : Hid (Z ++ [rowN m.rows j] = m.rows.take (j + 1)) := by
    rw [Hid,hZ.out,List.take_succ_eq_append_getElem hlt]
    simp [rowN,List.getD,hlt]
   have hZl : Z.length ≤ 1000000 := le_mio (by rw [hZ.out,List.length_take];omega)
   rw [hra]
   have HRa : Hid (A.ra = some ⟨g,off,none⟩) := hra
   generalize rowN m.rows j = r at *
   have hba := oneA16 wr (.cells #[.int .i64 r.ver,.slice Ak.ta r.txt.length Ak.tc,.slice Ak.ga r.got.length Ak.gc,.slice Ak.sa r.sus.length Ak.sc,.bool r.wed,.bool r.rdy,.int .i64 r.by_,.slice Ak.ma r.trm.length Ak.mc] 37)
   have hxr := Bx.new wr 37 #[.int .i64 r.ver,.slice Ak.ta r.txt.length Ak.tc,.slice Ak.ga r.got.length Ak.gc,.slice Ak.sa r.sus.length Ak.sc,.bool r.wed,.bool r.rdy,.int .i64 r.by_,.slice Ak.ma r.trm.length Ak.mc]
   have HBa : Hid (Below wr.heap.size wr (wr.alloc (.cells #[.int .i64 r.ver,.slice Ak.ta r.txt.length Ak.tc,.slice Ak.ga r.got.length Ak.gc,.slice Ak.sa r.sus.length Ak.sc,.bool r.wed,.bool r.rdy,.int .i64 r.by_,.slice Ak.ma r.trm.length Ak.mc] 37))) := hba
   have HB : Hid (Below w.heap.size w wr) := hb
   have HO : Hid (Cel.ow (wr.alloc (.cells #[.int .i64 r.ver,.slice Ak.ta r.txt.length Ak.tc,.slice Ak.ga r.got.length Ak.gc,.slice Ak.sa r.sus.length Ak.sc,.bool r.wed,.bool r.rdy,.int .i64 r.by_,.slice Ak.ma r.trm.length Ak.mc] 37)) (lcl 8 rw8 Z) (.slice a Z.length cc) fz) := Cel.ow_below hO hba
   have hAn := anw_any Ak r (wr.alloc (.cells #[.int .i64 r.ver,.slice Ak.ta r.txt.length Ak.tc,.slice Ak.ga r.got.length Ak.gc,.slice Ak.sa r.sus.length Ak.sc,.bool r.wed,.bool r.rdy,.int .i64 r.by_,.slice Ak.ma r.trm.length Ak.mc] 37)) (hrp.below hba) hg0 hsr
   unfold rwV at hAn
   unfold rwC at hAn
   obtain ⟨⟨x0,x1,x2,x3⟩,x4,x5,x6,x7⟩ := Bx.r8 hxr
   clear hrp hb hO hxr hba hra
   go_upto_region 5 with fail
   clear d0 d1 d2 d3 d4 d5 d6 d7
   generalize wr.alloc (.cells #[.int .i64 r.ver,.slice Ak.ta r.txt.length Ak.tc,.slice Ak.ga r.got.length Ak.gc,.slice Ak.sa r.sus.length Ak.sc,.bool r.wed,.bool r.rdy,.int .i64 r.by_,.slice Ak.ma r.trm.length Ak.mc] 37) = W5 at *
   have hmt := mtA_any (.agg #[.int .i64 r.ver,.slice Ak.ta r.txt.length Ak.tc,.slice Ak.ga r.got.length Ak.gc,.slice Ak.sa r.sus.length Ak.sc,.bool r.wed,.bool r.rdy,.int .i64 r.by_,.slice Ak.ma r.trm.length Ak.mc])
   go_wp2_with fail
   refine hAn.mono ?_
   rintro e V1 ⟨Ar,rfl,fr,hr1,hr2,hr3⟩
   have hA := ow_row_app HO.out hr3 hr1 hr2 hZl
   have HR3 : Hid (Below W5.heap.size W5 V1) := hr3
   have HR2 : Hid (W5.heap.size ≤ V1.heap.size) := hr3.size
   have HS5 : Hid (wr.heap.size ≤ W5.heap.size) := HBa.out.size
   clear hAn hmt x0 x1 x2 x3 x4 x5 x6 x7 hr1 hr2 hr3
   unfold rwV
   unfold rwC at hA ⊢
   go_wp2_with (at_builtin;refine wpList_append_of (by rfl) _ _ _ _ (by rfl) _ _ (by rfl) (by rfl) hA ⟨rfl,rfl,rfl,rfl⟩ ?_;rintro v1 w1 ⟨a1,e1,f1,rfl,q1,q2,q3⟩;have HQ1 : Hid (Cel.ow w1 (lcl 8 rw8 (Z ++ [r])) (.slice a1 (Z ++ [r]).length e1) f1) := q1;have HQ2 : Hid (∀ b,f1 b → fz b ∨ W5.heap.size ≤ b) := q2;have HQ3 : Hid (Wrt fz W5 w1) := q3;clear q1 q2 q3 hA)
   have HL : Hid ((Z ++ [r]).length = Z.length + 1) := by rw [Hid,List.length_append];rfl
   have hs1 := HB.out.size
   have hs2 := HS5.out
   go_roundw
   case rel => exact ⟨j + 1,a1,e1,Z ++ [r],f1,by omega,by go_num,by rw [HL.out],HN.out,HQ1.out,fun b hb => (HQ2.out b hb).elim (hfz b) (fun h => by omega),HQ3.out.below (HB.out.trans (HBa.out.mono HB.out.size)) (by omega) (fun b hb => hfz b hb)⟩
   case measure => simp [intOf];omega
  ·have k1 : ¬ ((j : Int) < (m.rows.length : Int)) := by omega
   have eZ : Z = m.rows := by rw [hZ.out,show j = m.rows.length by omega,List.take_length]
   subst eZ
   have HO : Hid (NewO w wr (lcl 8 rw8 m.rows) (.slice a m.rows.length cc)) := ⟨fz,hO,hfz,hb⟩
   clear hO hb hZ
   go_wp2
   go_ret
   exact ⟨a,cc,rfl,HO.out⟩
set_option maxRecDepth 100000 in
set_option maxHeartbeats 3200000 in
theorem mna_any (A : Ma) (m : Mb) (w : World) (hv : MbP w A m) (hok : ∀ k,k < m.rows.length → 0 < (rowN m.rows k).got.length ∧ szRw (rowN m.rows k) ≤ 1000) (hml : m.rows.length ≤ 5) (hsl : m.sung.length ≤ 100) :
  Calls Tryz.prog 139 #[mbV A m] w fun e w' => AnsMb w w' e m := by
 have hb1 := oneA16 w (.cells #[.int .i64 m.id,.int .i64 m.n,.slice A.ra m.rows.length A.rc,.slice A.sa m.sung.length A.sc,.bool m.done] 27)
 have hb2 := oneA16 (w.alloc (.cells #[.int .i64 m.id,.int .i64 m.n,.slice A.ra m.rows.length A.rc,.slice A.sa m.sung.length A.sc,.bool m.done] 27)) (.cells #[.int .i64 0,.int .i64 0,.slice none 0 0,.slice none 0 0,.bool false] 27)
 have hx1 : Bx ((w.alloc (.cells #[.int .i64 m.id,.int .i64 m.n,.slice A.ra m.rows.length A.rc,.slice A.sa m.sung.length A.sc,.bool m.done] 27)).alloc (.cells #[.int .i64 0,.int .i64 0,.slice none 0 0,.slice none 0 0,.bool false] 27)) w.heap.size 27 #[.int .i64 m.id,.int .i64 m.n,.slice A.ra m.rows.length A.rc,.slice A.sa m.sung.length A.sc,.bool m.done] := (Bx.new w _ _).alloc _
 have hx2 : Bx ((w.alloc (.cells #[.int .i64 m.id,.int .i64 m.n,.slice A.ra m.rows.length A.rc,.slice A.sa m.sung.length A.sc,.bool m.done] 27)).alloc (.cells #[.int .i64 0,.int .i64 0,.slice none 0 0,.slice none 0 0,.bool false] 27)) (w.heap.size + 1) 27 #[.int .i64 0,.int .i64 0,.slice none 0 0,.slice none 0 0,.bool false] := by
  have := Bx.new (w.alloc (.cells #[.int .i64 m.id,.int .i64 m.n,.slice A.ra m.rows.length A.rc,.slice A.sa m.sung.length A.sc,.bool m.done] 27)) 27 #[.int .i64 0,.int .i64 0,.slice none 0 0,.slice none 0 0,.bool false]
  simp only [World.size_alloc] at this
  exact this
 have hb12 : Below w.heap.size w ((w.alloc (.cells #[.int .i64 m.id,.int .i64 m.n,.slice A.ra m.rows.length A.rc,.slice A.sa m.sung.length A.sc,.bool m.done] 27)).alloc (.cells #[.int .i64 0,.int .i64 0,.slice none 0 0,.slice none 0 0,.bool false] 27)) := hb1.trans (hb2.mono hb1.size)
 have hsz : w.heap.size + 2 = ((w.alloc (.cells #[.int .i64 m.id,.int .i64 m.n,.slice A.ra m.rows.length A.rc,.slice A.sa m.sung.length A.sc,.bool m.done] 27)).alloc (.cells #[.int .i64 0,.int .i64 0,.slice none 0 0,.slice none 0 0,.bool false] 27)).heap.size := by simp only [World.size_alloc]
 unfold mbV mbC
 have HX1 : Hid (Bx ((w.alloc (.cells #[.int .i64 m.id,.int .i64 m.n,.slice A.ra m.rows.length A.rc,.slice A.sa m.sung.length A.sc,.bool m.done] 27)).alloc (.cells #[.int .i64 0,.int .i64 0,.slice none 0 0,.slice none 0 0,.bool false] 27)) w.heap.size 27 #[.int .i64 m.id,.int .i64 m.n,.slice A.ra m.rows.length A.rc,.slice A.sa m.sung.length A.sc,.bool m.done]) := hx1
 have HX2 : Hid (Bx ((w.alloc (.cells #[.int .i64 m.id,.int .i64 m.n,.slice A.ra m.rows.length A.rc,.slice A.sa m.sung.length A.sc,.bool m.done] 27)).alloc (.cells #[.int .i64 0,.int .i64 0,.slice none 0 0,.slice none 0 0,.bool false] 27)) (w.heap.size + 1) 27 #[.int .i64 0,.int .i64 0,.slice none 0 0,.slice none 0 0,.bool false]) := hx2
 have HB : Hid (Below w.heap.size w ((w.alloc (.cells #[.int .i64 m.id,.int .i64 m.n,.slice A.ra m.rows.length A.rc,.slice A.sa m.sung.length A.sc,.bool m.done] 27)).alloc (.cells #[.int .i64 0,.int .i64 0,.slice none 0 0,.slice none 0 0,.bool false] 27))) := hb12
 have HV : Hid (MbP w A m) := hv
 have HSz : Hid (w.heap.size + 2 = ((w.alloc (.cells #[.int .i64 m.id,.int .i64 m.n,.slice A.ra m.rows.length A.rc,.slice A.sa m.sung.length A.sc,.bool m.done] 27)).alloc (.cells #[.int .i64 0,.int .i64 0,.slice none 0 0,.slice none 0 0,.bool false] 27)).heap.size) := hsz
 obtain ⟨d0,d1,d2,d3,d4⟩ := Bx.r5 hx1
 clear hb1 hb2 hx1 hx2 hb12 hsz hv
 have hmix := mixed17
 clear d0 d1 d2 d3 d4
 go_enter Tryz.func139,Tryz.ntmps139
 go_upto_region 1 with fail
 generalize (w.alloc (.cells #[.int .i64 m.id,.int .i64 m.n,.slice A.ra m.rows.length A.rc,.slice A.sa m.sung.length A.sc,.bool m.done] 27)).alloc (.cells #[.int .i64 0,.int .i64 0,.slice none 0 0,.slice none 0 0,.bool false] 27) = W0 at *
 have hbd : Below W0.heap.size W0 W0.drew := (Same.drewN W0 1).below
 have KS : ∀ X,Below W0.heap.size W0 X → X.cell? ⟨w.heap.size,3,none⟩ = some (.slice A.sa m.sung.length A.sc) := fun X hX => (Bx.r5 (HX1.out.below hX)).2.2.2.1
 have d2 : W0.drew.cell? ⟨w.heap.size,2,none⟩ = some (.slice A.ra m.rows.length A.rc) := (Bx.r5 (HX1.out.below hbd)).2.2.1
 have hA1 := alr_any A m W0.drew ((HV.out.below HB.out).below hbd) hok hml
 refine gt_begin (S := fun X : World => X.cell? ⟨w.heap.size,3,none⟩ = some (.slice A.sa m.sung.length A.sc)) 9 hmix (by kernel_rfl) ?_
 have hHeld : (fun X : World => X.cell? ⟨w.heap.size,3,none⟩ = some (.slice A.sa m.sung.length A.sc)) W0.drew := (KS _ hbd)
 refine gt_pure (i := 0) (v := ?_) rfl (by kernel_rfl) (by kernel_rfl) (by kernel_rfl) (fun _ _ _ h => h) (Or.inl ⟨by rfl, ?_⟩) ?_
 rotate_left
 ·(intro X;go_simp;try with_reducible rfl)
 try simp only [Act.put,List.setIfInBounds_toArray,List.set_cons_zero,List.set_cons_succ]
 refine gt_pure (i := 3) (v := ?_) rfl (by kernel_rfl) (by kernel_rfl) (by kernel_rfl) (fun _ _ _ h => h) (Or.inl ⟨by rfl, ?_⟩) ?_
 rotate_left
 ·(intro X;go_simp;try with_reducible rfl)
 try simp only [Act.put,List.setIfInBounds_toArray,List.set_cons_zero,List.set_cons_succ]
 refine gt_take (i := 4) (v := ?_) rfl (by kernel_rfl) (by kernel_rfl) (by kernel_rfl) (by kernel_rfl) (fun _ _ _ h => h) (Or.inl ⟨by rfl, ?_⟩) hHeld ?_
 rotate_left
 ·(intro X hSX;(try dsimp only at hSX);have g0 := hSX;go_simp;try with_reducible rfl)
 try simp only [Act.put,List.setIfInBounds_toArray,List.set_cons_zero,List.set_cons_succ]
 refine gt_one (i := 1) rfl (by kernel_rfl) (by kernel_rfl) (fun K hK => ?_)
 go_simp
 refine hK.out _ _ (KS _ hbd) (fun hHeldN => ?_)
 clear hK hHeld
 have hHeld := hHeldN
 try simp only [Act.put,List.setIfInBounds_toArray,List.set_cons_zero,List.set_cons_succ]
 refine gt_one (i := 2) rfl (by kernel_rfl) (by kernel_rfl) (fun K hK => ?_)
 go_simp
 go_at_call 173
 refine hA1.mono ?_
 rintro e W3 ⟨a1,c1,rfl,f1,o1,p1,b1⟩
 have hb3 : Below W0.heap.size W0 W3 := hbd.trans (b1.mono hbd.size)
 have hA2 := cln_any A.sa A.sc m.sung W3 (HV.out.mbs.sung.below (HB.out.trans (hb3.mono HB.out.size)) (Nat.le_refl _)) (by omega)
 refine hK.out _ _ (KS _ hb3) (fun hHeldN => ?_)
 clear hK hHeld
 have hHeld := hHeldN
 try simp only [Act.put,List.setIfInBounds_toArray,List.set_cons_zero,List.set_cons_succ]
 refine gt_pure (i := 6) (v := ?_) rfl (by kernel_rfl) (by kernel_rfl) (by kernel_rfl) (fun _ _ _ h => h) (Or.inl ⟨by rfl, ?_⟩) ?_
 rotate_left
 ·(intro X;go_simp;try with_reducible rfl)
 try simp only [Act.put,List.setIfInBounds_toArray,List.set_cons_zero,List.set_cons_succ]
 refine gt_one (i := 5) rfl (by kernel_rfl) (by kernel_rfl) (fun K hK => ?_)
 go_simp
 go_at_call 141
 refine hA2.mono ?_
 rintro e W4 ⟨a2,c2,rfl,f2,o2,p2,b2⟩
 have hb4 : Below W0.heap.size W0 W4 := hb3.trans (b2.mono hb3.size)
 have hx4 : Bx W4 w.heap.size 27 #[.int .i64 m.id,.int .i64 m.n,.slice A.ra m.rows.length A.rc,.slice A.sa m.sung.length A.sc,.bool m.done] := HX1.out.below hb4
 have HX4 : Hid (Bx W4 w.heap.size 27 #[.int .i64 m.id,.int .i64 m.n,.slice A.ra m.rows.length A.rc,.slice A.sa m.sung.length A.sc,.bool m.done]) := hx4
 have HY4 : Hid (Bx W4 (w.heap.size + 1) 27 #[.int .i64 0,.int .i64 0,.slice none 0 0,.slice none 0 0,.bool false]) := HX2.out.below hb4
 have HB4 : Hid (Below W0.heap.size W0 W4) := hb4
 have HN1 : Hid (NewO W0 W3 (lcl 8 rw8 m.rows) (.slice a1 m.rows.length c1)) := ⟨f1,o1,p1,hb3⟩
 have HN2 : Hid (NewO W3 W4 (icl m.sung) (.slice a2 m.sung.length c2)) := ⟨f2,o2,p2,b2⟩
 refine hK.out _ _ (KS _ hb4) (fun hHeldN => ?_)
 clear hK hHeld
 have hHeld := hHeldN
 try simp only [Act.put,List.setIfInBounds_toArray,List.set_cons_zero,List.set_cons_succ]
 have e2 := hx4.f 2
 clear d2
 obtain ⟨d0,d1,d2,d3,d4⟩ := Bx.r5 hx4
 have hx6 : Bx (W4.setCell ⟨w.heap.size,2,none⟩ (.slice a1 m.rows.length c1)) w.heap.size 27 #[.int .i64 m.id,.int .i64 m.n,.slice a1 m.rows.length c1,.slice A.sa m.sung.length A.sc,.bool m.done] := by simpa using hx4.setC 2 (.slice a1 m.rows.length c1)
 have e3 := hx6.f 3
 have z3 := hx6.at 3 (v := .slice A.sa m.sung.length A.sc) rfl
 refine gt_one (i := 7) rfl (by kernel_rfl) (by kernel_rfl) (fun K hK => ?_)
 go_simp
 refine hK.out _ _ z3 (fun hHeldN => ?_)
 clear hK hHeld
 have hHeld := hHeldN
 try simp only [Act.put,List.setIfInBounds_toArray,List.set_cons_zero,List.set_cons_succ]
 refine gt_pure (i := 8) (v := ?_) rfl (by kernel_rfl) (by kernel_rfl) (by kernel_rfl) (fun _ _ _ h => h) (Or.inl ⟨by rfl, ?_⟩) ?_
 rotate_left
 ·(intro X;go_simp;try with_reducible rfl)
 try simp only [Act.put,List.setIfInBounds_toArray,List.set_cons_zero,List.set_cons_succ]
 refine gt_last rfl (by kernel_rfl) (by kernel_rfl) (fun K hK => ?_)
 go_simp
 refine hK.out _ _ ?_
 clear hK hHeld hx6 z3 e2 e3 d0 d1 d2 d3 d4 hx4 o1 o2 p1 p2 b1 b2 hb3 hb4 hbd KS hA1 hA2
 go_upto_region 2 with fail
 have hx5 : Bx ((W4.setCell ⟨w.heap.size,2,none⟩ (.slice a1 m.rows.length c1)).setCell ⟨w.heap.size,3,none⟩ (.slice a2 m.sung.length c2)) w.heap.size 27 #[.int .i64 m.id,.int .i64 m.n,.slice a1 m.rows.length c1,.slice a2 m.sung.length c2,.bool m.done] := by simpa using (HX4.out.setC 2 (.slice a1 m.rows.length c1)).setC 3 (.slice a2 m.sung.length c2)
 have hy5 : Bx ((W4.setCell ⟨w.heap.size,2,none⟩ (.slice a1 m.rows.length c1)).setCell ⟨w.heap.size,3,none⟩ (.slice a2 m.sung.length c2)) (w.heap.size + 1) 27 #[.int .i64 0,.int .i64 0,.slice none 0 0,.slice none 0 0,.bool false] := (HY4.out.far (by omega) _).far (by omega) _
 have hw5 : Wrt (fun x => x = w.heap.size) W4 ((W4.setCell ⟨w.heap.size,2,none⟩ (.slice a1 m.rows.length c1)).setCell ⟨w.heap.size,3,none⟩ (.slice a2 m.sung.length c2)) := (Wrt.set W4 w.heap.size 2 _).trans (Wrt.set _ w.heap.size 3 _) (fun _ _ h => h)
 have HL5 : Hid (∃ f,owL ((W4.setCell ⟨w.heap.size,2,none⟩ (.slice a1 m.rows.length c1)).setCell ⟨w.heap.size,3,none⟩ (.slice a2 m.sung.length c2)) (mbCels m) (mbVals ⟨a1,c1,a2,c2⟩ m) f ∧ ∀ b,f b → w.heap.size + 2 ≤ b) := by
  obtain ⟨f1,o1,p1,b1⟩ := HN1.out
  obtain ⟨f2,o2,p2,b2⟩ := HN2.out
  have hs := HSz.out
  have hs1 := b1.size
  have hl1 := Cel.ow_lt o1
  refine ⟨_,owL_c (Cel.ow_wrt (Cel.ow_below o1 b2) hw5 (fun b hb e => by have := p1 b hb;omega)) (owL_c (Cel.ow_wrt o2 hw5 (fun b hb e => by have := p2 b hb;omega)) (⟨rfl,fun _ h => h⟩ : owL _ [] [] (fun _ => False)) (fun _ _ h => h)) (fun b h1 h2 => by rcases h2 with h2 | h2;have := hl1 b h1;have := p2 b h2;omega;exact h2),fun b hb => ?_⟩
  rcases hb with h | h | h
  ·have := p1 b h;omega
  ·have := p2 b h;omega
  ·exact h.elim
 have HB5 : Hid (Below w.heap.size w ((W4.setCell ⟨w.heap.size,2,none⟩ (.slice a1 m.rows.length c1)).setCell ⟨w.heap.size,3,none⟩ (.slice a2 m.sung.length c2))) := by
  have hb := HB.out.trans (HB4.out.mono HB.out.size)
  exact hw5.below hb hb.size (fun b e => by omega)
 clear hw5
 obtain ⟨d0,d1,d2,d3,d4⟩ := Bx.r5 hx5
 obtain ⟨z0,z1,z2,z3,z4⟩ := Bx.r5 hy5
 obtain ⟨y0,y1,y2,y3,y4⟩ := hy5.f5
 clear hx5 hy5
 generalize (W4.setCell ⟨w.heap.size,2,none⟩ (.slice a1 m.rows.length c1)).setCell ⟨w.heap.size,3,none⟩ (.slice a2 m.sung.length c2) = W5 at *
 have HN : Hid (∀ {z0 z1 z2 z3 z4 : Value},NewL w (((((W5.setCell ⟨w.heap.size + 1,0,none⟩ z0).setCell ⟨w.heap.size + 1,1,none⟩ z1).setCell ⟨w.heap.size + 1,2,none⟩ z2).setCell ⟨w.heap.size + 1,3,none⟩ z3).setCell ⟨w.heap.size + 1,4,none⟩ z4) (mbCels m) (mbVals ⟨a1,c1,a2,c2⟩ m)) := fun {z0 z1 z2 z3 z4} => by
  obtain ⟨f,h1,h2⟩ := HL5.out
  exact ⟨f,owL_wrt h1 (wrt5 W5 (w.heap.size + 1)) (fun b hb e => by have := h2 b hb;omega),fun b hb => by have := h2 b hb;omega,(wrt5 W5 (w.heap.size + 1)).below HB5.out HB5.out.size (fun b e => by omega)⟩
 go_wp2
 refine bodyPost_ret (v := mbV ⟨a1,c1,a2,c2⟩ m) (by simp [results,Tryz.results139,go_sem,mbV,mbC, *]) rfl ?_
 exact ⟨_,rfl,HN.out⟩
set_option maxRecDepth 100000 in
set_option maxHeartbeats 3200000 in
theorem mof_any (A : Ma) (m : Mb) (i n : Nat) (w : World) (hv : MbP w A m) (ok : OkM m i n) :
  Calls Tryz.prog 78 #[mbV A m] w fun e w' => AnsIm w w' e m := by
 have hb1 := oneA16 w (.cells #[.int .i64 m.id,.int .i64 m.n,.slice A.ra m.rows.length A.rc,.slice A.sa m.sung.length A.sc,.bool m.done] 27)
 have hb2 := oneA16 (w.alloc (.cells #[.int .i64 m.id,.int .i64 m.n,.slice A.ra m.rows.length A.rc,.slice A.sa m.sung.length A.sc,.bool m.done] 27)) (.cells #[.int .i64 0,.slice none 0 0,.slice none 0 0,.bool false] 110)
 have hx1 : Bx ((w.alloc (.cells #[.int .i64 m.id,.int .i64 m.n,.slice A.ra m.rows.length A.rc,.slice A.sa m.sung.length A.sc,.bool m.done] 27)).alloc (.cells #[.int .i64 0,.slice none 0 0,.slice none 0 0,.bool false] 110)) w.heap.size 27 #[.int .i64 m.id,.int .i64 m.n,.slice A.ra m.rows.length A.rc,.slice A.sa m.sung.length A.sc,.bool m.done] := (Bx.new w _ _).alloc _
 have hx2 : Bx ((w.alloc (.cells #[.int .i64 m.id,.int .i64 m.n,.slice A.ra m.rows.length A.rc,.slice A.sa m.sung.length A.sc,.bool m.done] 27)).alloc (.cells #[.int .i64 0,.slice none 0 0,.slice none 0 0,.bool false] 110)) (w.heap.size + 1) 110 #[.int .i64 0,.slice none 0 0,.slice none 0 0,.bool false] := by
  have := Bx.new (w.alloc (.cells #[.int .i64 m.id,.int .i64 m.n,.slice A.ra m.rows.length A.rc,.slice A.sa m.sung.length A.sc,.bool m.done] 27)) 110 #[.int .i64 0,.slice none 0 0,.slice none 0 0,.bool false]
  simp only [World.size_alloc] at this
  exact this
 have hb12 : Below w.heap.size w ((w.alloc (.cells #[.int .i64 m.id,.int .i64 m.n,.slice A.ra m.rows.length A.rc,.slice A.sa m.sung.length A.sc,.bool m.done] 27)).alloc (.cells #[.int .i64 0,.slice none 0 0,.slice none 0 0,.bool false] 110)) := hb1.trans (hb2.mono hb1.size)
 have hsz : w.heap.size + 2 = ((w.alloc (.cells #[.int .i64 m.id,.int .i64 m.n,.slice A.ra m.rows.length A.rc,.slice A.sa m.sung.length A.sc,.bool m.done] 27)).alloc (.cells #[.int .i64 0,.slice none 0 0,.slice none 0 0,.bool false] 110)).heap.size := by simp only [World.size_alloc]
 have hn5 := ok.n5
 have hA1 := mna_any A m ((w.alloc (.cells #[.int .i64 m.id,.int .i64 m.n,.slice A.ra m.rows.length A.rc,.slice A.sa m.sung.length A.sc,.bool m.done] 27)).alloc (.cells #[.int .i64 0,.slice none 0 0,.slice none 0 0,.bool false] 110)) (hv.below hb12) (fun k hk => by
  have h := ok.ok k (by rw [← ok.len];exact hk)
  exact ⟨by rw [h.gl];omega,by have := h.c8.2;omega⟩) (by rw [ok.len];omega) (by have := ok.sl;omega)
 unfold mbV mbC at hA1
 unfold mbV mbC
 have HX2 : Hid (Bx ((w.alloc (.cells #[.int .i64 m.id,.int .i64 m.n,.slice A.ra m.rows.length A.rc,.slice A.sa m.sung.length A.sc,.bool m.done] 27)).alloc (.cells #[.int .i64 0,.slice none 0 0,.slice none 0 0,.bool false] 110)) (w.heap.size + 1) 110 #[.int .i64 0,.slice none 0 0,.slice none 0 0,.bool false]) := hx2
 have HB : Hid (Below w.heap.size w ((w.alloc (.cells #[.int .i64 m.id,.int .i64 m.n,.slice A.ra m.rows.length A.rc,.slice A.sa m.sung.length A.sc,.bool m.done] 27)).alloc (.cells #[.int .i64 0,.slice none 0 0,.slice none 0 0,.bool false] 110))) := hb12
 have HSz : Hid (w.heap.size + 2 = ((w.alloc (.cells #[.int .i64 m.id,.int .i64 m.n,.slice A.ra m.rows.length A.rc,.slice A.sa m.sung.length A.sc,.bool m.done] 27)).alloc (.cells #[.int .i64 0,.slice none 0 0,.slice none 0 0,.bool false] 110)).heap.size) := hsz
 obtain ⟨d0,d1,d2,d3,d4⟩ := Bx.r5 hx1
 clear hb1 hb2 hx1 hx2 hb12 hsz hv
 go_enter Tryz.func78,Tryz.ntmps78
 go_upto_region 1 with fail
 generalize (w.alloc (.cells #[.int .i64 m.id,.int .i64 m.n,.slice A.ra m.rows.length A.rc,.slice A.sa m.sung.length A.sc,.bool m.done] 27)).alloc (.cells #[.int .i64 0,.slice none 0 0,.slice none 0 0,.bool false] 110) = W0 at *
 go_wp2_with fail
 refine hA1.mono ?_
 rintro e W3 ⟨A3,rfl,f3,h1,h2,h3⟩
 unfold mbV mbC
 have hb7 := oneA16 W3 (.cells #[.int .i64 m.id,.int .i64 m.n,.slice A3.ra m.rows.length A3.rc,.slice A3.sa m.sung.length A3.sc,.bool m.done] 27)
 have hx7 := Bx.new W3 27 #[.int .i64 m.id,.int .i64 m.n,.slice A3.ra m.rows.length A3.rc,.slice A3.sa m.sung.length A3.sc,.bool m.done]
 have hy7 := (HX2.out.below h3).below hb7
 have HL7 : Hid (owL (W3.alloc (.cells #[.int .i64 m.id,.int .i64 m.n,.slice A3.ra m.rows.length A3.rc,.slice A3.sa m.sung.length A3.sc,.bool m.done] 27)) (mbCels m) (mbVals A3 m) f3 ∧ ∀ b,f3 b → w.heap.size + 2 ≤ b) := ⟨owL_below h1 hb7,fun b hb => by have := h2 b hb;have := HSz.out;omega⟩
 have HB7 : Hid (Below w.heap.size w (W3.alloc (.cells #[.int .i64 m.id,.int .i64 m.n,.slice A3.ra m.rows.length A3.rc,.slice A3.sa m.sung.length A3.sc,.bool m.done] 27))) := by
  have hb := HB.out.trans (h3.mono HB.out.size)
  exact hb.trans (hb7.mono hb.size)
 clear d0 d1 d2 d3 d4 hA1 h1 h2 h3 hb7
 obtain ⟨d0,d1,d2,d3,d4⟩ := Bx.r5 hx7
 obtain ⟨z0,z1,z2,z3⟩ := Bx.r4 hy7
 have y0 := hy7.f 0
 have y1 := hy7.f 1
 have y2 := hy7.f 2
 have y3 := hy7.f 3
 clear hx7 hy7
 go_upto_region 2 with fail
 generalize W3.alloc (.cells #[.int .i64 m.id,.int .i64 m.n,.slice A3.ra m.rows.length A3.rc,.slice A3.sa m.sung.length A3.sc,.bool m.done] 27) = W5 at *
 have HN : Hid (∀ {z0 z1 z2 z3 : Value},NewL w ((((W5.setCell ⟨w.heap.size + 1,0,none⟩ z0).setCell ⟨w.heap.size + 1,1,none⟩ z1).setCell ⟨w.heap.size + 1,2,none⟩ z2).setCell ⟨w.heap.size + 1,3,none⟩ z3) (mbCels m) (mbVals A3 m)) := fun {z0 z1 z2 z3} => by
  obtain ⟨h1,h2⟩ := HL7.out
  exact ⟨f3,owL_wrt h1 (wrt4 W5 (w.heap.size + 1)) (fun b hb e => by have := h2 b hb;omega),fun b hb => by have := h2 b hb;omega,(wrt4 W5 (w.heap.size + 1)).below HB7.out HB7.out.size (fun b e => by omega)⟩
 go_wp2
 refine bodyPost_ret (v := imV A3 m) (by simp [results,Tryz.results78,go_sem,imV,imC, *]) rfl ?_
 exact ⟨_,rfl,HN.out⟩
end Go.Proofs.YtidnfdobljihoaaGreat
namespace Go.Proofs.YtidnfdobljihoaaGreat
set_option linter.unusedVariables false
set_option linter.unusedSimpArgs false
open Go.RowKit Go.Sort
theorem ow_mb4 {w : World} {A : Ma} {m : Mb} {f : Fp} (h : owL w (mbCels m) (mbVals A m) f) : owL w (mb4 m) (imC A m).toList f := by
 obtain ⟨u1,us1,f1,g1,e1,o1,h2,d1,i1⟩ := h
 cases e1
 obtain ⟨u2,us2,f2,g2,e2,o2,h3,d2,i2⟩ := h2
 cases e2
 exact owL_v ⟨_,_,f1,g1,rfl,o1,⟨_,_,f2,g2,rfl,o2,owL_v h3,d2,i2⟩,d1,i1⟩
theorem mb4_ow {w : World} {m : Mb} {us : List Value} {f : Fp} (h : owL w (mb4 m) us f) : ∃ A : Ma,us = (imC A m).toList ∧ owL w (mbCels m) (mbVals A m) f := by
 obtain ⟨us0,rfl,hq1⟩ := owL_v' h
 obtain ⟨u1,us1,f1,g1,rfl,o1,h2,d1,i1⟩ := hq1
 obtain ⟨u2,us2,f2,g2,rfl,o2,h3,d2,i2⟩ := h2
 obtain ⟨us4,rfl,⟨rfl,h4⟩⟩ := owL_v' h3
 have o1' := o1
 obtain ⟨ra,rc,_,_,_,rfl,_⟩ := o1'
 obtain ⟨sa,sc,_,rfl,_⟩ := ow_icl.1 o2
 exact ⟨⟨ra,rc,sa,sc⟩,rfl,⟨_,_,f1,g1,rfl,o1,⟨_,_,f2,g2,rfl,o2,⟨rfl,h4⟩,d2,i2⟩,d1,i1⟩⟩
theorem Plc.c4 {w : World} {B : Nat} {m : Mb} {f : Fp} (h : Plc w B 0 (mb4 m) f) : ∃ A : Ma,C4 w B (.int .i64 m.id) (.slice A.ra m.rows.length A.rc) (.slice A.sa m.sung.length A.sc) (.bool m.done) ∧ (w.frozen? ⟨B,0,none⟩ = false ∧ w.frozen? ⟨B,1,none⟩ = false ∧ w.frozen? ⟨B,2,none⟩ = false ∧ w.frozen? ⟨B,3,none⟩ = false) ∧ owL w (mbCels m) (mbVals A m) f := by
 obtain ⟨vs,hpc,hov,_⟩ := h
 obtain ⟨A,rfl,hl⟩ := mb4_ow hov
 have hl4 : (imC A m).toList.length = 4 := rfl
 have c := hpc.cell
 have f := hpc.free
 exact ⟨A,⟨c 0 (by rw [hl4];omega),c 1 (by rw [hl4];omega),c 2 (by rw [hl4];omega),c 3 (by rw [hl4];omega)⟩,⟨f 0 (by rw [hl4];omega),f 1 (by rw [hl4];omega),f 2 (by rw [hl4];omega),f 3 (by rw [hl4];omega)⟩,hl⟩
theorem ibox_plc {w : World} {B : Nat} {T : TypeId} {A : Ma} {m : Mb} {fp : Fp} (h : Bx w B T (imC A m)) (hl : owL w (mbCels m) (mbVals A m) fp) (hB : ¬ fp B) : Plc w B 0 (mb4 m) fp := ⟨_,h.pc,ow_mb4 hl,hB⟩
set_option maxRecDepth 100000 in
set_option maxHeartbeats 800000 in
theorem tol_any (A : Ma) (m : Mb) (w : World) (hn : m.n = (m.rows.length : Int)) :
  Calls Tryz.prog 81 #[imV A m] w fun e w' => e = .returned (mbV A m) ∧ Below w.heap.size w w' := by
 have hmix := mixed17
 have hb1 := oneA16 w (.cells #[.int .i64 m.id,.slice A.ra m.rows.length A.rc,.slice A.sa m.sung.length A.sc,.bool m.done] 110)
 have hb2 := oneA16 (w.alloc (.cells #[.int .i64 m.id,.slice A.ra m.rows.length A.rc,.slice A.sa m.sung.length A.sc,.bool m.done] 110)) (.cells #[.int .i64 0,.int .i64 0,.slice none 0 0,.slice none 0 0,.bool false] 27)
 have hx1 : Bx ((w.alloc (.cells #[.int .i64 m.id,.slice A.ra m.rows.length A.rc,.slice A.sa m.sung.length A.sc,.bool m.done] 110)).alloc (.cells #[.int .i64 0,.int .i64 0,.slice none 0 0,.slice none 0 0,.bool false] 27)) w.heap.size 110 #[.int .i64 m.id,.slice A.ra m.rows.length A.rc,.slice A.sa m.sung.length A.sc,.bool m.done] := (Bx.new w _ _).alloc _
 have hx2 : Bx ((w.alloc (.cells #[.int .i64 m.id,.slice A.ra m.rows.length A.rc,.slice A.sa m.sung.length A.sc,.bool m.done] 110)).alloc (.cells #[.int .i64 0,.int .i64 0,.slice none 0 0,.slice none 0 0,.bool false] 27)) (w.heap.size + 1) 27 #[.int .i64 0,.int .i64 0,.slice none 0 0,.slice none 0 0,.bool false] := by
  have := Bx.new (w.alloc (.cells #[.int .i64 m.id,.slice A.ra m.rows.length A.rc,.slice A.sa m.sung.length A.sc,.bool m.done] 110)) 27 #[.int .i64 0,.int .i64 0,.slice none 0 0,.slice none 0 0,.bool false]
  simp only [World.size_alloc] at this
  exact this
 have hb12 : Below w.heap.size w ((w.alloc (.cells #[.int .i64 m.id,.slice A.ra m.rows.length A.rc,.slice A.sa m.sung.length A.sc,.bool m.done] 110)).alloc (.cells #[.int .i64 0,.int .i64 0,.slice none 0 0,.slice none 0 0,.bool false] 27)) := hb1.trans (hb2.mono hb1.size)
 unfold imV imC
 have HX2 : Hid (Bx ((w.alloc (.cells #[.int .i64 m.id,.slice A.ra m.rows.length A.rc,.slice A.sa m.sung.length A.sc,.bool m.done] 110)).alloc (.cells #[.int .i64 0,.int .i64 0,.slice none 0 0,.slice none 0 0,.bool false] 27)) (w.heap.size + 1) 27 #[.int .i64 0,.int .i64 0,.slice none 0 0,.slice none 0 0,.bool false]) := hx2
 have HB : Hid (Below w.heap.size w ((w.alloc (.cells #[.int .i64 m.id,.slice A.ra m.rows.length A.rc,.slice A.sa m.sung.length A.sc,.bool m.done] 110)).alloc (.cells #[.int .i64 0,.int .i64 0,.slice none 0 0,.slice none 0 0,.bool false] 27))) := hb12
 obtain ⟨c0,c1,c2,c3⟩ := Bx.r4 hx1
 have HN : Hid (m.n = (m.rows.length : Int)) := hn
 clear hb1 hb2 hx1 hx2 hb12 hn
 go_enter Tryz.func81,Tryz.ntmps81
 go_upto_region 1 with fail
 generalize ((w.alloc (.cells #[.int .i64 m.id,.slice A.ra m.rows.length A.rc,.slice A.sa m.sung.length A.sc,.bool m.done] 110)).alloc (.cells #[.int .i64 0,.int .i64 0,.slice none 0 0,.slice none 0 0,.bool false] 27)) = W0 at *
 have T : ∀ {x v},W0.cell? x = some v → ∀ q : Bk W0,q.w.cell? x = some v := fun h q => (q.h.cell (World.block_lt_of_cell? _ _ h)).trans h
 have y0 := T c0
 have y1 := T c1
 have y2 := T c2
 have y3 := T c3
 have hC : ∀ q : Bk W0,Calls Tryz.prog 140 #[.pointer (some ⟨w.heap.size,0,none⟩)] q.w fun e w' => e = .returned (.int .i64 (m.rows.length : Int)) ∧ Below q.w.heap.size q.w w' := fun q => (cnt_any w.heap.size A.ra m.rows.length A.rc q.w (y1 q)).mono (fun e w' h => ⟨h.1,by rw [h.2];exact Below.refl _ _⟩)
 clear T c0 c1 c2 c3
 refine wp_region_quiet_tail (C := fun w' => ∃ p : Bk W0,w' = p.w) 13 hmix (by kernel_rfl) ⟨⟨W0.drewN 1,belowN (Below.refl _ _)⟩,rfl⟩ ?_
 simp only [List.take_succ_cons,List.take_zero]
 repeat (go_big_quiet_step ((first | (go_at_call 140;exact bk_call _ (hC _)) | rfl)))
 refine wpQuiet_nil ?_
 intro wE hw'
 obtain ⟨⟨w11,hb11⟩,hw''⟩ := hw'
 have hwe : wE = w11 := hw''
 clear hw''
 subst hwe
 simp only [List.drop_succ_cons,List.drop_zero]
 have hR := HX2.out.below hb11
 have HB1 : Hid (Below w.heap.size w wE) := HB.out.trans (hb11.mono HB.out.size)
 obtain ⟨z0,z1,z2,z3,z4⟩ := Bx.r5 hR
 obtain ⟨f0,f1,f2,f3,f4⟩ := hR.f5
 clear y0 y1 y2 y3 hC hb11 hR HX2
 go_wp2
 refine bodyPost_ret (v := mbV A m) (by simp [results,Tryz.results81,go_sem,mbV,mbC,HN.out, *]) rfl ?_
 exact ⟨rfl,(wrt5 wE (w.heap.size + 1)).below HB1.out HB1.out.size (fun b e => by omega)⟩
set_option maxRecDepth 100000 in
set_option maxHeartbeats 800000 in
theorem wk1_any (F : Nat) (C : Array Value) (m : Mb) (B wb : Nat) (fp : Fp) (X : World) (R : Ending → World → Prop) (hE : ∀ (args : Array Value) (w : World),(callFunc F args).run Tryz.prog w = .ok (.enter F args) w) (h : Plc X B 0 (mb4 m) fp) (hw : X.cell? ⟨wb,0,none⟩ = some (.func (.func F) #[] C))
  (hF : m.done = false → Calls Tryz.prog F (#[.pointer (some ⟨B,0,none⟩)] ++ C) X R) (hD : m.done = true → ∀ e,Gu e → R e X) (hR : ∀ e w',R e w' → e = .returned (.tuple #[]) ∨ Gu e) :
  Calls Tryz.prog 79 #[.pointer (some ⟨B,0,none⟩),.pointer (some ⟨wb,0,none⟩)] X R := by
 obtain ⟨A,⟨c0,c1,c2,c3⟩,_,_⟩ := h.c4
 cases hd : m.done with
 | true =>
  have HD : Hid (∀ e,Gu e → R e X) := hD hd
  rw [hd] at c3
  clear hD hF hd h hR
  go_enter Tryz.func79,Tryz.ntmps79
  go_wp2_with (go_at_call 80;refine (wantF _).mono ?_;rintro e w' ⟨⟨T,v,rfl⟩,hw'⟩;rw [hw'];clear hw')
  exact ⟨rfl,HD.out _ ⟨_,_,rfl⟩⟩
 | false =>
  have hFF := hF hd
  rw [hd] at c3
  have HR : Hid (∀ e w',R e w' → e = .returned (.tuple #[]) ∨ Gu e) := hR
  clear hD hF hd h hR
  go_enter Tryz.func79,Tryz.ntmps79
  go_wp2_with (go_at_call 80;refine (wantT _).mono ?_;rintro e w' ⟨rfl,hw'⟩;rw [hw'];clear hw')
  refine hFF.mono ?_
  intro e w1 hRe
  rcases HR.out e w1 hRe with rfl | ⟨T,v,rfl⟩
  ·have HRe : Hid (R (.returned (.tuple #[])) w1) := hRe
   clear hRe hFF c0 c1 c2 c3
   go_wp2
   first | go_end0 | go_ret
   exact HRe.out
  ·exact ⟨rfl,hRe⟩
end Go.Proofs.YtidnfdobljihoaaGreat
namespace Go.Proofs.YtidnfdobljihoaaGreat
set_option linter.unusedVariables false
set_option linter.unusedSimpArgs false
open Go.RowKit Go.Sort
def wkdM (m m' : Mb) (flag : Bool) : Mb × Bool := if okMb m = true then (if m.done = true then (m,false) else if flag = true then (m',true) else (m,false)) else (zeroMb,false)
def WkR (X : World) (B : Nat) (fp : Fp) (m' : Mb) (b : Bool) (w' : World) : Prop := if b = true then Bcm X w' B 0 (mb4 m') fp else ∃ m1,Bcm X w' B 0 (mb4 m1) fp
theorem WkR.wrt {X w' : World} {B : Nat} {fp : Fp} {m' : Mb} {b : Bool} (h : WkR X B fp m' b w') : Wrt (fun x => fp x ∨ x = B) X w' := by
 unfold WkR at h
 split at h
 ·exact h.wrt
 ·obtain ⟨m1,h⟩ := h
  exact h.wrt
set_option maxRecDepth 100000 in
set_option maxHeartbeats 1600000 in
theorem wkd_any (F : Nat) (C : Array Value) (A : Ma) (m m' : Mb) (flag : Bool) (w : World) (hv : MbP w A m) (hE : ∀ (args : Array Value) (w : World),(callFunc F args).run Tryz.prog w = .ok (.enter F args) w)
  (hm' : okMb m = true → flag = true → m'.n = (m'.rows.length : Int))
  (hF : ∀ X B fp i n,Below w.heap.size w X → Plc X B 0 (mb4 m) fp → OkM m i n → m.done = false → Calls Tryz.prog F (#[.pointer (some ⟨B,0,none⟩)] ++ C) X fun e w' => (flag = true ∧ e = .returned (.tuple #[]) ∧ Bcm X w' B 0 (mb4 m') fp) ∨ (flag = false ∧ Gu e ∧ ∃ m1,Bcm X w' B 0 (mb4 m1) fp)) :
  Calls Tryz.prog 39 #[mbV A m,.func (.func F) #[] C] w fun e w' => AnsMf w w' e (wkdM m m' flag).1 (wkdM m m' flag).2 := by
 have hmf : ∀ (fn : Fn) (first cap : Array Value) (w : World),(Instr.makeFunc fn first cap).run Tryz.prog w = .ok (.func fn first cap) w := fun _ _ _ _ => rfl
 have hb1 := oneA16 w (.cells #[.int .i64 m.id,.int .i64 m.n,.slice A.ra m.rows.length A.rc,.slice A.sa m.sung.length A.sc,.bool m.done] 27)
 have hb2 := oneA16 (w.alloc (.cells #[.int .i64 m.id,.int .i64 m.n,.slice A.ra m.rows.length A.rc,.slice A.sa m.sung.length A.sc,.bool m.done] 27)) (.cells #[.func (.func F) #[] C] 68)
 have hb3 := oneA16 ((w.alloc (.cells #[.int .i64 m.id,.int .i64 m.n,.slice A.ra m.rows.length A.rc,.slice A.sa m.sung.length A.sc,.bool m.done] 27)).alloc (.cells #[.func (.func F) #[] C] 68)) (.cells #[.int .i64 0,.int .i64 0,.slice none 0 0,.slice none 0 0,.bool false] 27)
 have hx1 : Bx (((w.alloc (.cells #[.int .i64 m.id,.int .i64 m.n,.slice A.ra m.rows.length A.rc,.slice A.sa m.sung.length A.sc,.bool m.done] 27)).alloc (.cells #[.func (.func F) #[] C] 68)).alloc (.cells #[.int .i64 0,.int .i64 0,.slice none 0 0,.slice none 0 0,.bool false] 27)) w.heap.size 27 #[.int .i64 m.id,.int .i64 m.n,.slice A.ra m.rows.length A.rc,.slice A.sa m.sung.length A.sc,.bool m.done] := ((Bx.new w _ _).alloc _).alloc _
 have hx2 : Bx (((w.alloc (.cells #[.int .i64 m.id,.int .i64 m.n,.slice A.ra m.rows.length A.rc,.slice A.sa m.sung.length A.sc,.bool m.done] 27)).alloc (.cells #[.func (.func F) #[] C] 68)).alloc (.cells #[.int .i64 0,.int .i64 0,.slice none 0 0,.slice none 0 0,.bool false] 27)) (w.heap.size + 1) 68 #[.func (.func F) #[] C] := by
  have := (Bx.new (w.alloc (.cells #[.int .i64 m.id,.int .i64 m.n,.slice A.ra m.rows.length A.rc,.slice A.sa m.sung.length A.sc,.bool m.done] 27)) 68 #[.func (.func F) #[] C]).alloc (.cells #[.int .i64 0,.int .i64 0,.slice none 0 0,.slice none 0 0,.bool false] 27)
  simp only [World.size_alloc] at this
  exact this
 have hx3 : Bx (((w.alloc (.cells #[.int .i64 m.id,.int .i64 m.n,.slice A.ra m.rows.length A.rc,.slice A.sa m.sung.length A.sc,.bool m.done] 27)).alloc (.cells #[.func (.func F) #[] C] 68)).alloc (.cells #[.int .i64 0,.int .i64 0,.slice none 0 0,.slice none 0 0,.bool false] 27)) (w.heap.size + 1 + 1) 27 #[.int .i64 0,.int .i64 0,.slice none 0 0,.slice none 0 0,.bool false] := by
  have := Bx.new ((w.alloc (.cells #[.int .i64 m.id,.int .i64 m.n,.slice A.ra m.rows.length A.rc,.slice A.sa m.sung.length A.sc,.bool m.done] 27)).alloc (.cells #[.func (.func F) #[] C] 68)) 27 #[.int .i64 0,.int .i64 0,.slice none 0 0,.slice none 0 0,.bool false]
  simp only [World.size_alloc] at this
  exact this
 have hb12 := hb1.trans (hb2.mono hb1.size)
 have hb13 : Below w.heap.size w (((w.alloc (.cells #[.int .i64 m.id,.int .i64 m.n,.slice A.ra m.rows.length A.rc,.slice A.sa m.sung.length A.sc,.bool m.done] 27)).alloc (.cells #[.func (.func F) #[] C] 68)).alloc (.cells #[.int .i64 0,.int .i64 0,.slice none 0 0,.slice none 0 0,.bool false] 27)) := hb12.trans (hb3.mono hb12.size)
 have hM0 := memI_any A m (((w.alloc (.cells #[.int .i64 m.id,.int .i64 m.n,.slice A.ra m.rows.length A.rc,.slice A.sa m.sung.length A.sc,.bool m.done] 27)).alloc (.cells #[.func (.func F) #[] C] 68)).alloc (.cells #[.int .i64 0,.int .i64 0,.slice none 0 0,.slice none 0 0,.bool false] 27)) (hv.below hb13)
 unfold mbV mbC at *
 have HX1 : Hid (Bx (((w.alloc (.cells #[.int .i64 m.id,.int .i64 m.n,.slice A.ra m.rows.length A.rc,.slice A.sa m.sung.length A.sc,.bool m.done] 27)).alloc (.cells #[.func (.func F) #[] C] 68)).alloc (.cells #[.int .i64 0,.int .i64 0,.slice none 0 0,.slice none 0 0,.bool false] 27)) w.heap.size 27 #[.int .i64 m.id,.int .i64 m.n,.slice A.ra m.rows.length A.rc,.slice A.sa m.sung.length A.sc,.bool m.done]) := hx1
 have HX2 : Hid (Bx (((w.alloc (.cells #[.int .i64 m.id,.int .i64 m.n,.slice A.ra m.rows.length A.rc,.slice A.sa m.sung.length A.sc,.bool m.done] 27)).alloc (.cells #[.func (.func F) #[] C] 68)).alloc (.cells #[.int .i64 0,.int .i64 0,.slice none 0 0,.slice none 0 0,.bool false] 27)) (w.heap.size + 1) 68 #[.func (.func F) #[] C]) := hx2
 have HX3 : Hid (Bx (((w.alloc (.cells #[.int .i64 m.id,.int .i64 m.n,.slice A.ra m.rows.length A.rc,.slice A.sa m.sung.length A.sc,.bool m.done] 27)).alloc (.cells #[.func (.func F) #[] C] 68)).alloc (.cells #[.int .i64 0,.int .i64 0,.slice none 0 0,.slice none 0 0,.bool false] 27)) (w.heap.size + 1 + 1) 27 #[.int .i64 0,.int .i64 0,.slice none 0 0,.slice none 0 0,.bool false]) := hx3
 have HB0 : Hid (Below w.heap.size w (((w.alloc (.cells #[.int .i64 m.id,.int .i64 m.n,.slice A.ra m.rows.length A.rc,.slice A.sa m.sung.length A.sc,.bool m.done] 27)).alloc (.cells #[.func (.func F) #[] C] 68)).alloc (.cells #[.int .i64 0,.int .i64 0,.slice none 0 0,.slice none 0 0,.bool false] 27))) := hb13
 have HV : Hid (MbP w A m) := hv
 obtain ⟨c0,c1,c2,c3,c4⟩ := Bx.r5 hx1
 clear hb1 hb2 hb3 hx1 hx2 hx3 hb12 hb13 hv
 cases hok : okMb m with
 | false =>
  have HZ : Hid (wkdM m m' flag = (zeroMb,false)) := by rw [Hid,wkdM,if_neg (by rw [hok];decide)]
  rw [hok] at hM0
  clear hok hm' hF
  go_enter Tryz.func39,Tryz.ntmps39
  go_wp2_with fail
  generalize (((w.alloc (.cells #[.int .i64 m.id,.int .i64 m.n,.slice A.ra m.rows.length A.rc,.slice A.sa m.sung.length A.sc,.bool m.done] 27)).alloc (.cells #[.func (.func F) #[] C] 68)).alloc (.cells #[.int .i64 0,.int .i64 0,.slice none 0 0,.slice none 0 0,.bool false] 27)) = W0 at *
  refine hM0.mono ?_
  rintro e w1 ⟨rfl,hb1⟩
  have hR := HX3.out.below hb1
  have HB1 : Hid (Below w.heap.size w w1) := HB0.out.trans (hb1.mono HB0.out.size)
  obtain ⟨z0,z1,z2,z3,z4⟩ := Bx.r5 hR
  obtain ⟨f0,f1,f2,f3,f4⟩ := hR.f5
  clear hR hb1 c0 c1 c2 c3 c4 hM0
  go_wp2
  refine bodyPost_ret (v := .tuple #[mbV ⟨none,0,none,0⟩ zeroMb,.bool false]) (by simp [results,Tryz.results39,go_sem,mbV,mbC,zeroMb, *]) rfl ?_
  rw [HZ.out]
  exact ⟨_,rfl,ansM_zero ((wrt5 w1 (w.heap.size + 1 + 1)).below HB1.out HB1.out.size (fun b h => by omega))⟩
 | true =>
 obtain ⟨i,n,ok⟩ := okMb_iff.1 hok
 have HZ : Hid (wkdM m m' flag = if m.done = true then (m,false) else if flag = true then (m',true) else (m,false)) := by rw [Hid,wkdM,if_pos hok]
 have HM' : Hid (flag = true → m'.n = (m'.rows.length : Int)) := hm' hok
 have HMn : Hid (m.n = (m.rows.length : Int)) := by rw [Hid,ok.hn,ok.len]
 rw [hok] at hM0
 have HF : Hid (∀ X B fp i n,Below w.heap.size w X → Plc X B 0 (mb4 m) fp → OkM m i n → m.done = false → Calls Tryz.prog F (#[.pointer (some ⟨B,0,none⟩)] ++ C) X fun e w' => (flag = true ∧ e = .returned (.tuple #[]) ∧ Bcm X w' B 0 (mb4 m') fp) ∨ (flag = false ∧ Gu e ∧ ∃ m1,Bcm X w' B 0 (mb4 m1) fp)) := hF
 clear hok hm' hF
 go_enter Tryz.func39,Tryz.ntmps39
 go_wp2_with fail
 generalize (((w.alloc (.cells #[.int .i64 m.id,.int .i64 m.n,.slice A.ra m.rows.length A.rc,.slice A.sa m.sung.length A.sc,.bool m.done] 27)).alloc (.cells #[.func (.func F) #[] C] 68)).alloc (.cells #[.int .i64 0,.int .i64 0,.slice none 0 0,.slice none 0 0,.bool false] 27)) = W0 at *
 refine hM0.mono ?_
 rintro e w1 ⟨rfl,hb1⟩
 have HB1 : Hid (Below w.heap.size w w1) := HB0.out.trans (hb1.mono HB0.out.size)
 have HY1 : Hid (Bx w1 w.heap.size 27 #[.int .i64 m.id,.int .i64 m.n,.slice A.ra m.rows.length A.rc,.slice A.sa m.sung.length A.sc,.bool m.done]) := HX1.out.below hb1
 have HY2 : Hid (Bx w1 (w.heap.size + 1) 68 #[.func (.func F) #[] C]) := HX2.out.below hb1
 have HY3 : Hid (Bx w1 (w.heap.size + 1 + 1) 27 #[.int .i64 0,.int .i64 0,.slice none 0 0,.slice none 0 0,.bool false]) := HX3.out.below hb1
 clear hb1 c0 c1 c2 c3 c4 hM0 HX1 HX2 HX3 HB0
 have hMo := mof_any A m i n w1 (HV.out.below HB1.out) ok
 unfold mbV mbC at hMo
 obtain ⟨c0,c1,c2,c3,c4⟩ := Bx.r5 HY1.out
 go_wp2_with fail
 refine hMo.mono ?_
 rintro e w2 ⟨A2,rfl,fp,hl2,hf2,hb2⟩
 unfold imV imC
 have HB2 : Hid (Below w.heap.size w w2) := HB1.out.trans (hb2.mono HB1.out.size)
 have HZ1 : Hid (Bx w2 w.heap.size 27 #[.int .i64 m.id,.int .i64 m.n,.slice A.ra m.rows.length A.rc,.slice A.sa m.sung.length A.sc,.bool m.done]) := HY1.out.below hb2
 have HZ2 : Hid (Bx w2 (w.heap.size + 1) 68 #[.func (.func F) #[] C]) := HY2.out.below hb2
 have HZ3 : Hid (Bx w2 (w.heap.size + 1 + 1) 27 #[.int .i64 0,.int .i64 0,.slice none 0 0,.slice none 0 0,.bool false]) := HY3.out.below hb2
 have hlt2 := owL_lt hl2
 have hw1 := HY3.out.lt
 have hs2 := hb2.size
 clear c0 c1 c2 c3 c4 hMo
 -- the copy lies in a box of its own
 have hba := oneA16 w2 (.cells #[.int .i64 m.id,.slice A2.ra m.rows.length A2.rc,.slice A2.sa m.sung.length A2.sc,.bool m.done] 110)
 have hxb := Bx.new w2 110 #[.int .i64 m.id,.slice A2.ra m.rows.length A2.rc,.slice A2.sa m.sung.length A2.sc,.bool m.done]
 have hP3 : Plc (w2.alloc (.cells #[.int .i64 m.id,.slice A2.ra m.rows.length A2.rc,.slice A2.sa m.sung.length A2.sc,.bool m.done] 110)) w2.heap.size 0 (mb4 m) fp := ibox_plc hxb (owL_below hl2 hba) (fun k => by have := hlt2 _ k;omega)
 have HB3 : Hid (Below w.heap.size w (w2.alloc (.cells #[.int .i64 m.id,.slice A2.ra m.rows.length A2.rc,.slice A2.sa m.sung.length A2.sc,.bool m.done] 110))) := HB2.out.trans (hba.mono HB2.out.size)
 have HU1 : Hid (Bx (w2.alloc (.cells #[.int .i64 m.id,.slice A2.ra m.rows.length A2.rc,.slice A2.sa m.sung.length A2.sc,.bool m.done] 110)) w.heap.size 27 #[.int .i64 m.id,.int .i64 m.n,.slice A.ra m.rows.length A.rc,.slice A.sa m.sung.length A.sc,.bool m.done]) := HZ1.out.below hba
 have HU2 : Hid (Bx (w2.alloc (.cells #[.int .i64 m.id,.slice A2.ra m.rows.length A2.rc,.slice A2.sa m.sung.length A2.sc,.bool m.done] 110)) (w.heap.size + 1) 68 #[.func (.func F) #[] C]) := HZ2.out.below hba
 have HU3 : Hid (Bx (w2.alloc (.cells #[.int .i64 m.id,.slice A2.ra m.rows.length A2.rc,.slice A2.sa m.sung.length A2.sc,.bool m.done] 110)) (w.heap.size + 1 + 1) 27 #[.int .i64 0,.int .i64 0,.slice none 0 0,.slice none 0 0,.bool false]) := HZ3.out.below hba
 have hB3 : w2.heap.size < (w2.alloc (.cells #[.int .i64 m.id,.slice A2.ra m.rows.length A2.rc,.slice A2.sa m.sung.length A2.sc,.bool m.done] 110)).heap.size := hxb.lt
 have hfl : ∀ b,fp b → w.heap.size + 1 + 1 < b ∧ b < w2.heap.size := fun b hb => ⟨by have := hf2 b hb;omega,hlt2 b hb⟩
 clear hxb hl2 hf2 hlt2 hb2 hba HY1 HY2 HY3 HZ1 HZ2 HZ3
 go_upto_region 4 with fail
 generalize w2.alloc (.cells #[.int .i64 m.id,.slice A2.ra m.rows.length A2.rc,.slice A2.sa m.sung.length A2.sc,.bool m.done] 110) = V3 at *
 generalize w2.heap.size = B at *
 have hbt := oneA16 V3 (.cells #[.bool false] 4)
 have hP4 := hP3.below hbt
 have hB4 : Below w.heap.size w (V3.alloc (.cells #[.bool false] 4)) := HB3.out.trans (hbt.mono HB3.out.size)
 have hw4 := (HU2.out.below hbt).at 0 (v := .func (.func F) #[] C) rfl
 have hsz4 : V3.heap.size < (V3.alloc (.cells #[.bool false] 4)).heap.size := (Bx.new V3 4 #[.bool false]).lt
 have hT := told_any 79 #[] #[.pointer (some ⟨B,0,none⟩),.pointer (some ⟨w.heap.size + 1,0,none⟩)] V3 (fun b X => b = (!m.done && flag) ∧ WkR (V3.alloc (.cells #[.bool false] 4)) B fp m' b X) (fun _ _ => enters_of Tryz.func79 (by kernel_rfl) rfl _ _)
  ((wk1_any F C m B (w.heap.size + 1) fp _ (fun e w' => (m.done = false ∧ flag = true ∧ e = .returned (.tuple #[]) ∧ Bcm (V3.alloc (.cells #[.bool false] 4)) w' B 0 (mb4 m') fp) ∨ ((m.done = true ∨ flag = false) ∧ Gu e ∧ ∃ m1,Bcm (V3.alloc (.cells #[.bool false] 4)) w' B 0 (mb4 m1) fp)) hE hP4 hw4 (fun hd => (HF.out _ B fp i n hB4 hP4 ok hd).mono (fun e w' h => by
   rcases h with ⟨h1,h2,h3⟩ | ⟨h1,h2,h3⟩
   ·exact .inl ⟨hd,h1,h2,h3⟩
   ·exact .inr ⟨.inr h1,h2,h3⟩)) (fun hd e hg => .inr ⟨.inl hd,hg,m,Bcm.refl hP4⟩) (fun e w' h => by
   rcases h with ⟨_,_,h,_⟩ | ⟨_,h,_⟩
   ·exact .inl h
   ·exact .inr h)).mono (fun e w' h => by
   rcases h with ⟨h1,h2,h3,h4⟩ | ⟨h1,h2,h3⟩
   ·exact .inl ⟨h3,by rw [h1,h2];rfl,by unfold WkR;rw [if_pos rfl];exact h4⟩
   ·refine .inr ⟨h2, ?_,by unfold WkR;rw [if_neg (by decide)];exact h3⟩
    rcases h1 with h1 | h1 <;> rw [h1] <;> simp)) (fun b X h => (Bx.new V3 4 #[.bool false]).wrt h.2.wrt (fun k => by rcases k with k | k;have := hfl _ k;omega;omega))
 clear hP3 hbt hP4 hB4 hw4
 have HU1' := HU1
 go_wp2_with fail
 refine hT.mono ?_
 rintro e Y ⟨b,X,rfl,⟨hbv,hWk⟩,hWt⟩
 have hWX := hWk.wrt
 have hX0 : Below w.heap.size w (V3.alloc (.cells #[.bool false] 4)) := HB3.out.trans ((oneA16 V3 _).mono HB3.out.size)
 have hBX : Below w.heap.size w X := hWX.below hX0 hX0.size (fun x hx => by rcases hx with hx | hx;have := hfl x hx;omega;omega)
 have hBY : Below w.heap.size w Y := hWt.below hBX hBX.size (fun x hx => by have := HB3.out.size;omega)
 have keep : ∀ {k : Nat} {T : TypeId} {cs : Array Value},k < w.heap.size + 1 + 1 + 1 → Bx V3 k T cs → Bx Y k T cs := fun {k T cs} hk hx => ((hx.alloc (.cells #[.bool false] 4)).wrt hWX (fun kk => by rcases kk with kk | kk;have := hfl _ kk;omega;omega)).wrt hWt (fun kk => by omega)
 have HT1 : Hid (Bx Y w.heap.size 27 #[.int .i64 m.id,.int .i64 m.n,.slice A.ra m.rows.length A.rc,.slice A.sa m.sung.length A.sc,.bool m.done]) := keep (by omega) HU1.out
 have HT3 : Hid (Bx Y (w.heap.size + 1 + 1) 27 #[.int .i64 0,.int .i64 0,.slice none 0 0,.slice none 0 0,.bool false]) := keep (by omega) HU3.out
 have hsz : (V3.alloc (.cells #[.bool false] 4)).heap.size = V3.heap.size + 1 := World.size_alloc _ _
 have hpl : ∃ (mm : Mb) (fp1 : Fp),Plc Y B 0 (mb4 mm) fp1 ∧ (∀ x,fp1 x → w.heap.size + 1 + 1 < x) ∧ (b = true → mm = m') := by
  have key : ∀ mm,Bcm (V3.alloc (.cells #[.bool false] 4)) X B 0 (mb4 mm) fp → ∃ fp1,Plc Y B 0 (mb4 mm) fp1 ∧ ∀ x,fp1 x → w.heap.size + 1 + 1 < x := fun mm hb => by
   obtain ⟨fp1,h1,h2⟩ := hb.plc
   have h3 : ∀ x,fp1 x → w.heap.size + 1 + 1 < x ∧ x ≠ V3.heap.size := fun x hx => by
    rcases h2 x hx with k | k
    ·have := hfl x k;omega
    ·have := HB3.out.size;omega
   exact ⟨fp1,h1.wrt hWt (fun x hx e => by rcases hx with hx | hx;exact (h3 x hx).2 e;omega),fun x hx => (h3 x hx).1⟩
  unfold WkR at hWk
  cases b with
  | true =>
   rw [if_pos rfl] at hWk
   obtain ⟨fp1,h1,h2⟩ := key m' hWk
   exact ⟨m',fp1,h1,h2,fun _ => rfl⟩
  | false =>
   rw [if_neg (by decide)] at hWk
   obtain ⟨m1,hWk⟩ := hWk
   obtain ⟨fp1,h1,h2⟩ := key m1 hWk
   exact ⟨m1,fp1,h1,h2,fun h => by cases h⟩
 obtain ⟨mm,fp1,hPY,hf1,hmm⟩ := hpl
 have HBY : Hid (Below w.heap.size w Y) := hBY
 have hBl := hPY.lt
 obtain ⟨A3,⟨y0,y1,y2,y3⟩,⟨q0,q1,q2,q3⟩,hl3⟩ := hPY.c4
 clear hT hWk hWX hX0 hBX hBY keep hWt HU1 HU1' HU2 HU3 hPY hsz
 cases b with
 | true =>
  have hmm' := hmm rfl
  subst hmm'
  have hdf : m.done = false ∧ flag = true := by
   cases hd : m.done <;> cases hf : flag <;> rw [hd,hf] at hbv <;> simp at hbv ⊢
  have HZf : Hid (wkdM m mm flag = (mm,true)) := by rw [Hid,HZ.out,if_neg (by rw [hdf.1];decide),if_pos hdf.2]
  have hTo := tol_any A3 mm Y (HM'.out hdf.2)
  unfold imV imC at hTo
  clear hmm hbv hdf q0 q1 q2 q3
  go_wp2_with fail
  refine hTo.mono ?_
  rintro e Y2 ⟨rfl,hb2⟩
  have hR := HT3.out.below hb2
  have HN : Hid (∀ {z0 z1 z2 z3 z4 : Value},NewL w (((((Y2.setCell ⟨w.heap.size + 1 + 1,0,none⟩ z0).setCell ⟨w.heap.size + 1 + 1,1,none⟩ z1).setCell ⟨w.heap.size + 1 + 1,2,none⟩ z2).setCell ⟨w.heap.size + 1 + 1,3,none⟩ z3).setCell ⟨w.heap.size + 1 + 1,4,none⟩ z4) (mbCels mm) (mbVals A3 mm)) := fun {z0 z1 z2 z3 z4} => by
   have hB2 : Below w.heap.size w Y2 := HBY.out.trans (hb2.mono HBY.out.size)
   exact ⟨fp1,owL_wrt (owL_below hl3 hb2) (wrt5 Y2 (w.heap.size + 1 + 1)) (fun x hx e => by have := hf1 x hx;omega),fun x hx => by have := hf1 x hx;omega,(wrt5 Y2 (w.heap.size + 1 + 1)).below hB2 hB2.size (fun x e => by omega)⟩
  unfold mbV mbC
  obtain ⟨z0,z1,z2,z3,z4⟩ := Bx.r5 hR
  obtain ⟨r0,r1,r2,r3,r4⟩ := hR.f5
  clear hTo hR hb2 hl3 y0 y1 y2 y3
  go_wp2
  refine bodyPost_ret (v := .tuple #[mbV A3 mm,.bool true]) (by simp [results,Tryz.results39,go_sem,mbV,mbC, *]) rfl ?_
  rw [HZf.out]
  exact ⟨_,rfl,HN.out⟩
 | false =>
  have HZf : Hid (wkdM m m' flag = (m,false)) := by
   rw [Hid,HZ.out]
   cases hd : m.done <;> cases hf : flag <;> rw [hd,hf] at hbv <;> simp at hbv ⊢
  have hMo := mof_any A m i n Y (HV.out.below HBY.out) ok
  unfold mbV mbC at hMo
  obtain ⟨c0,c1,c2,c3,c4⟩ := Bx.r5 HT1.out
  have HQ : Hid (∀ Z,Below Y.heap.size Y Z → (∃ v0 v1 v2 v3,Z.cell? ⟨B,0,none⟩ = some v0 ∧ Z.cell? ⟨B,1,none⟩ = some v1 ∧ Z.cell? ⟨B,2,none⟩ = some v2 ∧ Z.cell? ⟨B,3,none⟩ = some v3) ∧ Z.frozen? ⟨B,0,none⟩ = false ∧ Z.frozen? ⟨B,1,none⟩ = false ∧ Z.frozen? ⟨B,2,none⟩ = false ∧ Z.frozen? ⟨B,3,none⟩ = false) := fun Z hZ => by
   have e := hZ.block B hBl
   have t : ∀ {j v},Y.cell? ⟨B,j,none⟩ = some v → Z.cell? ⟨B,j,none⟩ = some v := fun h => (World.cell?_of_block e).trans h
   have u : ∀ {j},Y.frozen? ⟨B,j,none⟩ = false → Z.frozen? ⟨B,j,none⟩ = false := fun h => by simp only [World.frozen?,e] at h ⊢;exact h
   exact ⟨⟨_,_,_,_,t y0,t y1,t y2,t y3⟩,u q0,u q1,u q2,u q3⟩
  clear hmm hbv q0 q1 q2 q3 y0 y1 y2 y3 hl3
  go_wp2_with fail
  refine hMo.mono ?_
  rintro e Y1 ⟨A4,rfl,fp4,hl4,hf4,hb4⟩
  unfold imV imC
  obtain ⟨⟨v0,v1,v2,v3,g0,g1,g2,g3⟩,p0,p1,p2,p3⟩ := HQ.out Y1 hb4
  have hsY := hb4.size
  have hW4 : Wrt (fun x => x = B) Y1 ((((Y1.setCell ⟨B,0,none⟩ (.int .i64 m.id)).setCell ⟨B,1,none⟩ (.slice A4.ra m.rows.length A4.rc)).setCell ⟨B,2,none⟩ (.slice A4.sa m.sung.length A4.sc)).setCell ⟨B,3,none⟩ (.bool m.done)) := wrt4 Y1 B
  have hl5 : owL ((((Y1.setCell ⟨B,0,none⟩ (.int .i64 m.id)).setCell ⟨B,1,none⟩ (.slice A4.ra m.rows.length A4.rc)).setCell ⟨B,2,none⟩ (.slice A4.sa m.sung.length A4.sc)).setCell ⟨B,3,none⟩ (.bool m.done)) (mbCels m) (mbVals A4 m) fp4 := owL_wrt hl4 hW4 (fun x hx e => by have := hf4 x hx;omega)
  have HB5 : Hid (Below w.heap.size w ((((Y1.setCell ⟨B,0,none⟩ (.int .i64 m.id)).setCell ⟨B,1,none⟩ (.slice A4.ra m.rows.length A4.rc)).setCell ⟨B,2,none⟩ (.slice A4.sa m.sung.length A4.sc)).setCell ⟨B,3,none⟩ (.bool m.done))) := hW4.below (HBY.out.trans (hb4.mono HBY.out.size)) (HBY.out.trans (hb4.mono HBY.out.size)).size (fun x e => by omega)
  have hT5 : Bx ((((Y1.setCell ⟨B,0,none⟩ (.int .i64 m.id)).setCell ⟨B,1,none⟩ (.slice A4.ra m.rows.length A4.rc)).setCell ⟨B,2,none⟩ (.slice A4.sa m.sung.length A4.sc)).setCell ⟨B,3,none⟩ (.bool m.done)) (w.heap.size + 1 + 1) 27 #[.int .i64 0,.int .i64 0,.slice none 0 0,.slice none 0 0,.bool false] := (HT3.out.below hb4).wrt hW4 (fun e => by omega)
  have HT5 : Hid (Bx ((((Y1.setCell ⟨B,0,none⟩ (.int .i64 m.id)).setCell ⟨B,1,none⟩ (.slice A4.ra m.rows.length A4.rc)).setCell ⟨B,2,none⟩ (.slice A4.sa m.sung.length A4.sc)).setCell ⟨B,3,none⟩ (.bool m.done)) (w.heap.size + 1 + 1) 27 #[.int .i64 0,.int .i64 0,.slice none 0 0,.slice none 0 0,.bool false]) := hT5
  have HL5 : Hid (owL ((((Y1.setCell ⟨B,0,none⟩ (.int .i64 m.id)).setCell ⟨B,1,none⟩ (.slice A4.ra m.rows.length A4.rc)).setCell ⟨B,2,none⟩ (.slice A4.sa m.sung.length A4.sc)).setCell ⟨B,3,none⟩ (.bool m.done)) (mbCels m) (mbVals A4 m) fp4) := hl5
  have x0 : ((((Y1.setCell ⟨B,0,none⟩ (.int .i64 m.id)).setCell ⟨B,1,none⟩ (.slice A4.ra m.rows.length A4.rc)).setCell ⟨B,2,none⟩ (.slice A4.sa m.sung.length A4.sc)).setCell ⟨B,3,none⟩ (.bool m.done)).cell? ⟨B,0,none⟩ = some (.int .i64 m.id) := by simp [go_sem,g0,g1,g2,g3]
  have x1 : ((((Y1.setCell ⟨B,0,none⟩ (.int .i64 m.id)).setCell ⟨B,1,none⟩ (.slice A4.ra m.rows.length A4.rc)).setCell ⟨B,2,none⟩ (.slice A4.sa m.sung.length A4.sc)).setCell ⟨B,3,none⟩ (.bool m.done)).cell? ⟨B,1,none⟩ = some (.slice A4.ra m.rows.length A4.rc) := by simp [go_sem,g0,g1,g2,g3]
  have x2 : ((((Y1.setCell ⟨B,0,none⟩ (.int .i64 m.id)).setCell ⟨B,1,none⟩ (.slice A4.ra m.rows.length A4.rc)).setCell ⟨B,2,none⟩ (.slice A4.sa m.sung.length A4.sc)).setCell ⟨B,3,none⟩ (.bool m.done)).cell? ⟨B,2,none⟩ = some (.slice A4.sa m.sung.length A4.sc) := by simp [go_sem,g0,g1,g2,g3]
  have x3 : ((((Y1.setCell ⟨B,0,none⟩ (.int .i64 m.id)).setCell ⟨B,1,none⟩ (.slice A4.ra m.rows.length A4.rc)).setCell ⟨B,2,none⟩ (.slice A4.sa m.sung.length A4.sc)).setCell ⟨B,3,none⟩ (.bool m.done)).cell? ⟨B,3,none⟩ = some (.bool m.done) := by simp [go_sem,g0,g1,g2,g3]
  have hTo := tol_any A4 m ((((Y1.setCell ⟨B,0,none⟩ (.int .i64 m.id)).setCell ⟨B,1,none⟩ (.slice A4.ra m.rows.length A4.rc)).setCell ⟨B,2,none⟩ (.slice A4.sa m.sung.length A4.sc)).setCell ⟨B,3,none⟩ (.bool m.done)) HMn.out
  unfold imV imC at hTo
  have HF4 : Hid (∀ x,fp4 x → w.heap.size + 1 + 1 < x) := fun x hx => by have := hf4 x hx;have := HT3.out.lt;omega
  clear hl4 hf4 hl5 hT5 hW4 hMo c0 c1 c2 c3 c4 HQ
  go_upto_region 7 with fail
  generalize ((((Y1.setCell ⟨B,0,none⟩ (.int .i64 m.id)).setCell ⟨B,1,none⟩ (.slice A4.ra m.rows.length A4.rc)).setCell ⟨B,2,none⟩ (.slice A4.sa m.sung.length A4.sc)).setCell ⟨B,3,none⟩ (.bool m.done)) = Y5 at *
  clear g0 g1 g2 g3 p0 p1 p2 p3
  go_wp2_with fail
  refine hTo.mono ?_
  rintro e Y2 ⟨rfl,hb2⟩
  have hR := HT5.out.below hb2
  have HN : Hid (∀ {z0 z1 z2 z3 z4 : Value},NewL w (((((Y2.setCell ⟨w.heap.size + 1 + 1,0,none⟩ z0).setCell ⟨w.heap.size + 1 + 1,1,none⟩ z1).setCell ⟨w.heap.size + 1 + 1,2,none⟩ z2).setCell ⟨w.heap.size + 1 + 1,3,none⟩ z3).setCell ⟨w.heap.size + 1 + 1,4,none⟩ z4) (mbCels m) (mbVals A4 m)) := fun {z0 z1 z2 z3 z4} => by
   have hB2 : Below w.heap.size w Y2 := HB5.out.trans (hb2.mono HB5.out.size)
   exact ⟨fp4,owL_wrt (owL_below HL5.out hb2) (wrt5 Y2 (w.heap.size + 1 + 1)) (fun x hx e => by have := HF4.out x hx;omega),fun x hx => by have := HF4.out x hx;omega,(wrt5 Y2 (w.heap.size + 1 + 1)).below hB2 hB2.size (fun x e => by omega)⟩
  unfold mbV mbC
  obtain ⟨z0,z1,z2,z3,z4⟩ := Bx.r5 hR
  obtain ⟨r0,r1,r2,r3,r4⟩ := hR.f5
  clear hTo hR hb2 x0 x1 x2 x3
  go_wp2
  refine bodyPost_ret (v := .tuple #[mbV A4 m,.bool false]) (by simp [results,Tryz.results39,go_sem,mbV,mbC, *]) rfl ?_
  rw [HZf.out]
  exact ⟨_,rfl,HN.out⟩
end Go.Proofs.YtidnfdobljihoaaGreat
namespace Go.Proofs.YtidnfdobljihoaaGreat
set_option linter.unusedVariables false
set_option linter.unusedSimpArgs false
open Go.RowKit Go.Sort
set_option maxHeartbeats 800000 in
theorem nvT_any (g q : Nat) (ver : Int) (X : World) (hc : X.cell? ⟨g,q,none⟩ = some (.int .i64 ver)) (hf : X.frozen? ⟨g,q,none⟩ = false) (h0 : 0 ≤ ver) (hv : ver < 1000000) :
  Calls Tryz.prog 90 #[.pointer (some ⟨g,q,none⟩)] X fun e w' => e = .returned (.tuple #[]) ∧ w' = X.setCell ⟨g,q,none⟩ (.int .i64 (ver + 1)) := by
 have hw : wrap64 (ver + 1) = ver + 1 := by unfold wrap64;omega
 go_enter Tryz.func90,Tryz.ntmps90
 go_wp2_with (go_at_call 80;refine (wantT _).mono ?_;rintro e w' ⟨rfl,hw'⟩;rw [hw'];clear hw')
 first | go_end0 | go_ret
 exact ⟨rfl,rfl⟩
attribute [local irreducible] sv
end Go.Proofs.YtidnfdobljihoaaGreat
namespace Go.Proofs.YtidnfdobljihoaaGreat
set_option linter.unusedVariables false
set_option linter.unusedSimpArgs false
open Go.RowKit Go.Sort
theorem Iw.own {w X : World} {B : Nat} {m : Mb} {fp : Fp} {g off c : Nat} (h : Iw w X B m fp g off c) {i : Nat} (hi : i < m.rows.length) : ∃ f,Plc X g (off + i * 8) (rw8 (rowN m.rows i)) f ∧ B ≠ g ∧ ¬ f B ∧ (∀ b,f b → b < X.heap.size) ∧ g < X.heap.size ∧ ∀ (X1 Y : World) (r : Rw),Below X.heap.size X X1 → Bcm X1 Y g (off + i * 8) (rw8 r) f → Iw w Y B { m with rows := m.rows.set i r } fp g off c := by
 obtain ⟨fp1,hp,hf1,hgo⟩ := h.bcm.next
 obtain ⟨g',off',c',f,h1,hgB,hfg,hfs,hpl,hput⟩ := hp.el (F := rw8) rw8_len (by omega) (j := 1) (L := m.rows) rfl (rowN_at hi)
 have e := Option.some.inj (h1.symm.trans h.rws)
 cases e
 have hfB : ¬ f B := fun hb => hp.nB (hfs B hb)
 refine ⟨f,hpl,fun e => hgB e.symm,hfB,hpl.flt,hpl.lt,fun X1 Y r hb hB => ?_⟩
 have hB1 := hB.first hb hpl.lt hpl.flt
 refine ⟨hgo Y _ rfl (hput Y r hB1), ?_⟩
 rw [World.cell?_of_block (hB1.wrt.block B hp.lt (fun kk => by rcases kk with kk | kk;exact hfB kk;exact hgB kk.symm)),h.rws]
 simp
end Go.Proofs.YtidnfdobljihoaaGreat
namespace Go.Proofs.YtidnfdobljihoaaGreat
set_option linter.unusedVariables false
set_option linter.unusedSimpArgs false
open Go.RowKit Go.Sort
def I64 (x : Int) : Prop := -9223372036854775808 ≤ x ∧ x ≤ 9223372036854775807
def ImplWoven : Prop := ∀ (a : Option Addr) (len cap : Nat) (cs : List Int) (w : World),Vec w a len cs → len ≤ cap → cap ≤ maxLen → Calls Tryz.prog 76 #[.slice a len cap] w fun e w' => ∃ Z,IsWoven cs Z ∧ AnsN w w' e Z
end Go.Proofs.YtidnfdobljihoaaGreat
namespace Go.Proofs.YtidnfdobljihoaaGreat
set_option linter.unusedVariables false
set_option linter.unusedSimpArgs false
open Go.RowKit Go.Sort
set_option maxHeartbeats 400000 in
theorem isW7_any (n last : Int) (w : World) : Calls Tryz.prog 100 #[.int .i64 n,.int .i64 last] w fun e w' => e = .returned (.bool (inB n 0 last)) ∧ w' = w := by
 by_cases h0 : (0 : Int) ≤ n
 ·have H : Hid (inB n 0 last = decide (n ≤ last)) := by rw [Hid,inB];simp [h0]
  go_enter Tryz.func100,Tryz.ntmps100
  go_wp2
  go_ret
  exact ⟨ret_bool (by rw [H.out]),rfl⟩
 ·have H : Hid (inB n 0 last = false) := by rw [Hid,inB];simp [h0]
  go_enter Tryz.func100,Tryz.ntmps100
  go_wp2
  go_ret
  exact ⟨ret_bool (by rw [H.out]),rfl⟩
set_option maxHeartbeats 400000 in
theorem senders_any (n : Int) (w : World) : Calls Tryz.prog 182 #[.int .i64 n] w fun e w' => e = .returned (.bool (inB n 1 8)) ∧ w' = w := by
 by_cases h0 : (1 : Int) ≤ n
 ·have H : Hid (inB n 1 8 = decide (n ≤ 8)) := by rw [Hid,inB];simp [h0]
  go_enter Tryz.func182,Tryz.ntmps182
  go_wp2
  go_ret
  exact ⟨ret_bool (by rw [H.out]),rfl⟩
 ·have H : Hid (inB n 1 8 = false) := by rw [Hid,inB];simp [h0]
  go_enter Tryz.func182,Tryz.ntmps182
  go_wp2
  go_ret
  exact ⟨ret_bool (by rw [H.out]),rfl⟩
set_option maxHeartbeats 400000 in
theorem turn_any (n q : Int) (w : World) : Calls Tryz.prog 157 #[.int .i64 n,.int .i64 q] w fun e w' => e = .returned (.bool (tellB n q)) ∧ w' = w := by
 cases e0 : inB n 1 8 with
 | false =>
  have H : Hid (tellB n q = false) := by rw [Hid,tellB,e0];rfl
  go_enter Tryz.func157,Tryz.ntmps157
  go_wp2_with (first | (go_at_call 182;refine (senders_any _ _).mono ?_;rintro e w' ⟨rfl,rfl⟩) | (go_at_call 100;refine (isW7_any _ _ _).mono ?_;rintro e w' ⟨rfl,rfl⟩))
  go_ret
  exact ⟨ret_bool (by rw [H.out]),rfl⟩
 | true =>
  have H : Hid (tellB n q = inB q 0 800000) := by rw [Hid,tellB,e0];rfl
  go_enter Tryz.func157,Tryz.ntmps157
  go_wp2_with (first | (go_at_call 182;refine (senders_any _ _).mono ?_;rintro e w' ⟨rfl,rfl⟩) | (go_at_call 100;refine (isW7_any _ _ _).mono ?_;rintro e w' ⟨rfl,rfl⟩))
  go_ret
  exact ⟨ret_bool (by rw [H.out]),rfl⟩
set_option maxHeartbeats 800000 in
theorem seqI_any (n s i : Int) (hn : I64 n) (w : World) : Calls Tryz.prog 172 #[.int .i64 n,.int .i64 s,.int .i64 i] w fun e w' => e = .returned (.int .i64 (seqL n s i)) ∧ w' = w := by
 unfold I64 at hn
 cases e0 : inB n 1 8 with
 | false =>
  have HZ : Hid (seqL n s i = -1) := by rw [Hid,seqL,seqB,e0];rfl
  go_enter Tryz.func172,Tryz.ntmps172
  go_wp2_with (first | (go_at_call 182;refine (senders_any _ _).mono ?_;rintro e w' ⟨rfl,rfl⟩) | (go_at_call 100;refine (isW7_any _ _ _).mono ?_;rintro e w' ⟨rfl,rfl⟩))
  go_ret
  exact ⟨ret_int (by rw [HZ.out]),rfl⟩
 | true =>
  have hk := inB7.1 e0
  cases e1 : inB s 0 (n - 1) with
  | false =>
   have HZ : Hid (seqL n s i = -1) := by rw [Hid,seqL,seqB,e0,e1];rfl
   go_enter Tryz.func172,Tryz.ntmps172
   go_wp2_with (first | (go_at_call 182;refine (senders_any _ _).mono ?_;rintro e w' ⟨rfl,rfl⟩) | (go_at_call 100;refine (isW7_any _ _ _).mono ?_;rintro e w' ⟨rfl,rfl⟩))
   go_ret
   exact ⟨ret_int (by rw [HZ.out]),rfl⟩
  | true =>
   have hs := inB7.1 e1
   cases e2 : inB i 0 100000 with
   | false =>
    have HZ : Hid (seqL n s i = -1) := by rw [Hid,seqL,seqB,e0,e1,e2];rfl
    go_enter Tryz.func172,Tryz.ntmps172
    go_wp2_with (first | (go_at_call 182;refine (senders_any _ _).mono ?_;rintro e w' ⟨rfl,rfl⟩) | (go_at_call 100;refine (isW7_any _ _ _).mono ?_;rintro e w' ⟨rfl,rfl⟩))
    go_ret
    exact ⟨ret_int (by rw [HZ.out]),rfl⟩
   | true =>
    have hi := inB7.1 e2
    have HZ : Hid (seqL n s i = n * i + s) := by rw [Hid,seqL,seqB,e0,e1,e2];rfl
    have m0 : 0 ≤ n * i := Int.mul_nonneg (by omega) hi.1
    have m1 : n * i ≤ 8 * 100000 := Int.mul_le_mul hk.2 hi.2 hi.1 (by omega)
    generalize hm : n * i = m at *
    go_enter Tryz.func172,Tryz.ntmps172
    go_wp2_with (first | (go_at_call 182;refine (senders_any _ _).mono ?_;rintro e w' ⟨rfl,rfl⟩) | (go_at_call 100;refine (isW7_any _ _ _).mono ?_;rintro e w' ⟨rfl,rfl⟩))
    go_ret
    exact ⟨ret_int (by rw [HZ.out]),rfl⟩
set_option maxHeartbeats 800000 in
theorem sndI_any (n q : Int) (w : World) : Calls Tryz.prog 104 #[.int .i64 n,.int .i64 q] w fun e w' => e = .returned (.int .i64 (sndL n q)) ∧ w' = w := by
 cases e0 : tellB n q with
 | false =>
  have HZ : Hid (sndL n q = -1) := by rw [Hid,sndL,e0];rfl
  go_enter Tryz.func104,Tryz.ntmps104
  go_wp2_with (go_at_call 157;refine (turn_any _ _ _).mono ?_;rintro e w' ⟨rfl,rfl⟩)
  go_ret
  exact ⟨ret_int (by rw [HZ.out]),rfl⟩
 | true =>
  have hk := tellB_iff.1 e0
  have HZ : Hid (sndL n q = q % n) := by rw [Hid,sndL,e0];rfl
  have hne : (n == 0) = false := by simp;omega
  have ht : q.tmod n = q % n := Int.tmod_eq_emod_of_nonneg hk.2.1
  have b0 : 0 ≤ q % n := Int.emod_nonneg _ (by omega)
  have b1 : q % n < n := Int.emod_lt_of_pos _ (by omega)
  go_enter Tryz.func104,Tryz.ntmps104
  go_wp2_with (go_at_call 157;refine (turn_any _ _ _).mono ?_;rintro e w' ⟨rfl,rfl⟩)
  go_ret
  exact ⟨ret_int (by rw [HZ.out]),rfl⟩
set_option maxHeartbeats 800000 in
theorem idxI_any (n q : Int) (w : World) : Calls Tryz.prog 105 #[.int .i64 n,.int .i64 q] w fun e w' => e = .returned (.int .i64 (idxL n q)) ∧ w' = w := by
 cases e0 : tellB n q with
 | false =>
  have HZ : Hid (idxL n q = -1) := by rw [Hid,idxL,e0];rfl
  go_enter Tryz.func105,Tryz.ntmps105
  go_wp2_with (go_at_call 157;refine (turn_any _ _ _).mono ?_;rintro e w' ⟨rfl,rfl⟩)
  go_ret
  exact ⟨ret_int (by rw [HZ.out]),rfl⟩
 | true =>
  have hk := tellB_iff.1 e0
  have HZ : Hid (idxL n q = q / n) := by rw [Hid,idxL,e0];rfl
  have hne : (n == 0) = false := by simp;omega
  have ht : q.tdiv n = q / n := Int.tdiv_eq_ediv_of_nonneg hk.2.1
  have b0 : 0 ≤ q / n := Int.ediv_nonneg hk.2.1 (by omega)
  have b1 : q / n ≤ q := Int.ediv_le_self n hk.2.1
  go_enter Tryz.func105,Tryz.ntmps105
  go_wp2_with (go_at_call 157;refine (turn_any _ _ _).mono ?_;rintro e w' ⟨rfl,rfl⟩)
  go_ret
  exact ⟨ret_int (by rw [HZ.out]),rfl⟩
def gr (cs : List Int) : Int := hiL (el cs 0) cs.tail
theorem hiL_le {x m : Int} : ∀ {xs : List Int},hiL x xs ≤ m ↔ x ≤ m ∧ ∀ y ∈ xs,y ≤ m := by
 intro xs
 induction xs generalizing x with
 | nil => simp [hiL]
 | cons y ys ih =>
  show hiL (max x y) ys ≤ m ↔ _
  rw [ih]
  simp only [List.mem_cons]
  constructor
  ·rintro ⟨h1,h2⟩
   exact ⟨by omega,fun z hz => by rcases hz with rfl | hz;omega;exact h2 z hz⟩
  ·rintro ⟨h1,h2⟩
   exact ⟨by have := h2 y (.inl rfl);omega,fun z hz => h2 z (.inr hz)⟩
theorem gr_le {cs : List Int} {m : Int} (h1 : 1 ≤ cs.length) : gr cs ≤ m ↔ ∀ i,i < cs.length → el cs i ≤ m := by
 cases cs with
 | nil => simp at h1
 | cons c ds =>
  have e : gr (c :: ds) = hiL c ds := rfl
  rw [e,hiL_le]
  constructor
  ·rintro ⟨a,b⟩ i hi
   rw [el_eq hi]
   have := List.getElem_mem hi
   rcases List.mem_cons.1 this with h | h
   ·rw [h];exact a
   ·exact b _ h
  ·intro h
   refine ⟨h 0 (by simp),fun y hy => ?_⟩
   obtain ⟨i,hi,rfl⟩ := List.getElem_of_mem hy
   have := h (i + 1) (by simp;omega)
   rw [el_eq (by simp;omega)] at this
   simpa using this
theorem gr_ge {cs : List Int} {i : Nat} (hi : i < cs.length) : el cs i ≤ gr cs := (gr_le (by omega)).1 (Int.le_refl _) i hi
theorem okCt_gr {cs : List Int} (h : okB cs = true) : okCt cs = decide (gr cs ≤ 100000) := by
 have h1 := (okB_len h).1
 rw [Bool.eq_iff_iff,decide_eq_true_eq,gr_le h1]
 exact ⟨fun k => fun i hi => ((okCt_all k).2 i hi).2,fun k => okCt_of h k⟩
set_option maxRecDepth 100000 in
set_option maxHeartbeats 800000 in
theorem areCounts_any (a : Option Addr) (len cap : Nat) (cs : List Int) (w : World) (hv : Vec w a len cs) (hcap : len ≤ cap) (hm : cap ≤ maxLen) :
  Calls Tryz.prog 134 #[.slice a len cap] w fun e w' => e = .returned (.bool (okCt cs)) ∧ ∃ n,w' = w.drewN n := by
 have hV := implOk_any a len cap cs w hv hcap hm
 cases hb : okB cs with
 | false =>
  rw [hb] at hV
  have HZ : Hid (okCt cs = false) := by rw [Hid,okCt,hb];rfl
  clear hb
  go_enter Tryz.func134,Tryz.ntmps134
  go_wp2_with (go_at_call 168;refine hV.mono ?_;rintro e w' ⟨rfl,n1,rfl⟩)
  go_ret
  exact ⟨ret_bool (by rw [HZ.out]),_,rfl⟩
 | true =>
  rw [hb] at hV
  have HZ : Hid (okCt cs = decide (gr cs ≤ 100000)) := okCt_gr hb
  have h18 := okB_len hb
  clear hb
  obtain ⟨hlen,hf,hcs⟩ := hv
  have hG : Hid (∀ n,Calls Tryz.prog 160 #[.slice a len cap] (w.drewN n) fun e w' => e = .returned (.int .i64 (gr cs)) ∧ ∃ m,w' = (w.drewN n).drewN m) := by
   intro n
   rcases hcs with h0 | ⟨b,off,rfl,hc⟩
   ·omega
   ·exact vgreatest_any b off len cap cs _ hlen hf (fun k hk => by rw [World.cell?_drewN];exact hc k hk) (by omega) hcap hm
  have HL : Hid (cs.length = len) := hlen
  clear hlen hcs hf h18
  generalize gr cs = G at *
  go_enter Tryz.func134,Tryz.ntmps134
  go_wp2_with (first | (go_at_call 168;refine hV.mono ?_;rintro e w' ⟨rfl,n1,rfl⟩) | (go_at_call 160;refine (hG.out _).mono ?_;rintro e w' ⟨rfl,n2,rfl⟩))
  go_ret
  exact ⟨ret_bool (by rw [HZ.out]),_,rfl⟩
end Go.Proofs.YtidnfdobljihoaaGreat