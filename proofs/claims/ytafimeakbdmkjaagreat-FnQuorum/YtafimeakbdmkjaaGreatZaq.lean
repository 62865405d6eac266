/-
  Texts in one.
-/
import Derived.Test.YtafimeakbdmkjaaGreatZaa
import Derived.Test.YtafimeakbdmkjaaGreatZap
import Derived.Test.YtafimeakbdmkjaaGreatZao
import Derived.Test.YtafimeakbdmkjaaGreatZag
namespace Go.Proofs.YtafimeakbdmkjaaGreat
set_option linter.unusedVariables false
set_option linter.unusedSimpArgs false
open Go.RowKit Go.Sort
set_option maxRecDepth 100000
set_option maxHeartbeats 12800000
def BP (A:Ma) (m:Mb):Array Value:=#[.int .i64 m.id,.slice A.ra m.rows.length A.rc,.slice A.sa m.au.length A.sc,.bool m.done]
def FD (A:Ma) (m:Mb):Value:=.agg (BP A m)
def aw5 (w w':World) (e:Ending) (m:Mb):Prop:=∃ A:Ma,e=.returned (FD A m)∧iL w w' (fD m) (fE A m)
theorem Bx.r4 {w:World} {B:Nat} {T:TypeId} {x0 x1 x2 x3:Value} (h:Bx w B T #[x0,x1,x2,x3]):w.cell? ⟨B,0,none⟩=some x0∧w.cell? ⟨B,1,none⟩=some x1∧w.cell? ⟨B,2,none⟩=some x2∧w.cell? ⟨B,3,none⟩=some x3:=⟨h.at 0 rfl,h.at 1 rfl,h.at 2 rfl,h.at 3 rfl⟩
theorem QF (w:World) (g:Nat) {a b c d:Value}:aO (fun x=>x=g) w ((((w.setCell ⟨g,0,none⟩ a).setCell ⟨g,1,none⟩ b).setCell ⟨g,2,none⟩ c).setCell ⟨g,3,none⟩ d) :=
 (((aO.set w g 0 a).trans (aO.set _ g 1 b) (fun _ _ h=>h)).trans (aO.set _ g 2 c) (fun _ _ h=>h)).trans (aO.set _ g 3 d) (fun _ _ h=>h)
theorem aq1 {k:Nat} (h:k≤100):k≤1000000:=Nat.le_trans h (by decide)
theorem ad4 (v : Value) (w : World) : (Go.method 326 44 v "loop.example/g00266/impl.anew").run Tryz.prog w = .ok (141, v) w := by kernel_rfl
theorem QG {X X1:World} {R:List Rw} {a:Option Addr} {c:Nat} {f:Fp} (h:aI.ow X (dA 8 eY R) (.slice a R.length c) f) (hb:Below X.heap.size X X1) {r:Rw} {Ar:Ra} {fr:Fp} (hr:bG X1 (fM r) (fC Ar r) fr) (hfr:∀ b,fr b→X.heap.size≤b) (hl:R.length≤1000000) :
  ∀ Y,Same Y (X1.alloc (.cells (bD Ar r) 44))→∃ v' w4,(Builtin.append_ #[45,45] 45 #[.slice a R.length c,.slice (some ⟨X1.heap.size,0,none⟩) 1 1]).run Tryz.prog Y=.ok v' w4 ∧
   ∃ a' c' f',v'=.slice a' (R.length+1) c'∧aI.ow w4 (dA 8 eY (R++[r])) (.slice a' (R++[r]).length c') f'∧(∀ b,f' b→f b∨X.heap.size≤b)∧aO f X w4:=by
 intro Y hY;have jg:=(aF X1 _).trans (hY.below.mono (aF X1 _).size);have h2:=aI.cZ (aI.cZ h hb) jg;have sG:=AZ (bM hr jg);have hpl:=aI.iT h;have G8:=hb.size;obtain⟨a',c',w4,fp',k1,k2,k3,k4⟩:=qI (P:=Tryz.prog) gI (w:=Y) 45 45 44 _ 120 Tryz.underlying45 Tryz.infoRw rfl (by omega) (x:=r) h2 sG (fun b hb1 hb2=>by have:=hpl b hb1;have:=hfr b hb2;omega) (by intro u hu;simp[bD] at hu;rcases hu with h|h|h|h|h|h|h|h<;>rw[h]<;>rfl) X1.heap.size 44 (by rw[hY.heap];exact heap_alloc_new X1 _) (by unfold maxLen;omega) (by omega)
 have hYs:X1.heap.size<Y.heap.size:=by rw[hY.size];simp
 have rV:=hb.trans (jg.mono hb.size);refine⟨_,w4,k1,a',c',fp',rfl,by rw[List.length_append];exact k2,fun b hb1=>?_,(aO.of_below rV).trans k3 (fun b _ h=>h)⟩
 rcases k4 b hb1 with k|k|k
 ·exact .inl k
 ·exact .inr (hfr b k)
 ·exact .inr (by omega)
theorem ad5 (A:Ma) (m:Mb) (w:World) (hv:nS w A m) (hok:∀ k,k<m.rows.length→0<(ah m.rows k).got.length∧iy (ah m.rows k)≤1000) (hml:m.rows.length≤5) :
  Calls Tryz.prog 181 #[.slice A.ra m.rows.length A.rc] w fun e w'=>∃ a c,e=.returned (.slice a m.rows.length c)∧oD w w' (dA 8 eY m.rows) (.slice a m.rows.length c):=by
 have hb0:=aF w (.cells #[] 44);have HB0:=aj hb0;have fH:Hid (aI.ow (w.alloc (.cells #[] 44)) (dA 8 eY []) (.slice (some ⟨w.heap.size,0,none⟩) 0 0) (fun _=>False)):=⟨some ⟨w.heap.size,0,none⟩,0,[],none,fun _=>False,rfl,dR.nil _ _ (jG _ _),⟨rfl,fun _ h=>h⟩,fun _ _ h=>h,fun b=>by simp⟩
 have HV:=aj hv;have cO:=aj hok;clear hb0 hv hok;go_enter Tryz.func181,Tryz.ntmps181
 go_wp2_with fail
 generalize w.alloc (.cells #[] 44)=W0 at *
 go_loopw [3,9] (fun v k wr=>∃ (j:Nat) (a:Option Addr) (cc:Nat) (Z:List Rw) (fz:Fp),j≤m.rows.length∧k=.int .i64 (j:Int)∧v=.slice a Z.length cc∧Hid (Z=m.rows.take j)∧aI.ow wr (dA 8 eY Z) (.slice a Z.length cc) fz∧(∀ b,fz b→w.heap.size≤b)∧Below w.heap.size w wr) (fun _ k _=>m.rows.length-(intOf k).toNat)
 case atStart=>exact⟨0,some ⟨w.heap.size,0,none⟩,0,[],_,Nat.zero_le _,rfl,rfl,rfl,fH.out,fun b h=>h.elim,HB0.out⟩
 case round =>
  obtain⟨j,a,cc,Z,fz,hj,rfl,rfl,hZ,hO,hfz,hb⟩:=hrel;by_cases hlt:j<m.rows.length
  ·have k1:(j:Int)<(m.rows.length:Int):=by omega
   have k0:(0:Int)≤(j:Int):=by omega
   obtain⟨g,off,Ak,hra,⟨⟨d0,d1,d2,d3⟩,d4,d5,d6,d7⟩,kV⟩:=(HV.out.below hb).row hlt;obtain⟨hg0,hsr⟩:=cO.out j hlt
   have HN:Hid (Z++[ah m.rows j]=m.rows.take (j+1)):=by
    rw[Hid,hZ.out,List.take_succ_eq_append_getElem hlt];simp[ah,List.getD,hlt]
   have Bq:Z.length≤1000000:=aq1 (by rw[hZ.out,List.length_take];omega)
   rw[hra];have HRa:=aj hra;generalize ah m.rows j=r at *;have hba:=aF wr (.cells #[.int .i64 r.ver,.slice Ak.ta r.txt.length Ak.tc,.slice Ak.ga r.got.length Ak.gc,.slice Ak.sa r.ak.length Ak.sc,.bool r.wed,.bool r.aB,.int .i64 r.aC,.slice Ak.ma r.aA.length Ak.mc] 44);have hxr:=Bx.new wr 44 #[.int .i64 r.ver,.slice Ak.ta r.txt.length Ak.tc,.slice Ak.ga r.got.length Ak.gc,.slice Ak.sa r.ak.length Ak.sc,.bool r.wed,.bool r.aB,.int .i64 r.aC,.slice Ak.ma r.aA.length Ak.mc];have iw:=aj hba;have HB:=aj hb;have HO:=aj (aI.cZ hO hba);have hAn:=yX Ak r (wr.alloc (.cells #[.int .i64 r.ver,.slice Ak.ta r.txt.length Ak.tc,.slice Ak.ga r.got.length Ak.gc,.slice Ak.sa r.ak.length Ak.sc,.bool r.wed,.bool r.aB,.int .i64 r.aC,.slice Ak.ma r.aA.length Ak.mc] 44)) (kV.below hba) hg0 hsr;unfold bV at hAn;unfold bD at hAn;obtain⟨⟨x0,x1,x2,x3⟩,x4,x5,x6,x7⟩:=Bx.r8 hxr;clear kV hb hO hxr hba hra;go_upto_region 5 with fail
   clear d0 d1 d2 d3 d4 d5 d6 d7;generalize wr.alloc (.cells #[.int .i64 r.ver,.slice Ak.ta r.txt.length Ak.tc,.slice Ak.ga r.got.length Ak.gc,.slice Ak.sa r.ak.length Ak.sc,.bool r.wed,.bool r.aB,.int .i64 r.aC,.slice Ak.ma r.aA.length Ak.mc] 44)=W5 at *;have hmt:=ad4 (.agg #[.int .i64 r.ver,.slice Ak.ta r.txt.length Ak.tc,.slice Ak.ga r.got.length Ak.gc,.slice Ak.sa r.ak.length Ak.sc,.bool r.wed,.bool r.aB,.int .i64 r.aC,.slice Ak.ma r.aA.length Ak.mc]);go_wp2_with fail
   refine hAn.mono ?_;rintro e V1 ⟨Ar,rfl,fr,hr1,hr2,hr3⟩;have hA:=QG HO.out hr3 hr1 hr2 Bq;have HR3:=aj hr3;have HR2:=aj hr3.size;have TY:=aj iw.out.size;clear hAn hmt x0 x1 x2 x3 x4 x5 x6 x7 hr1 hr2 hr3;unfold bV;unfold bD at hA ⊢;go_wp2_with (at_builtin;refine aZ (by rfl) _ _ _ _ (by rfl) _ _ (by rfl) (by rfl) hA ⟨rfl,rfl,rfl,rfl⟩ ?_;rintro v1 w1 ⟨a1,e1,f1,rfl,q1,q2,q3⟩;have pY:Hid (aI.ow w1 (dA 8 eY (Z++[r])) (.slice a1 (Z++[r]).length e1) f1):=q1;have yK:Hid (∀ b,f1 b→fz b∨W5.heap.size≤b):=q2;have yL:Hid (aO fz W5 w1):=q3;clear q1 q2 q3 hA)
   have HL:Hid ((Z++[r]).length=Z.length+1):=by rw[Hid,List.length_append];rfl
   have hs1:=HB.out.size;have hs2:=TY.out;go_roundw
   case rel=>exact⟨j+1,a1,e1,Z++[r],f1,by omega,by go_num,by rw[HL.out],HN.out,pY.out,fun b hb=>(yK.out b hb).elim (hfz b) (fun h=>by omega),yL.out.below (HB.out.trans (iw.out.mono HB.out.size)) (by omega) (fun b hb=>hfz b hb)⟩
   case measure=>simp[intOf];omega
  ·have k1:¬ ((j:Int)<(m.rows.length:Int)):=by omega
   have eZ:Z=m.rows:=by rw[hZ.out,show j=m.rows.length by omega,List.take_length]
   subst eZ;have HO:Hid (oD w wr (dA 8 eY m.rows) (.slice a m.rows.length cc)):=⟨fz,hO,hfz,hb⟩;clear hO hb hZ;go_wp2;go_ret
   exact⟨a,cc,rfl,HO.out⟩
theorem OL (A:Ma) (m:Mb) (w:World) (hv:nS w A m) (hok:∀ k,k<m.rows.length→0<(ah m.rows k).got.length∧iy (ah m.rows k)≤1000) (hml:m.rows.length≤5) (hsl:m.au.length≤100) :
  Calls Tryz.prog 165 #[eG A m] w fun e w'=>YO w w' e m:=by
 have hb1:=aF w (.cells #[.int .i64 m.id,.int .i64 m.n,.slice A.ra m.rows.length A.rc,.slice A.sa m.au.length A.sc,.bool m.done] 47);have hb2:=aF (w.alloc (.cells #[.int .i64 m.id,.int .i64 m.n,.slice A.ra m.rows.length A.rc,.slice A.sa m.au.length A.sc,.bool m.done] 47)) (.cells #[.int .i64 0,.int .i64 0,.slice none 0 0,.slice none 0 0,.bool false] 47);have hx1:Bx ((w.alloc (.cells #[.int .i64 m.id,.int .i64 m.n,.slice A.ra m.rows.length A.rc,.slice A.sa m.au.length A.sc,.bool m.done] 47)).alloc (.cells #[.int .i64 0,.int .i64 0,.slice none 0 0,.slice none 0 0,.bool false] 47)) w.heap.size 47 #[.int .i64 m.id,.int .i64 m.n,.slice A.ra m.rows.length A.rc,.slice A.sa m.au.length A.sc,.bool m.done]:=(Bx.new w _ _).alloc _
 have hx2:Bx ((w.alloc (.cells #[.int .i64 m.id,.int .i64 m.n,.slice A.ra m.rows.length A.rc,.slice A.sa m.au.length A.sc,.bool m.done] 47)).alloc (.cells #[.int .i64 0,.int .i64 0,.slice none 0 0,.slice none 0 0,.bool false] 47)) (w.heap.size+1) 47 #[.int .i64 0,.int .i64 0,.slice none 0 0,.slice none 0 0,.bool false]:=by
  have:=Bx.new (w.alloc (.cells #[.int .i64 m.id,.int .i64 m.n,.slice A.ra m.rows.length A.rc,.slice A.sa m.au.length A.sc,.bool m.done] 47)) 47 #[.int .i64 0,.int .i64 0,.slice none 0 0,.slice none 0 0,.bool false];simp only[World.size_alloc] at this;exact this
 have kP:Below w.heap.size w ((w.alloc (.cells #[.int .i64 m.id,.int .i64 m.n,.slice A.ra m.rows.length A.rc,.slice A.sa m.au.length A.sc,.bool m.done] 47)).alloc (.cells #[.int .i64 0,.int .i64 0,.slice none 0 0,.slice none 0 0,.bool false] 47)):=hb1.trans (hb2.mono hb1.size);have hsz:w.heap.size+2=((w.alloc (.cells #[.int .i64 m.id,.int .i64 m.n,.slice A.ra m.rows.length A.rc,.slice A.sa m.au.length A.sc,.bool m.done] 47)).alloc (.cells #[.int .i64 0,.int .i64 0,.slice none 0 0,.slice none 0 0,.bool false] 47)).heap.size:=by simp only[World.size_alloc]
 unfold eG dZ;have sJ:Hid (Bx ((w.alloc (.cells #[.int .i64 m.id,.int .i64 m.n,.slice A.ra m.rows.length A.rc,.slice A.sa m.au.length A.sc,.bool m.done] 47)).alloc (.cells #[.int .i64 0,.int .i64 0,.slice none 0 0,.slice none 0 0,.bool false] 47)) w.heap.size 47 #[.int .i64 m.id,.int .i64 m.n,.slice A.ra m.rows.length A.rc,.slice A.sa m.au.length A.sc,.bool m.done]):=hx1;have jZ:Hid (Bx ((w.alloc (.cells #[.int .i64 m.id,.int .i64 m.n,.slice A.ra m.rows.length A.rc,.slice A.sa m.au.length A.sc,.bool m.done] 47)).alloc (.cells #[.int .i64 0,.int .i64 0,.slice none 0 0,.slice none 0 0,.bool false] 47)) (w.heap.size+1) 47 #[.int .i64 0,.int .i64 0,.slice none 0 0,.slice none 0 0,.bool false]):=hx2;have HB:Hid (Below w.heap.size w ((w.alloc (.cells #[.int .i64 m.id,.int .i64 m.n,.slice A.ra m.rows.length A.rc,.slice A.sa m.au.length A.sc,.bool m.done] 47)).alloc (.cells #[.int .i64 0,.int .i64 0,.slice none 0 0,.slice none 0 0,.bool false] 47))):=kP;have HV:Hid (nS w A m):=hv;have xU:Hid (w.heap.size+2=((w.alloc (.cells #[.int .i64 m.id,.int .i64 m.n,.slice A.ra m.rows.length A.rc,.slice A.sa m.au.length A.sc,.bool m.done] 47)).alloc (.cells #[.int .i64 0,.int .i64 0,.slice none 0 0,.slice none 0 0,.bool false] 47)).heap.size):=hsz;obtain⟨d0,d1,d2,d3,d4⟩:=Bx.r5 hx1;clear hb1 hb2 hx1 hx2 kP hsz hv;have bH:=dH;clear d0 d1 d2 d3 d4;go_enter Tryz.func165,Tryz.ntmps165
 go_upto_region 1 with fail
 generalize (w.alloc (.cells #[.int .i64 m.id,.int .i64 m.n,.slice A.ra m.rows.length A.rc,.slice A.sa m.au.length A.sc,.bool m.done] 47)).alloc (.cells #[.int .i64 0,.int .i64 0,.slice none 0 0,.slice none 0 0,.bool false] 47)=W0 at *;have hbd:Below W0.heap.size W0 W0.drew:=(Same.drewN W0 1).below;have KS:∀ X,Below W0.heap.size W0 X→X.cell? ⟨w.heap.size,3,none⟩=some (.slice A.sa m.au.length A.sc):=fun X hX=>(Bx.r5 (sJ.out.below hX)).2.2.2.1
 have d2:W0.drew.cell? ⟨w.heap.size,2,none⟩=some (.slice A.ra m.rows.length A.rc):=(Bx.r5 (sJ.out.below hbd)).2.2.1;have hA1:=ad5 A m W0.drew ((HV.out.below HB.out).below hbd) hok hml;refine jE (S:=fun X:World=>X.cell? ⟨w.heap.size,3,none⟩=some (.slice A.sa m.au.length A.sc)) 9 bH ((KS _ hbd)) fun hHeld=>?_
 refine aS (i:=0) rfl ?_;refine aS (i:=3) rfl ?_;refine aY (i:=4) rfl hHeld ?_;refine dI (i:=1) rfl fun K hK=>?_
 go_simp;refine hK.out _ _ (KS _ hbd) (fun aK=>?_)
 clear hK hHeld;have hHeld:=aK;try simp only[dw]
 refine dI (i:=2) rfl fun K hK=>?_
 go_simp
 go_at_call 181
 refine hA1.mono ?_;rintro e W3 ⟨a1,c1,rfl,f1,o1,p1,b1⟩;have hb3:=hbd.trans (b1.mono hbd.size);have hA2:=yV A.sa A.sc m.au W3 (HV.out.FC.au.below (HB.out.trans (hb3.mono HB.out.size)) (Nat.le_refl _)) (by omega)
 refine hK.out _ _ (KS _ hb3) (fun aK=>?_)
 clear hK hHeld;have hHeld:=aK;try simp only[dw]
 refine aS (i:=6) rfl ?_;refine dI (i:=5) rfl fun K hK=>?_
 go_simp
 go_at_call 167
 refine hA2.mono ?_;rintro e W4 ⟨a2,c2,rfl,f2,o2,p2,b2⟩;have hb4:=hb3.trans (b2.mono hb3.size);have hx4:=sJ.out.below hb4;have Sz:=aj hx4;have HY4:=aj (jZ.out.below hb4);have HB4:=aj hb4;have yH:Hid (oD W0 W3 (dA 8 eY m.rows) (.slice a1 m.rows.length c1)):=⟨f1,o1,p1,hb3⟩;have zT:Hid (oD W3 W4 (bQ m.au) (.slice a2 m.au.length c2)):=⟨f2,o2,p2,b2⟩;refine hK.out _ _ (KS _ hb4) (fun aK=>?_)
 clear hK hHeld;have hHeld:=aK;try simp only[dw]
 have e2:=hx4.f 2;clear d2;obtain⟨d0,d1,d2,d3,d4⟩:=Bx.r5 hx4;have hx6:Bx (W4.setCell ⟨w.heap.size,2,none⟩ (.slice a1 m.rows.length c1)) w.heap.size 47 #[.int .i64 m.id,.int .i64 m.n,.slice a1 m.rows.length c1,.slice A.sa m.au.length A.sc,.bool m.done]:=by simpa using hx4.iV 2 (.slice a1 m.rows.length c1)
 have e3:=hx6.f 3;have z3:=hx6.at 3 (v:=.slice A.sa m.au.length A.sc) rfl;refine dI (i:=7) rfl fun K hK=>?_
 go_simp;refine hK.out _ _ z3 (fun aK=>?_)
 clear hK hHeld;have hHeld:=aK;try simp only[dw]
 refine aS (i:=8) rfl ?_;refine lQ rfl fun K hK=>?_
 go_simp;refine hK.out _ _ ?_;clear hK hHeld hx6 z3 e2 e3 d0 d1 d2 d3 d4 hx4 o1 o2 p1 p2 b1 b2 hb3 hb4 hbd KS hA1 hA2;go_upto_region 2 with fail
 have hx5:Bx ((W4.setCell ⟨w.heap.size,2,none⟩ (.slice a1 m.rows.length c1)).setCell ⟨w.heap.size,3,none⟩ (.slice a2 m.au.length c2)) w.heap.size 47 #[.int .i64 m.id,.int .i64 m.n,.slice a1 m.rows.length c1,.slice a2 m.au.length c2,.bool m.done]:=by simpa using (Sz.out.iV 2 (.slice a1 m.rows.length c1)).iV 3 (.slice a2 m.au.length c2)
 have hy5:Bx ((W4.setCell ⟨w.heap.size,2,none⟩ (.slice a1 m.rows.length c1)).setCell ⟨w.heap.size,3,none⟩ (.slice a2 m.au.length c2)) (w.heap.size+1) 47 #[.int .i64 0,.int .i64 0,.slice none 0 0,.slice none 0 0,.bool false]:=(HY4.out.far (by omega) _).far (by omega) _
 have hw5:aO (fun x=>x=w.heap.size) W4 ((W4.setCell ⟨w.heap.size,2,none⟩ (.slice a1 m.rows.length c1)).setCell ⟨w.heap.size,3,none⟩ (.slice a2 m.au.length c2)):=(aO.set W4 w.heap.size 2 _).trans (aO.set _ w.heap.size 3 _) (fun _ _ h=>h)
 have LM:Hid (∃ f,bG ((W4.setCell ⟨w.heap.size,2,none⟩ (.slice a1 m.rows.length c1)).setCell ⟨w.heap.size,3,none⟩ (.slice a2 m.au.length c2)) (fD m) (fE ⟨a1,c1,a2,c2⟩ m) f∧∀ b,f b→w.heap.size+2≤b):=by
  obtain⟨f1,o1,p1,b1⟩:=yH.out;obtain⟨f2,o2,p2,b2⟩:=zT.out;have hs:=xU.out;have hs1:=b1.size;have hl1:=aI.iT o1;refine⟨_,rQ (aI.lU (aI.cZ o1 b2) hw5 (fun b hb e=>by have:=p1 b hb;omega)) (rQ (aI.lU o2 hw5 (fun b hb e=>by have:=p2 b hb;omega)) (⟨rfl,fun _ h=>h⟩:bG _ [] [] (fun _=>False)) (fun _ _ h=>h)) (fun b h1 h2=>by rcases h2 with h2|h2;have:=hl1 b h1;have:=p2 b h2;omega;exact h2),fun b hb=>?_⟩
  rcases hb with h|h|h
  ·have:=p1 b h;omega
  ·have:=p2 b h;omega
  ·exact h.elim
 have lS:Hid (Below w.heap.size w ((W4.setCell ⟨w.heap.size,2,none⟩ (.slice a1 m.rows.length c1)).setCell ⟨w.heap.size,3,none⟩ (.slice a2 m.au.length c2))):=by
  have hb:=HB.out.trans (HB4.out.mono HB.out.size);exact hw5.below hb hb.size (fun b e=>by omega)
 clear hw5;obtain⟨d0,d1,d2,d3,d4⟩:=Bx.r5 hx5;obtain⟨z0,z1,z2,z3,z4⟩:=Bx.r5 hy5;obtain⟨y0,y1,y2,y3,y4⟩:=hy5.f5;clear hx5 hy5;generalize (W4.setCell ⟨w.heap.size,2,none⟩ (.slice a1 m.rows.length c1)).setCell ⟨w.heap.size,3,none⟩ (.slice a2 m.au.length c2)=W5 at *
 have HN:Hid (∀ {z0 z1 z2 z3 z4:Value},iL w (((((W5.setCell ⟨w.heap.size+1,0,none⟩ z0).setCell ⟨w.heap.size+1,1,none⟩ z1).setCell ⟨w.heap.size+1,2,none⟩ z2).setCell ⟨w.heap.size+1,3,none⟩ z3).setCell ⟨w.heap.size+1,4,none⟩ z4) (fD m) (fE ⟨a1,c1,a2,c2⟩ m)):=fun {z0 z1 z2 z3 z4}=>by
  obtain⟨f,h1,h2⟩:=LM.out;exact⟨f,bP h1 (kX W5 (w.heap.size+1)) (fun b hb e=>by have:=h2 b hb;omega),fun b hb=>by have:=h2 b hb;omega,(kX W5 (w.heap.size+1)).below lS.out lS.out.size (fun b e=>by omega)⟩
 go_wp2;refine bodyPost_ret (v:=eG ⟨a1,c1,a2,c2⟩ m) (by simp[results,Tryz.results165,go_sem,eG,dZ, *]) rfl ?_
 exact⟨_,rfl,HN.out⟩
theorem OM (A:Ma) (m:Mb) (i n:Nat) (w:World) (hv:nS w A m) (ok:dO m i n) :
  Calls Tryz.prog 137 #[eG A m] w fun e w'=>aw5 w w' e m:=by
 have hb1:=aF w (.cells #[.int .i64 m.id,.int .i64 m.n,.slice A.ra m.rows.length A.rc,.slice A.sa m.au.length A.sc,.bool m.done] 47);have hb2:=aF (w.alloc (.cells #[.int .i64 m.id,.int .i64 m.n,.slice A.ra m.rows.length A.rc,.slice A.sa m.au.length A.sc,.bool m.done] 47)) (.cells #[.int .i64 0,.slice none 0 0,.slice none 0 0,.bool false] 183);have hx1:Bx ((w.alloc (.cells #[.int .i64 m.id,.int .i64 m.n,.slice A.ra m.rows.length A.rc,.slice A.sa m.au.length A.sc,.bool m.done] 47)).alloc (.cells #[.int .i64 0,.slice none 0 0,.slice none 0 0,.bool false] 183)) w.heap.size 47 #[.int .i64 m.id,.int .i64 m.n,.slice A.ra m.rows.length A.rc,.slice A.sa m.au.length A.sc,.bool m.done]:=(Bx.new w _ _).alloc _
 have hx2:Bx ((w.alloc (.cells #[.int .i64 m.id,.int .i64 m.n,.slice A.ra m.rows.length A.rc,.slice A.sa m.au.length A.sc,.bool m.done] 47)).alloc (.cells #[.int .i64 0,.slice none 0 0,.slice none 0 0,.bool false] 183)) (w.heap.size+1) 183 #[.int .i64 0,.slice none 0 0,.slice none 0 0,.bool false]:=by
  have:=Bx.new (w.alloc (.cells #[.int .i64 m.id,.int .i64 m.n,.slice A.ra m.rows.length A.rc,.slice A.sa m.au.length A.sc,.bool m.done] 47)) 183 #[.int .i64 0,.slice none 0 0,.slice none 0 0,.bool false];simp only[World.size_alloc] at this;exact this
 have kP:Below w.heap.size w ((w.alloc (.cells #[.int .i64 m.id,.int .i64 m.n,.slice A.ra m.rows.length A.rc,.slice A.sa m.au.length A.sc,.bool m.done] 47)).alloc (.cells #[.int .i64 0,.slice none 0 0,.slice none 0 0,.bool false] 183)):=hb1.trans (hb2.mono hb1.size);have hsz:w.heap.size+2=((w.alloc (.cells #[.int .i64 m.id,.int .i64 m.n,.slice A.ra m.rows.length A.rc,.slice A.sa m.au.length A.sc,.bool m.done] 47)).alloc (.cells #[.int .i64 0,.slice none 0 0,.slice none 0 0,.bool false] 183)).heap.size:=by simp only[World.size_alloc]
 have fG:=ok.n5
 have hA1 := OL A m ((w.alloc (.cells #[.int .i64 m.id,.int .i64 m.n,.slice A.ra m.rows.length A.rc,.slice A.sa m.au.length A.sc,.bool m.done] 47)).alloc (.cells #[.int .i64 0,.slice none 0 0,.slice none 0 0,.bool false] 183)) (hv.below kP) (fun k hk => by
  have h:=ok.ok k (by rw[← ok.len];exact hk)
  exact⟨by rw[h.gl];omega,by have:=h.c8.2;omega⟩) (by rw[ok.len];omega) (by have:=ok.sl;omega)
 unfold eG dZ at hA1;unfold eG dZ;have jZ:Hid (Bx ((w.alloc (.cells #[.int .i64 m.id,.int .i64 m.n,.slice A.ra m.rows.length A.rc,.slice A.sa m.au.length A.sc,.bool m.done] 47)).alloc (.cells #[.int .i64 0,.slice none 0 0,.slice none 0 0,.bool false] 183)) (w.heap.size+1) 183 #[.int .i64 0,.slice none 0 0,.slice none 0 0,.bool false]):=hx2;have HB:Hid (Below w.heap.size w ((w.alloc (.cells #[.int .i64 m.id,.int .i64 m.n,.slice A.ra m.rows.length A.rc,.slice A.sa m.au.length A.sc,.bool m.done] 47)).alloc (.cells #[.int .i64 0,.slice none 0 0,.slice none 0 0,.bool false] 183))):=kP;have xU:Hid (w.heap.size+2=((w.alloc (.cells #[.int .i64 m.id,.int .i64 m.n,.slice A.ra m.rows.length A.rc,.slice A.sa m.au.length A.sc,.bool m.done] 47)).alloc (.cells #[.int .i64 0,.slice none 0 0,.slice none 0 0,.bool false] 183)).heap.size):=hsz;obtain⟨d0,d1,d2,d3,d4⟩:=Bx.r5 hx1;clear hb1 hb2 hx1 hx2 kP hsz hv;go_enter Tryz.func137,Tryz.ntmps137
 go_upto_region 1 with fail
 generalize (w.alloc (.cells #[.int .i64 m.id,.int .i64 m.n,.slice A.ra m.rows.length A.rc,.slice A.sa m.au.length A.sc,.bool m.done] 47)).alloc (.cells #[.int .i64 0,.slice none 0 0,.slice none 0 0,.bool false] 183)=W0 at *;go_wp2_with fail
 refine hA1.mono ?_;rintro e W3 ⟨A3,rfl,f3,h1,h2,h3⟩;unfold eG dZ;have hb7:=aF W3 (.cells #[.int .i64 m.id,.int .i64 m.n,.slice A3.ra m.rows.length A3.rc,.slice A3.sa m.au.length A3.sc,.bool m.done] 47);have hx7:=Bx.new W3 47 #[.int .i64 m.id,.int .i64 m.n,.slice A3.ra m.rows.length A3.rc,.slice A3.sa m.au.length A3.sc,.bool m.done];have OO:=(jZ.out.below h3).below hb7;have HL7:Hid (bG (W3.alloc (.cells #[.int .i64 m.id,.int .i64 m.n,.slice A3.ra m.rows.length A3.rc,.slice A3.sa m.au.length A3.sc,.bool m.done] 47)) (fD m) (fE A3 m) f3∧∀ b,f3 b→w.heap.size+2≤b):=⟨bM h1 hb7,fun b hb=>by have:=h2 b hb;have:=xU.out;omega⟩
 have Dz:Hid (Below w.heap.size w (W3.alloc (.cells #[.int .i64 m.id,.int .i64 m.n,.slice A3.ra m.rows.length A3.rc,.slice A3.sa m.au.length A3.sc,.bool m.done] 47))):=by
  have hb:=HB.out.trans (h3.mono HB.out.size);exact hb.trans (hb7.mono hb.size)
 clear d0 d1 d2 d3 d4 hA1 h1 h2 h3 hb7;obtain⟨d0,d1,d2,d3,d4⟩:=Bx.r5 hx7;obtain⟨z0,z1,z2,z3⟩:=Bx.r4 OO;have y0:=OO.f 0;have y1:=OO.f 1;have y2:=OO.f 2;have y3:=OO.f 3;clear hx7 OO;go_upto_region 2 with fail
 generalize W3.alloc (.cells #[.int .i64 m.id,.int .i64 m.n,.slice A3.ra m.rows.length A3.rc,.slice A3.sa m.au.length A3.sc,.bool m.done] 47)=W5 at *
 have HN:Hid (∀ {z0 z1 z2 z3:Value},iL w ((((W5.setCell ⟨w.heap.size+1,0,none⟩ z0).setCell ⟨w.heap.size+1,1,none⟩ z1).setCell ⟨w.heap.size+1,2,none⟩ z2).setCell ⟨w.heap.size+1,3,none⟩ z3) (fD m) (fE A3 m)):=fun {z0 z1 z2 z3}=>by
  obtain⟨h1,h2⟩:=HL7.out;exact⟨f3,bP h1 (QF W5 (w.heap.size+1)) (fun b hb e=>by have:=h2 b hb;omega),fun b hb=>by have:=h2 b hb;omega,(QF W5 (w.heap.size+1)).below Dz.out Dz.out.size (fun b e=>by omega)⟩
 go_wp2;refine bodyPost_ret (v:=FD A3 m) (by simp[results,Tryz.results137,go_sem,FD,BP, *]) rfl ?_
 exact⟨_,rfl,HN.out⟩
theorem ad6 (v : Value) (w : World) : (Go.method 326 47 v "loop.example/g00266/impl.anew").run Tryz.prog w = .ok (165, v) w := by kernel_rfl
theorem ad7 (v : Value) (w : World) : (Go.method 326 68 v "loop.example/g00266/impl.anew").run Tryz.prog w = .ok (216, v) w := by kernel_rfl
def aw6 (w w':World) (e:Ending) (x:Ml):Prop:=∃ A:Ra,e=.returned (.agg (xI x A))∧iL w w' (fM x.row) (fC A x.row)
theorem Ua (w:World) (g:Nat) {z0 z1 z2 z3 z4 z5 z6 z7 z8 z9:Value}:aO (fun x=>x=g) w ((((((((((w.setCell ⟨g,0,none⟩ z0).setCell ⟨g,1,none⟩ z1).setCell ⟨g,2,none⟩ z2).setCell ⟨g,3,none⟩ z3).setCell ⟨g,4,none⟩ z4).setCell ⟨g,5,none⟩ z5).setCell ⟨g,6,none⟩ z6).setCell ⟨g,7,none⟩ z7).setCell ⟨g,8,none⟩ z8).setCell ⟨g,9,none⟩ z9):=by
 have t:∀ {X:World} {j:Nat} {v:Value},aO (fun x=>x=g) w X→aO (fun x=>x=g) w (X.setCell ⟨g,j,none⟩ v):=fun h=>h.trans (aO.set _ g _ _) (fun _ _ h=>h)
 exact t (t (t (t (t (t (t (t (t (aO.set w g 0 z0)))))))))
theorem ad8 (Ak:Ra) (x:Ml) (w:World) (hv:iM w Ak x.row) (hg:0<x.row.got.length) (hs:iy x.row≤1000) :
  Calls Tryz.prog 216 #[.agg #[.int .i64 x.fr,.int .i64 x.to,.int .i64 x.row.ver,.slice Ak.ta x.row.txt.length Ak.tc,.slice Ak.ga x.row.got.length Ak.gc,.slice Ak.sa x.row.ak.length Ak.sc,.bool x.row.wed,.bool x.row.aB,.int .i64 x.row.aC,.slice Ak.ma x.row.aA.length Ak.mc]] w fun e w'=>aw6 w w' e x:=by
 have bH:=dH;have hb1:=aF w (.cells #[.int .i64 x.fr,.int .i64 x.to,.int .i64 x.row.ver,.slice Ak.ta x.row.txt.length Ak.tc,.slice Ak.ga x.row.got.length Ak.gc,.slice Ak.sa x.row.ak.length Ak.sc,.bool x.row.wed,.bool x.row.aB,.int .i64 x.row.aC,.slice Ak.ma x.row.aA.length Ak.mc] 68);have hb2:=aF (w.alloc (.cells #[.int .i64 x.fr,.int .i64 x.to,.int .i64 x.row.ver,.slice Ak.ta x.row.txt.length Ak.tc,.slice Ak.ga x.row.got.length Ak.gc,.slice Ak.sa x.row.ak.length Ak.sc,.bool x.row.wed,.bool x.row.aB,.int .i64 x.row.aC,.slice Ak.ma x.row.aA.length Ak.mc] 68)) (.cells #[.int .i64 0,.int .i64 0,.int .i64 0,.slice none 0 0,.slice none 0 0,.slice none 0 0,.bool false,.bool false,.int .i64 0,.slice none 0 0] 68);have hx1:Bx ((w.alloc (.cells #[.int .i64 x.fr,.int .i64 x.to,.int .i64 x.row.ver,.slice Ak.ta x.row.txt.length Ak.tc,.slice Ak.ga x.row.got.length Ak.gc,.slice Ak.sa x.row.ak.length Ak.sc,.bool x.row.wed,.bool x.row.aB,.int .i64 x.row.aC,.slice Ak.ma x.row.aA.length Ak.mc] 68)).alloc (.cells #[.int .i64 0,.int .i64 0,.int .i64 0,.slice none 0 0,.slice none 0 0,.slice none 0 0,.bool false,.bool false,.int .i64 0,.slice none 0 0] 68)) w.heap.size 68 #[.int .i64 x.fr,.int .i64 x.to,.int .i64 x.row.ver,.slice Ak.ta x.row.txt.length Ak.tc,.slice Ak.ga x.row.got.length Ak.gc,.slice Ak.sa x.row.ak.length Ak.sc,.bool x.row.wed,.bool x.row.aB,.int .i64 x.row.aC,.slice Ak.ma x.row.aA.length Ak.mc]:=(Bx.new w _ _).alloc _
 have hx2:Bx ((w.alloc (.cells #[.int .i64 x.fr,.int .i64 x.to,.int .i64 x.row.ver,.slice Ak.ta x.row.txt.length Ak.tc,.slice Ak.ga x.row.got.length Ak.gc,.slice Ak.sa x.row.ak.length Ak.sc,.bool x.row.wed,.bool x.row.aB,.int .i64 x.row.aC,.slice Ak.ma x.row.aA.length Ak.mc] 68)).alloc (.cells #[.int .i64 0,.int .i64 0,.int .i64 0,.slice none 0 0,.slice none 0 0,.slice none 0 0,.bool false,.bool false,.int .i64 0,.slice none 0 0] 68)) (w.heap.size+1) 68 #[.int .i64 0,.int .i64 0,.int .i64 0,.slice none 0 0,.slice none 0 0,.slice none 0 0,.bool false,.bool false,.int .i64 0,.slice none 0 0]:=by
  have:=Bx.new (w.alloc (.cells #[.int .i64 x.fr,.int .i64 x.to,.int .i64 x.row.ver,.slice Ak.ta x.row.txt.length Ak.tc,.slice Ak.ga x.row.got.length Ak.gc,.slice Ak.sa x.row.ak.length Ak.sc,.bool x.row.wed,.bool x.row.aB,.int .i64 x.row.aC,.slice Ak.ma x.row.aA.length Ak.mc] 68)) 68 #[.int .i64 0,.int .i64 0,.int .i64 0,.slice none 0 0,.slice none 0 0,.slice none 0 0,.bool false,.bool false,.int .i64 0,.slice none 0 0];simp only[World.size_alloc] at this;exact this
 have kP:=hb1.trans (hb2.mono hb1.size);have hsz:w.heap.size+2=((w.alloc (.cells #[.int .i64 x.fr,.int .i64 x.to,.int .i64 x.row.ver,.slice Ak.ta x.row.txt.length Ak.tc,.slice Ak.ga x.row.got.length Ak.gc,.slice Ak.sa x.row.ak.length Ak.sc,.bool x.row.wed,.bool x.row.aB,.int .i64 x.row.aC,.slice Ak.ma x.row.aA.length Ak.mc] 68)).alloc (.cells #[.int .i64 0,.int .i64 0,.int .i64 0,.slice none 0 0,.slice none 0 0,.slice none 0 0,.bool false,.bool false,.int .i64 0,.slice none 0 0] 68)).heap.size:=by simp only[World.size_alloc]
 have sJ:=aj hx1;have jZ:=aj hx2;have HB:=aj kP;have HV:=aj hv;have xU:=aj hsz;clear hb1 hb2 hx1 hx2 kP hsz hv;go_enter Tryz.func216,Tryz.ntmps216
 go_upto_region 1 with fail
 generalize (w.alloc (.cells #[.int .i64 x.fr,.int .i64 x.to,.int .i64 x.row.ver,.slice Ak.ta x.row.txt.length Ak.tc,.slice Ak.ga x.row.got.length Ak.gc,.slice Ak.sa x.row.ak.length Ak.sc,.bool x.row.wed,.bool x.row.aB,.int .i64 x.row.aC,.slice Ak.ma x.row.aA.length Ak.mc] 68)).alloc (.cells #[.int .i64 0,.int .i64 0,.int .i64 0,.slice none 0 0,.slice none 0 0,.slice none 0 0,.bool false,.bool false,.int .i64 0,.slice none 0 0] 68)=W0 at *;have hbd:=(Same.drewN W0 1).below
 have KS:∀ Z,Below W0.heap.size W0 Z→Z.cell? ⟨w.heap.size,0,none⟩=some (.int .i64 x.fr)∧Z.cell? ⟨w.heap.size,1,none⟩=some (.int .i64 x.to)∧Z.cell? ⟨w.heap.size,2,none⟩=some (.int .i64 x.row.ver)∧Z.cell? ⟨w.heap.size,3,none⟩=some (.slice Ak.ta x.row.txt.length Ak.tc)∧Z.cell? ⟨w.heap.size,4,none⟩=some (.slice Ak.ga x.row.got.length Ak.gc)∧Z.cell? ⟨w.heap.size,5,none⟩=some (.slice Ak.sa x.row.ak.length Ak.sc)∧Z.cell? ⟨w.heap.size,6,none⟩=some (.bool x.row.wed)∧Z.cell? ⟨w.heap.size,7,none⟩=some (.bool x.row.aB)∧Z.cell? ⟨w.heap.size,8,none⟩=some (.int .i64 x.row.aC)∧Z.cell? ⟨w.heap.size,9,none⟩=some (.slice Ak.ma x.row.aA.length Ak.mc):=fun Z hZ=>by
  obtain⟨⟨a0,a1,a2,a3,a4⟩,a5,a6,a7,a8,a9⟩:=Bx.yC (sJ.out.below hZ);exact⟨a0,a1,a2,a3,a4,a5,a6,a7,a8,a9⟩
 have hAn:=yX Ak x.row W0.drew ((HV.out.below HB.out).below hbd) hg hs;unfold bV bD at hAn;refine jE (S:=fun Z:World=>Z.cell? ⟨w.heap.size,0,none⟩=some (.int .i64 x.fr)∧Z.cell? ⟨w.heap.size,1,none⟩=some (.int .i64 x.to)∧Z.cell? ⟨w.heap.size,2,none⟩=some (.int .i64 x.row.ver)∧Z.cell? ⟨w.heap.size,3,none⟩=some (.slice Ak.ta x.row.txt.length Ak.tc)∧Z.cell? ⟨w.heap.size,4,none⟩=some (.slice Ak.ga x.row.got.length Ak.gc)∧Z.cell? ⟨w.heap.size,5,none⟩=some (.slice Ak.sa x.row.ak.length Ak.sc)∧Z.cell? ⟨w.heap.size,6,none⟩=some (.bool x.row.wed)∧Z.cell? ⟨w.heap.size,7,none⟩=some (.bool x.row.aB)∧Z.cell? ⟨w.heap.size,8,none⟩=some (.int .i64 x.row.aC)∧Z.cell? ⟨w.heap.size,9,none⟩=some (.slice Ak.ma x.row.aA.length Ak.mc)) 8 bH ((KS _ hbd)) fun hHeld=>?_
 refine aY (i:=0) rfl hHeld ?_;refine aY (i:=1) rfl hHeld ?_;refine aY (i:=2) rfl hHeld ?_;refine aY (i:=3) rfl hHeld ?_;refine aY (i:=4) rfl hHeld ?_;refine aY (i:=5) rfl hHeld ?_;refine dI (i:=6) rfl fun K hK=>?_
 go_simp
 go_at_call 141
 refine hAn.mono ?_;rintro e V1 ⟨Ar,rfl,fr,hr1,hr2,hr3⟩;have jU:=hbd.trans (hr3.mono hbd.size);refine hK.out _ _ (KS _ jU) (fun aK=>?_)
 clear hK hHeld;have hHeld:=aK;try simp only[dw]
 unfold bV bD;refine aS (i:=7) rfl ?_;have hR:=jZ.out.below jU;obtain⟨⟨t0,t1,t2,t3,t4⟩,t5,t6,t7,t8,t9⟩:=Bx.yC hR;obtain⟨⟨f0,f1,f2,f3,f4⟩,f5,f6,f7,f8,f9⟩:(V1.frozen? ⟨w.heap.size+1,0,none⟩=false∧V1.frozen? ⟨w.heap.size+1,1,none⟩=false∧V1.frozen? ⟨w.heap.size+1,2,none⟩=false∧V1.frozen? ⟨w.heap.size+1,3,none⟩=false∧V1.frozen? ⟨w.heap.size+1,4,none⟩=false)∧V1.frozen? ⟨w.heap.size+1,5,none⟩=false∧V1.frozen? ⟨w.heap.size+1,6,none⟩=false∧V1.frozen? ⟨w.heap.size+1,7,none⟩=false∧V1.frozen? ⟨w.heap.size+1,8,none⟩=false∧V1.frozen? ⟨w.heap.size+1,9,none⟩=false:=⟨hR.f5,hR.f 5,hR.f 6,hR.f 7,hR.f 8,hR.f 9⟩
 have HN:Hid (∀ {z0 z1 z2 z3 z4 z5 z6 z7 z8 z9:Value},iL w ((((((((((V1.setCell ⟨w.heap.size+1,0,none⟩ z0).setCell ⟨w.heap.size+1,1,none⟩ z1).setCell ⟨w.heap.size+1,2,none⟩ z2).setCell ⟨w.heap.size+1,3,none⟩ z3).setCell ⟨w.heap.size+1,4,none⟩ z4).setCell ⟨w.heap.size+1,5,none⟩ z5).setCell ⟨w.heap.size+1,6,none⟩ z6).setCell ⟨w.heap.size+1,7,none⟩ z7).setCell ⟨w.heap.size+1,8,none⟩ z8).setCell ⟨w.heap.size+1,9,none⟩ z9) (fM x.row) (fC Ar x.row)):=fun {z0 z1 z2 z3 z4 z5 z6 z7 z8 z9}=>by
  have hB1:=HB.out.trans (jU.mono HB.out.size);have hd:W0.drew.heap.size=W0.heap.size:=rfl;have hs:=xU.out;exact⟨fr,bP hr1 (Ua V1 (w.heap.size+1)) (fun b hb e=>by have:=hr2 b hb;omega),fun b hb=>by have:=hr2 b hb;omega,(Ua V1 (w.heap.size+1)).below hB1 hB1.size (fun b e=>by omega)⟩
 refine lQ rfl fun K hK=>?_
 go_simp;refine hK.out _ _ ?_;clear hK hHeld hr1 hr2 hr3 jU hbd KS hAn hR f0 f1 f2 f3 f4 f5 f6 f7 f8 f9;try go_wp2
 refine bodyPost_ret (v:=.agg (xI x Ar)) (by simp[results,Tryz.results216,go_sem,xI, *]) rfl ?_
 exact⟨_,rfl,HN.out⟩
theorem Ub {X X1:World} {R:List Mb} {a:Option Addr} {c:Nat} {f:Fp} (h:aI.ow X (dA 5 gW R) (.slice a R.length c) f) (hb:Below X.heap.size X X1) {m:Mb} {Ar:Ma} {fr:Fp} (hr:bG X1 (fD m) (fE Ar m) fr) (hfr:∀ b,fr b→X.heap.size≤b) (hl:R.length≤1000000) :
  ∀ Y,Same Y (X1.alloc (.cells (dZ Ar m) 47))→∃ v' w4,(Builtin.append_ #[24,24] 24 #[.slice a R.length c,.slice (some ⟨X1.heap.size,0,none⟩) 1 1]).run Tryz.prog Y=.ok v' w4 ∧
   ∃ a' c' f',v'=.slice a' (R.length+1) c'∧aI.ow w4 (dA 5 gW (R++[m])) (.slice a' (R++[m]).length c') f'∧(∀ b,f' b→f b∨X.heap.size≤b)∧aO f X w4:=by
 intro Y hY;have jg:=(aF X1 _).trans (hY.below.mono (aF X1 _).size);have h2:=aI.cZ (aI.cZ h hb) jg;have sG:=EK (bM hr jg);have hpl:=aI.iT h;have G8:=hb.size;obtain⟨a',c',w4,fp',k1,k2,k3,k4⟩:=qI (P:=Tryz.prog) sU (w:=Y) 24 24 47 _ 72 Tryz.underlying24 Tryz.infoMb rfl (by omega) (x:=m) h2 sG (fun b hb1 hb2=>by have:=hpl b hb1;have:=hfr b hb2;omega) (oO sG (NV m)) X1.heap.size 47 (by rw[hY.heap];exact heap_alloc_new X1 _) (by unfold maxLen;omega) (by omega)
 have hYs:X1.heap.size<Y.heap.size:=by rw[hY.size];simp
 have rV:=hb.trans (jg.mono hb.size);refine⟨_,w4,k1,a',c',fp',rfl,by rw[List.length_append];exact k2,fun b hb1=>?_,(aO.of_below rV).trans k3 (fun b _ h=>h)⟩
 rcases k4 b hb1 with k|k|k
 ·exact .inl k
 ·exact .inr (hfr b k)
 ·exact .inr (by omega)
theorem Uc {X X1:World} {R:List Ml} {a:Option Addr} {c:Nat} {f:Fp} (h:aI.ow X (dA 10 gZ R) (.slice a R.length c) f) (hb:Below X.heap.size X X1) {x:Ml} {Ar:Ra} {fr:Fp} (hr:bG X1 (fM x.row) (fC Ar x.row) fr) (hfr:∀ b,fr b→X.heap.size≤b) (hl:R.length≤1000000) :
  ∀ Y,Same Y (X1.alloc (.cells (xI x Ar) 68))→∃ v' w4,(Builtin.append_ #[26,26] 26 #[.slice a R.length c,.slice (some ⟨X1.heap.size,0,none⟩) 1 1]).run Tryz.prog Y=.ok v' w4 ∧
   ∃ a' c' f',v'=.slice a' (R.length+1) c'∧aI.ow w4 (dA 10 gZ (R++[x])) (.slice a' (R++[x]).length c') f'∧(∀ b,f' b→f b∨X.heap.size≤b)∧aO f X w4:=by
 intro Y hY;have jg:=(aF X1 _).trans (hY.below.mono (aF X1 _).size);have h2:=aI.cZ (aI.cZ h hb) jg;have sG:=NY (bM hr jg);have hpl:=aI.iT h;have G8:=hb.size;obtain⟨a',c',w4,fp',k1,k2,k3,k4⟩:=qI (P:=Tryz.prog) kK (w:=Y) 26 26 68 _ 136 Tryz.underlying26 Tryz.infoMl rfl (by omega) (x:=x) h2 sG (fun b hb1 hb2=>by have:=hpl b hb1;have:=hfr b hb2;omega) (oO sG (wG x)) X1.heap.size 68 (by rw[hY.heap];exact heap_alloc_new X1 _) (by unfold maxLen;omega) (by omega)
 have hYs:X1.heap.size<Y.heap.size:=by rw[hY.size];simp
 have rV:=hb.trans (jg.mono hb.size);refine⟨_,w4,k1,a',c',fp',rfl,by rw[List.length_append];exact k2,fun b hb1=>?_,(aO.of_below rV).trans k3 (fun b _ h=>h)⟩
 rcases k4 b hb1 with k|k|k
 ·exact .inl k
 ·exact .inr (hfr b k)
 ·exact .inr (by omega)
theorem ad9 (A:Ga) (g:Gr) (n:Nat) (w:World) (hv:uO w A g) (ok:OkG g n) :
  Calls Tryz.prog 67 #[.slice A.ma g.mem.length A.mc] w fun e w'=>∃ a c,e=.returned (.slice a g.mem.length c)∧oD w w' (dA 5 gW g.mem) (.slice a g.mem.length c):=by
 have hb0:=aF w (.cells #[] 47);have HB0:=aj hb0;have fH:Hid (aI.ow (w.alloc (.cells #[] 47)) (dA 5 gW []) (.slice (some ⟨w.heap.size,0,none⟩) 0 0) (fun _=>False)):=⟨some ⟨w.heap.size,0,none⟩,0,[],none,fun _=>False,rfl,dR.nil _ _ (jG _ _),⟨rfl,fun _ h=>h⟩,fun _ _ h=>h,fun b=>by simp⟩
 have HV:=aj hv;have cO:=aj ok;have hl5:g.mem.length≤200:=by rw[ok.ml];have:=ok.n5;omega
 clear hb0 hv ok;go_enter Tryz.func67,Tryz.ntmps67
 go_wp2_with fail
 generalize w.alloc (.cells #[] 47)=W0 at *
 go_loopw [3,9] (fun v k wr=>∃ (j:Nat) (a:Option Addr) (cc:Nat) (Z:List Mb) (fz:Fp),j≤g.mem.length∧k=.int .i64 (j:Int)∧v=.slice a Z.length cc∧Hid (Z=g.mem.take j)∧aI.ow wr (dA 5 gW Z) (.slice a Z.length cc) fz∧(∀ b,fz b→w.heap.size≤b)∧Below w.heap.size w wr) (fun _ k _=>g.mem.length-(intOf k).toNat)
 case atStart=>exact⟨0,some ⟨w.heap.size,0,none⟩,0,[],_,Nat.zero_le _,rfl,rfl,rfl,fH.out,fun b h=>h.elim,HB0.out⟩
 case round =>
  obtain⟨j,a,cc,Z,fz,hj,rfl,rfl,hZ,hO,hfz,hb⟩:=hrel;by_cases hlt:j<g.mem.length
  ·have k1:(j:Int)<(g.mem.length:Int):=by omega
   have k0:(0:Int)≤(j:Int):=by omega
   obtain⟨gb,off,Ak,hra,⟨d0,d1,d2,d3,d4⟩,kV⟩:=(HV.out.below hb).member hlt;have BQ:=cO.out.mem j (by rw[← cO.out.ml];exact hlt)
   have hrk:∀ k,k<(aN g j).rows.length→0<(ah (aN g j).rows k).got.length∧iy (ah (aN g j).rows k)≤1000:=fun k hk=>by
    have h:=BQ.ok k (by rw[← BQ.len];exact hk)
    have:=h.n5;exact⟨by rw[h.gl];omega,by have:=h.c8.2;omega⟩
   have hr5:(aN g j).rows.length≤5:=by rw[BQ.len];have:=BQ.n5;omega
   have hs6:(aN g j).au.length≤100:=by have:=BQ.sl;omega
   clear BQ
   have HN:Hid (Z++[aN g j]=g.mem.take (j+1)):=by
    rw[Hid,hZ.out,List.take_succ_eq_append_getElem hlt];simp[aN,List.getD,hlt]
   have Bq:Z.length≤1000000:=Nat.le_trans (by rw[hZ.out,List.length_take];omega:Z.length≤200) (by decide)
   rw[hra];have HRa:=aj hra;generalize aN g j=m at *;have hba:=aF wr (.cells #[.int .i64 m.id,.int .i64 m.n,.slice Ak.ra m.rows.length Ak.rc,.slice Ak.sa m.au.length Ak.sc,.bool m.done] 47);have hxr:=Bx.new wr 47 #[.int .i64 m.id,.int .i64 m.n,.slice Ak.ra m.rows.length Ak.rc,.slice Ak.sa m.au.length Ak.sc,.bool m.done];have iw:=aj hba;have HB:=aj hb;have HO:=aj (aI.cZ hO hba);have hAn:=OL Ak m (wr.alloc (.cells #[.int .i64 m.id,.int .i64 m.n,.slice Ak.ra m.rows.length Ak.rc,.slice Ak.sa m.au.length Ak.sc,.bool m.done] 47)) (kV.below hba) hrk hr5 hs6;unfold eG dZ at hAn;obtain⟨x0,x1,x2,x3,x4⟩:=Bx.r5 hxr;clear kV hb hO hxr hba hra;go_upto_region 5 with fail
   clear d0 d1 d2 d3 d4;generalize wr.alloc (.cells #[.int .i64 m.id,.int .i64 m.n,.slice Ak.ra m.rows.length Ak.rc,.slice Ak.sa m.au.length Ak.sc,.bool m.done] 47)=W5 at *;have hmt:=ad6 (.agg #[.int .i64 m.id,.int .i64 m.n,.slice Ak.ra m.rows.length Ak.rc,.slice Ak.sa m.au.length Ak.sc,.bool m.done]);go_wp2_with fail
   refine hAn.mono ?_;rintro e V1 ⟨Ar,rfl,fr,hr1,hr2,hr3⟩;have hA:=Ub HO.out hr3 hr1 hr2 Bq;have HR3:=aj hr3;have HR2:=aj hr3.size;have TY:=aj iw.out.size;clear hAn hmt x0 x1 x2 x3 x4 hr1 hr2 hr3;unfold eG;unfold dZ at hA ⊢;go_wp2_with (at_builtin;refine aZ (by rfl) _ _ _ _ (by rfl) _ _ (by rfl) (by rfl) hA ⟨rfl,rfl,rfl,rfl⟩ ?_;rintro v1 w1 ⟨a1,e1,f1,rfl,q1,q2,q3⟩;have pY:Hid (aI.ow w1 (dA 5 gW (Z++[m])) (.slice a1 (Z++[m]).length e1) f1):=q1;have yK:Hid (∀ b,f1 b→fz b∨W5.heap.size≤b):=q2;have yL:Hid (aO fz W5 w1):=q3;clear q1 q2 q3 hA)
   have HL:Hid ((Z++[m]).length=Z.length+1):=by rw[Hid,List.length_append];rfl
   have hs1:=HB.out.size;have hs2:=TY.out;go_roundw
   case rel=>exact⟨j+1,a1,e1,Z++[m],f1,by omega,by go_num,by rw[HL.out],HN.out,pY.out,fun b hb=>(yK.out b hb).elim (hfz b) (fun h=>by omega),yL.out.below (HB.out.trans (iw.out.mono HB.out.size)) (by omega) (fun b hb=>hfz b hb)⟩
   case measure=>simp[intOf];omega
  ·have k1:¬ ((j:Int)<(g.mem.length:Int)):=by omega
   have eZ:Z=g.mem:=by rw[hZ.out,show j=g.mem.length by omega,List.take_length]
   subst eZ;have HO:Hid (oD w wr (dA 5 gW g.mem) (.slice a g.mem.length cc)):=⟨fz,hO,hfz,hb⟩;clear hO hb hZ;go_wp2;go_ret
   exact⟨a,cc,rfl,HO.out⟩
theorem ae0 (A:Ga) (g:Gr) (n:Nat) (w:World) (hv:uO w A g) (ok:OkG g n) :
  Calls Tryz.prog 69 #[.slice A.la g.aG.length A.lc] w fun e w'=>∃ a c,e=.returned (.slice a g.aG.length c)∧oD w w' (dA 10 gZ g.aG) (.slice a g.aG.length c):=by
 have hb0:=aF w (.cells #[] 68);have HB0:=aj hb0;have fH:Hid (aI.ow (w.alloc (.cells #[] 68)) (dA 10 gZ []) (.slice (some ⟨w.heap.size,0,none⟩) 0 0) (fun _=>False)):=⟨some ⟨w.heap.size,0,none⟩,0,[],none,fun _=>False,rfl,dR.nil _ _ (jG _ _),⟨rfl,fun _ h=>h⟩,fun _ _ h=>h,fun b=>by simp⟩
 have HV:=aj hv;have cO:=aj ok;have hl5:g.aG.length≤200:=by exact ok.lX
 clear hb0 hv ok;go_enter Tryz.func69,Tryz.ntmps69
 go_wp2_with fail
 generalize w.alloc (.cells #[] 68)=W0 at *
 go_loopw [3,9] (fun v k wr=>∃ (j:Nat) (a:Option Addr) (cc:Nat) (Z:List Ml) (fz:Fp),j≤g.aG.length∧k=.int .i64 (j:Int)∧v=.slice a Z.length cc∧Hid (Z=g.aG.take j)∧aI.ow wr (dA 10 gZ Z) (.slice a Z.length cc) fz∧(∀ b,fz b→w.heap.size≤b)∧Below w.heap.size w wr) (fun _ k _=>g.aG.length-(intOf k).toNat)
 case atStart=>exact⟨0,some ⟨w.heap.size,0,none⟩,0,[],_,Nat.zero_le _,rfl,rfl,rfl,fH.out,fun b h=>h.elim,HB0.out⟩
 case round =>
  obtain⟨j,a,cc,Z,fz,hj,rfl,rfl,hZ,hO,hfz,hb⟩:=hrel;by_cases hlt:j<g.aG.length
  ·have k1:(j:Int)<(g.aG.length:Int):=by omega
   have k0:(0:Int)≤(j:Int):=by omega
   obtain⟨gb,off,Ak,hra,d0,d1,⟨⟨d2,d3,d4,d5⟩,d6,d7,d8,d9⟩,kV⟩:=(HV.out.below hb).letter hlt
   have BQ:dL (aU g j).row n:=by
    obtain⟨_,_,_,_,_,_,_,h⟩:=cO.out.iP _ (BO hlt);exact h
   have hrk:0<(aU g j).row.got.length∧iy (aU g j).row≤1000:=by
    have:=BQ.n5;exact⟨by rw[BQ.gl];omega,by have:=BQ.c8.2;omega⟩
   clear BQ
   have HN:Hid (Z++[aU g j]=g.aG.take (j+1)):=by
    rw[Hid,hZ.out,List.take_succ_eq_append_getElem hlt];simp[aU,List.getD,hlt]
   have Bq:Z.length≤1000000:=Nat.le_trans (by rw[hZ.out,List.length_take];omega:Z.length≤200) (by decide)
   rw[hra];have HRa:=aj hra;generalize aU g j=x at *;have hba:=aF wr (.cells #[.int .i64 x.fr,.int .i64 x.to,.int .i64 x.row.ver,.slice Ak.ta x.row.txt.length Ak.tc,.slice Ak.ga x.row.got.length Ak.gc,.slice Ak.sa x.row.ak.length Ak.sc,.bool x.row.wed,.bool x.row.aB,.int .i64 x.row.aC,.slice Ak.ma x.row.aA.length Ak.mc] 68);have hxr:=Bx.new wr 68 #[.int .i64 x.fr,.int .i64 x.to,.int .i64 x.row.ver,.slice Ak.ta x.row.txt.length Ak.tc,.slice Ak.ga x.row.got.length Ak.gc,.slice Ak.sa x.row.ak.length Ak.sc,.bool x.row.wed,.bool x.row.aB,.int .i64 x.row.aC,.slice Ak.ma x.row.aA.length Ak.mc];have iw:=aj hba;have HB:=aj hb;have HO:=aj (aI.cZ hO hba);have hAn:=ad8 Ak x (wr.alloc (.cells #[.int .i64 x.fr,.int .i64 x.to,.int .i64 x.row.ver,.slice Ak.ta x.row.txt.length Ak.tc,.slice Ak.ga x.row.got.length Ak.gc,.slice Ak.sa x.row.ak.length Ak.sc,.bool x.row.wed,.bool x.row.aB,.int .i64 x.row.aC,.slice Ak.ma x.row.aA.length Ak.mc] 68)) (kV.below hba) hrk.1 hrk.2;try unfold xI at hAn
   obtain⟨⟨x0,x1,x2,x3,x4⟩,x5,x6,x7,x8,x9⟩:=Bx.yC hxr;clear kV hb hO hxr hba hra;go_upto_region 5 with fail
   clear d0 d1 d2 d3 d4 d5 d6 d7 d8 d9;generalize wr.alloc (.cells #[.int .i64 x.fr,.int .i64 x.to,.int .i64 x.row.ver,.slice Ak.ta x.row.txt.length Ak.tc,.slice Ak.ga x.row.got.length Ak.gc,.slice Ak.sa x.row.ak.length Ak.sc,.bool x.row.wed,.bool x.row.aB,.int .i64 x.row.aC,.slice Ak.ma x.row.aA.length Ak.mc] 68)=W5 at *;have hmt:=ad7 (.agg #[.int .i64 x.fr,.int .i64 x.to,.int .i64 x.row.ver,.slice Ak.ta x.row.txt.length Ak.tc,.slice Ak.ga x.row.got.length Ak.gc,.slice Ak.sa x.row.ak.length Ak.sc,.bool x.row.wed,.bool x.row.aB,.int .i64 x.row.aC,.slice Ak.ma x.row.aA.length Ak.mc]);go_wp2_with fail
   refine hAn.mono ?_;rintro e V1 ⟨Ar,rfl,fr,hr1,hr2,hr3⟩;have hA:=Uc HO.out hr3 hr1 hr2 Bq;have HR3:=aj hr3;have HR2:=aj hr3.size;have TY:=aj iw.out.size;clear hAn hmt x0 x1 x2 x3 x4 x5 x6 x7 x8 x9 hr1 hr2 hr3;unfold xI at hA ⊢;go_wp2_with (at_builtin;refine aZ (by rfl) _ _ _ _ (by rfl) _ _ (by rfl) (by rfl) hA ⟨rfl,rfl,rfl,rfl⟩ ?_;rintro v1 w1 ⟨a1,e1,f1,rfl,q1,q2,q3⟩;have pY:Hid (aI.ow w1 (dA 10 gZ (Z++[x])) (.slice a1 (Z++[x]).length e1) f1):=q1;have yK:Hid (∀ b,f1 b→fz b∨W5.heap.size≤b):=q2;have yL:Hid (aO fz W5 w1):=q3;clear q1 q2 q3 hA)
   have HL:Hid ((Z++[x]).length=Z.length+1):=by rw[Hid,List.length_append];rfl
   have hs1:=HB.out.size;have hs2:=TY.out;go_roundw
   case rel=>exact⟨j+1,a1,e1,Z++[x],f1,by omega,by go_num,by rw[HL.out],HN.out,pY.out,fun b hb=>(yK.out b hb).elim (hfz b) (fun h=>by omega),yL.out.below (HB.out.trans (iw.out.mono HB.out.size)) (by omega) (fun b hb=>hfz b hb)⟩
   case measure=>simp[intOf];omega
  ·have k1:¬ ((j:Int)<(g.aG.length:Int)):=by omega
   have eZ:Z=g.aG:=by rw[hZ.out,show j=g.aG.length by omega,List.take_length]
   subst eZ;have HO:Hid (oD w wr (dA 10 gZ g.aG) (.slice a g.aG.length cc)):=⟨fz,hO,hfz,hb⟩;clear hO hb hZ;go_wp2;go_ret
   exact⟨a,cc,rfl,HO.out⟩
theorem QH {w:World} {a:Option Addr} {c:Nat} {L:List Bool} (hv:Hf w a L) (hl:L.length≤1000000):∀ Y,Same Y (w.alloc (.cells #[] 4))→∃ v' w4,(Builtin.append_ #[25,25] 25 #[.slice (some ⟨w.heap.size,0,none⟩) 0 0,.slice a L.length c]).run Tryz.prog Y=.ok v' w4∧∃ a' c' f',v'=.slice a' L.length c'∧aI.ow w4 (qR L) v' f'∧(∀ b,f' b→w.heap.size≤b)∧Below w.heap.size w w4:=by
 intro Y hY;have nN:=(aF w _).trans (hY.below.mono (aF w _).size);obtain⟨a',c',w4,fp,k1,k2,k3,k4⟩:=JY (w:=Y) (jG w.heap.size 0) (c:=c) (hv.below nN) hl;exact⟨_,w4,k1,a',c',fp,rfl,k2,fun b hb=>by have:=k4 b hb;have:=nN.size;omega,k3.below nN nN.size (fun b h=>h.elim)⟩
theorem ae1 (a:Option Addr) (c:Nat) (L:List Bool) (w:World) (hv:Hf w a L) (hl:L.length≤1000000) :
  Calls Tryz.prog 68 #[.slice a L.length c] w fun e w'=>∃ a' c',e=.returned (.slice a' L.length c')∧oD w w' (qR L) (.slice a' L.length c'):=by
 have q25:∀ (w:World) (a:Option Addr) (n c n' c':Nat),(binOp .eql 25 (.slice a n c) (.slice none n' c')).run Tryz.prog w=.ok (.bool a.isNone) w:=fun w a n c n' c'=>Lib.run_eql_slice_nil w _ _ a n c n' c' Tryz.underlying25
 cases a with
 | none =>
  have hx:L=[]:=by
   rcases hv with h|⟨b,o,e,_⟩
   ·exact List.eq_nil_of_length_eq_zero h
   ·cases e
  subst hx;clear hv;have HQ:Hid (oD w w (qR []) (.slice none 0 0)):=⟨fun _=>False,EN.2 ⟨none,0,none,rfl,dR.nil _ _ (fun _ h=>by cases h),fun b=>by simp⟩,fun _ h=>h.elim,Below.refl _ _⟩
  go_enter Tryz.func68,Tryz.ntmps68
  go_wp2;go_ret
  exact⟨none,0,rfl,HQ.out⟩
 | some ad =>
  have hA:=QH (c:=c) hv hl;clear hv;go_enter Tryz.func68,Tryz.ntmps68
  go_wp2_with (at_builtin;refine aZ (by rfl) _ _ _ _ (by rfl) _ _ (by rfl) (by rfl) hA ⟨rfl,rfl,rfl,rfl⟩ ?_;rintro v1 w1 ⟨a1,e1,f1,rfl,q1,q2,q3⟩;have HQ:Hid (oD w w1 (qR L) (.slice a1 L.length e1)):=⟨f1,q1,q2,q3⟩;clear q1 q2 q3 hA)
  go_ret
  exact⟨a1,e1,rfl,HQ.out⟩
theorem OQ (A:Ga) (g:Gr) (n:Nat) (w:World) (hv:uO w A g) (ok:OkG g n) :
  Calls Tryz.prog 35 #[iO A g] w fun e w'=>av1 w w' e g:=by
 have bH:=dH;have hb1:=aF w (.cells #[.slice A.ma g.mem.length A.mc,.slice A.ua g.up.length A.uc,.slice A.la g.aG.length A.lc] 28);have hb2:=aF (w.alloc (.cells #[.slice A.ma g.mem.length A.mc,.slice A.ua g.up.length A.uc,.slice A.la g.aG.length A.lc] 28)) (.cells #[.slice none 0 0,.slice none 0 0,.slice none 0 0] 28);have hx1:Bx ((w.alloc (.cells #[.slice A.ma g.mem.length A.mc,.slice A.ua g.up.length A.uc,.slice A.la g.aG.length A.lc] 28)).alloc (.cells #[.slice none 0 0,.slice none 0 0,.slice none 0 0] 28)) w.heap.size 28 #[.slice A.ma g.mem.length A.mc,.slice A.ua g.up.length A.uc,.slice A.la g.aG.length A.lc]:=(Bx.new w _ _).alloc _
 have hx2:Bx ((w.alloc (.cells #[.slice A.ma g.mem.length A.mc,.slice A.ua g.up.length A.uc,.slice A.la g.aG.length A.lc] 28)).alloc (.cells #[.slice none 0 0,.slice none 0 0,.slice none 0 0] 28)) (w.heap.size+1) 28 #[.slice none 0 0,.slice none 0 0,.slice none 0 0]:=by
  have:=Bx.new (w.alloc (.cells #[.slice A.ma g.mem.length A.mc,.slice A.ua g.up.length A.uc,.slice A.la g.aG.length A.lc] 28)) 28 #[.slice none 0 0,.slice none 0 0,.slice none 0 0];simp only[World.size_alloc] at this;exact this
 have kP:=hb1.trans (hb2.mono hb1.size);have hsz:w.heap.size+2=((w.alloc (.cells #[.slice A.ma g.mem.length A.mc,.slice A.ua g.up.length A.uc,.slice A.la g.aG.length A.lc] 28)).alloc (.cells #[.slice none 0 0,.slice none 0 0,.slice none 0 0] 28)).heap.size:=by simp only[World.size_alloc]
 have sJ:=aj hx1;have jZ:=aj hx2;have HB:=aj kP;have HV:=aj hv;have xU:=aj hsz;have zQ:g.up.length≤1000000:=by rw[ok.ul];have:=ok.n5;omega
 unfold iO jF;clear hb1 hb2 hx1 hx2 kP hsz hv;go_enter Tryz.func35,Tryz.ntmps35
 go_upto_region 1 with fail
 generalize (w.alloc (.cells #[.slice A.ma g.mem.length A.mc,.slice A.ua g.up.length A.uc,.slice A.la g.aG.length A.lc] 28)).alloc (.cells #[.slice none 0 0,.slice none 0 0,.slice none 0 0] 28)=W0 at *;have hbd:=(Same.drewN W0 1).below;have KS:∀ Z,Below W0.heap.size W0 Z→Z.cell? ⟨w.heap.size,0,none⟩=some (.slice A.ma g.mem.length A.mc)∧Z.cell? ⟨w.heap.size,1,none⟩=some (.slice A.ua g.up.length A.uc)∧Z.cell? ⟨w.heap.size,2,none⟩=some (.slice A.la g.aG.length A.lc):=fun Z hZ=>Bx.g3 (sJ.out.below hZ)
 have hA1:=ad9 A g n W0.drew ((HV.out.below HB.out).below hbd) ok;have HA2:Hid (∀ X,Below W0.heap.size W0 X→Calls Tryz.prog 68 #[.slice A.ua g.up.length A.uc] X fun e w'=>∃ a' c',e=.returned (.slice a' g.up.length c')∧oD X w' (qR g.up) (.slice a' g.up.length c')):=fun X hX=>ae1 A.ua A.uc g.up X (((HV.out.below HB.out).below hX).grs.up) zQ
 have Zj:Hid (∀ X,Below W0.heap.size W0 X→Calls Tryz.prog 69 #[.slice A.la g.aG.length A.lc] X fun e w'=>∃ a c,e=.returned (.slice a g.aG.length c)∧oD X w' (dA 10 gZ g.aG) (.slice a g.aG.length c)):=fun X hX=>ae0 A g n X ((HV.out.below HB.out).below hX) ok
 refine jE (S:=fun Z:World=>Z.cell? ⟨w.heap.size,0,none⟩=some (.slice A.ma g.mem.length A.mc)∧Z.cell? ⟨w.heap.size,1,none⟩=some (.slice A.ua g.up.length A.uc)∧Z.cell? ⟨w.heap.size,2,none⟩=some (.slice A.la g.aG.length A.lc)) 10 bH ((KS _ hbd)) fun hHeld=>?_
 refine aY (i:=0) rfl hHeld ?_;refine aY (i:=1) rfl hHeld ?_;refine aY (i:=3) rfl hHeld ?_;refine aY (i:=4) rfl hHeld ?_;refine aY (i:=6) rfl hHeld ?_;refine aY (i:=7) rfl hHeld ?_;refine dI (i:=2) rfl fun K hK=>?_
 go_simp
 go_at_call 67
 refine hA1.mono ?_;rintro e V1 ⟨a1,c1,rfl,f1,o1,p1,b1⟩;have hb1:=hbd.trans (b1.mono hbd.size);refine hK.out _ _ (KS _ hb1) (fun aK=>?_)
 clear hK hHeld;have hHeld:=aK;try simp only[dw]
 refine dI (i:=5) rfl fun K hK=>?_
 go_simp
 go_at_call 68
 refine (HA2.out V1 hb1).mono ?_;rintro e V2 ⟨a2,c2,rfl,f2,o2,p2,b2⟩;have hb2:=hb1.trans (b2.mono hb1.size);refine hK.out _ _ (KS _ hb2) (fun aK=>?_)
 clear hK hHeld;have hHeld:=aK;try simp only[dw]
 refine dI (i:=8) rfl fun K hK=>?_
 go_simp
 go_at_call 69
 refine (Zj.out V2 hb2).mono ?_;rintro e V3 ⟨a3,c3,rfl,f3,o3,p3,b3⟩;have hb3:=hb2.trans (b3.mono hb2.size);refine hK.out _ _ (KS _ hb3) (fun aK=>?_)
 clear hK hHeld;have hHeld:=aK;try simp only[dw]
 refine aS (i:=9) rfl ?_;have hR:=jZ.out.below hb3;obtain⟨t0,t1,t2⟩:=Bx.g3 hR;obtain⟨q0,q1,q2⟩:=hR.f3
 have HN:Hid (∀ {z0 z1 z2:Value},iL w (((V3.setCell ⟨w.heap.size+1,0,none⟩ z0).setCell ⟨w.heap.size+1,1,none⟩ z1).setCell ⟨w.heap.size+1,2,none⟩ z2) (dB g) (gq ⟨a1,c1,a2,c2,a3,c3⟩ g)):=fun {z0 z1 z2}=>by
  have hB1:=HB.out.trans (hb3.mono HB.out.size);have hd:W0.drew.heap.size=W0.heap.size:=rfl;have hs:=xU.out;have l1:=aI.iT o1;have l2:=aI.iT o2;have s1:=b1.size;have s2:=b2.size;have hw:=qp V3 (w.heap.size+1) (a:=z0) (b:=z1) (c:=z2);refine⟨_,rQ (aI.lU (aI.cZ (aI.cZ o1 b2) b3) hw (fun b hb e=>by have:=p1 b hb;omega)) (rQ (aI.lU (aI.cZ o2 b3) hw (fun b hb e=>by have:=p2 b hb;omega)) (rQ (aI.lU o3 hw (fun b hb e=>by have:=p3 b hb;omega)) (⟨rfl,fun _ h=>h⟩:bG _ [] [] (fun _=>False)) (fun _ _ h=>h)) (fun b h1 h2=>?_)) (fun b h1 h2=>?_),fun b hb=>?_,hw.below hB1 hB1.size (fun b e=>by omega)⟩
  ·rcases h2 with h2|h2
   ·have:=l2 b h1;have:=p3 b h2;omega
   ·exact h2
  ·rcases h2 with h2|h2|h2
   ·have:=l1 b h1;have:=p2 b h2;omega
   ·have:=l1 b h1;have:=p3 b h2;omega
   ·exact h2
  ·rcases hb with hb|hb|hb|hb
   ·have:=p1 b hb;omega
   ·have:=p2 b hb;omega
   ·have:=p3 b hb;omega
   ·exact hb.elim
 refine lQ rfl fun K hK=>?_
 go_simp;refine hK.out _ _ ?_;clear hK hHeld o1 o2 o3 p1 p2 p3 b1 b2 b3 hb1 hb2 hb3 hbd KS hA1 hR q0 q1 q2;try go_wp2
 refine bodyPost_ret (v:=iO ⟨a1,c1,a2,c2,a3,c3⟩ g) (by simp[results,Tryz.results35,go_sem,iO,jF, *]) rfl ?_
 exact⟨_,rfl,HN.out⟩
end Go.Proofs.YtafimeakbdmkjaaGreat