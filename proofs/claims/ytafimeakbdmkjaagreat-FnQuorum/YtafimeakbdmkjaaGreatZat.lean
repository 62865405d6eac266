/-
  Texts in one.
-/
import Derived.Test.YtafimeakbdmkjaaGreatZaa
import Derived.Test.YtafimeakbdmkjaaGreatZas
import Derived.Test.YtafimeakbdmkjaaGreatZao
import Derived.Test.YtafimeakbdmkjaaGreatZaf
import Derived.Test.YtafimeakbdmkjaaGreatZab
import Derived.Test.YtafimeakbdmkjaaGreatZag
import Derived.Test.YtafimeakbdmkjaaGreatZar
import Derived.Test.YtafimeakbdmkjaaGreatZah
import Derived.Test.YtafimeakbdmkjaaGreatZai
import Derived.Test.YtafimeakbdmkjaaGreatZaj
import Derived.Lib.Overlaps
import Derived.Lib.AppendZerosOnto
import Derived.Lib.SlicesSearch
import Derived.Lib.JoinLaws
import Derived.Lib.SliceRun
import Derived.Laws.IdiomCopy
import Derived.Laws.NewBlocks
import Derived.Laws.Externs
import Derived.Deep.LoopGhost
import Derived.Deep.Draws
import Derived.Lib.Walk
import Derived.Shelf.RegionOpenPlain
namespace Go.Proofs.YtafimeakbdmkjaaGreat
set_option linter.unusedVariables false
set_option linter.unusedSimpArgs false
open Go.RowKit Go.Sort
set_option maxRecDepth 100000
set_option maxHeartbeats 12800000
section
def jB (x:Ac):Value:=if x.kind=1 then .iface 153 (.agg #[.int .i64 x.a,.string (sv x.txt)]) else if x.kind=2 then .iface 155 (.agg #[.int .i64 x.a,.int .i64 x.b]) else if x.kind=3 then .iface 156 (.agg #[.int .i64 x.a,.int .i64 x.b]) else if x.kind=4 then .iface 158 (.agg #[.int .i64 x.a]) else if x.kind=5 then .iface 159 (.agg #[.int .i64 x.a,.int .i64 x.b]) else if x.kind=6 then .iface 160 (.agg #[.int .i64 x.a]) else if x.kind=7 then .iface 161 (.agg #[.int .i64 x.a]) else .nilIface
def qh (x:Ac):List Int:=if x.kind=2∨x.kind=3∨x.kind=5 then [x.a,x.b] else [x.a]
def vG (x:Ac):Bool:=decide (1≤x.kind∧x.kind≤7)
theorem Xb (a t : Value) (w : World) : (Go.method 326 153 (.agg #[a, t]) "loop.example/g00266/impl.ones").run Tryz.prog w = .ok (217, .agg #[a]) w := by kernel_rfl
theorem Xc (a b : Value) (w : World) : (Go.method 326 155 (.agg #[a, b]) "loop.example/g00266/impl.ones").run Tryz.prog w = .ok (218, .agg #[a, b]) w := by kernel_rfl
theorem Xd (a b : Value) (w : World) : (Go.method 326 156 (.agg #[a, b]) "loop.example/g00266/impl.ones").run Tryz.prog w = .ok (218, .agg #[a, b]) w := by kernel_rfl
theorem Xe (a : Value) (w : World) : (Go.method 326 158 (.agg #[a]) "loop.example/g00266/impl.ones").run Tryz.prog w = .ok (217, .agg #[a]) w := by kernel_rfl
theorem Xf (a b : Value) (w : World) : (Go.method 326 159 (.agg #[a, b]) "loop.example/g00266/impl.ones").run Tryz.prog w = .ok (218, .agg #[a, b]) w := by kernel_rfl
theorem Xg (a : Value) (w : World) : (Go.method 326 160 (.agg #[a]) "loop.example/g00266/impl.ones").run Tryz.prog w = .ok (217, .agg #[a]) w := by kernel_rfl
theorem Xh (a : Value) (w : World) : (Go.method 326 161 (.agg #[a]) "loop.example/g00266/impl.ones").run Tryz.prog w = .ok (217, .agg #[a]) w := by kernel_rfl
theorem vU (W:World) (o:Obj):Below W.heap.size W (W.alloc o).drew:=bg (n:=1) (aF W o)
theorem vV (W:World) (o o':Obj):Below W.heap.size W ((W.alloc o).alloc o').drew:=bg (n:=1) ((aF W o).trans ((aF _ o').mono (aF W o).size))
theorem Cb (W:World) (o:Obj) (T:TypeId) (cs:Array Value):Bx ((W.alloc o).alloc (.cells cs T)) (W.heap.size+1) T cs:=by
 have:=Bx.new (W.alloc o) T cs;simpa only[World.size_alloc] using this
attribute [local irreducible] sv
theorem af6 (x:Ac) (w:World) :
  Calls Tryz.prog 81 #[.agg #[.int .i64 x.kind,.int .i64 x.a,.int .i64 x.b,.string (sv x.txt)]] w fun e w'=>e=.returned (jB x)∧Below w.heap.size w w':=by
 have bH:=dH;obtain⟨kd,xa,xb,tx⟩:=x;simp only
 have hb:=aF w (.cells #[.int .i64 kd,.int .i64 xa,.int .i64 xb,.string (sv tx)] 38);have hx:=Bx.new w 38 #[.int .i64 kd,.int .i64 xa,.int .i64 xb,.string (sv tx)];obtain⟨y0,y1,y2,y3⟩:=Bx.a4 hx;have HB:=aj hb;have HX:=aj hx;clear hb hx;go_enter Tryz.func81,Tryz.ntmps81
 go_upto_region 1 with fail
 generalize w.alloc (.cells #[.int .i64 kd,.int .i64 xa,.int .i64 xb,.string (sv tx)] 38)=W at *;have hbd:=(Same.drewN W 1).below
 have KS:∀ X,Below W.heap.size W X→X.cell? ⟨w.heap.size,1,none⟩=some (.int .i64 xa)∧X.cell? ⟨w.heap.size,2,none⟩=some (.int .i64 xb):=fun X hX=>by
  obtain⟨y0,y1,y2,y3⟩:=Bx.a4 (HX.out.below hX);exact⟨y1,y2⟩
 clear y0 y1 y2 y3
 go_cut [3,4] from 5 to 13 (fun s t wx=>∃ p q:Nat,s=.pointer (some ⟨p,0,none⟩)∧t=.pointer (some ⟨q,0,none⟩)∧Bx wx p 149 #[.int .i64 xa]∧Bx wx q 151 #[.int .i64 xa,.int .i64 xb]∧Below W.heap.size W wx)
 case first =>
  refine jE (S:=fun X:World=>X.cell? ⟨w.heap.size,1,none⟩=some (.int .i64 xa)∧X.cell? ⟨w.heap.size,2,none⟩=some (.int .i64 xb)) 11 bH ((KS _ hbd)) fun hHeld=>?_
  refine aS (i:=0) rfl ?_;refine aY (i:=1) rfl hHeld ?_;refine aS (i:=2) rfl ?_;refine aS (i:=3) rfl ?_;refine aY (i:=4) rfl hHeld ?_;refine aS (i:=5) rfl ?_;refine aY (i:=6) rfl hHeld ?_;refine aS (i:=7) rfl ?_;refine RF (i:=8) (j:=9) rfl rfl (by kernel_rfl) (by kernel_rfl) (fun K hK=>?_) (fun K hK=>?_)
  ·go_simp
   refine hK.out _ _ (KS _ (vU W (.cells #[.int .i64 0] 149))) (fun aK=>?_)
   clear hK hHeld;have hHeld:=aK;try simp only[dw]
   refine dI (i:=9) rfl fun K hK=>?_
   go_simp;refine hK.out _ _ (KS _ (vV W (.cells #[.int .i64 0] 149) (.cells #[.int .i64 0,.int .i64 0] 151))) (fun aK=>?_)
   clear hK hHeld;have hHeld:=aK;try simp only[dw]
   refine dI (i:=10) rfl fun K hK=>?_
   go_simp;refine hK.out _ _ (KS _ (vV W (.cells #[.int .i64 xa] 149) (.cells #[.int .i64 0,.int .i64 0] 151))) (fun aK=>?_)
   clear hK hHeld;have hHeld:=aK;try simp only[dw]
   refine lQ rfl fun K hK=>?_
   go_simp;refine hK.out _ _ ?_;try go_wp2_with fail
   go_meet
   case rel=>exact⟨W.heap.size,W.heap.size+1,rfl,rfl,((Bx.new W 149 #[.int .i64 xa]).alloc (.cells #[.int .i64 xa,.int .i64 xb] 151)),(Cb W (.cells #[.int .i64 xa] 149) 151 #[.int .i64 xa,.int .i64 xb]),vV W (.cells #[.int .i64 xa] 149) (.cells #[.int .i64 xa,.int .i64 xb] 151)⟩
  ·go_simp
   refine hK.out _ _ (KS _ (vU W (.cells #[.int .i64 0,.int .i64 0] 151))) (fun aK=>?_)
   clear hK hHeld;have hHeld:=aK;try simp only[dw]
   refine dI (i:=8) rfl fun K hK=>?_
   go_simp;refine hK.out _ _ (KS _ (vV W (.cells #[.int .i64 0,.int .i64 0] 151) (.cells #[.int .i64 0] 149))) (fun aK=>?_)
   clear hK hHeld;have hHeld:=aK;try simp only[dw]
   refine dI (i:=10) rfl fun K hK=>?_
   go_simp;refine hK.out _ _ (KS _ (vV W (.cells #[.int .i64 0,.int .i64 0] 151) (.cells #[.int .i64 xa] 149))) (fun aK=>?_)
   clear hK hHeld;have hHeld:=aK;try simp only[dw]
   refine lQ rfl fun K hK=>?_
   go_simp;refine hK.out _ _ ?_;try go_wp2_with fail
   go_meet
   case rel=>exact⟨W.heap.size+1,W.heap.size,rfl,rfl,(Cb W (.cells #[.int .i64 xa,.int .i64 xb] 151) 149 #[.int .i64 xa]),((Bx.new W 151 #[.int .i64 xa,.int .i64 xb]).alloc (.cells #[.int .i64 xa] 149)),vV W (.cells #[.int .i64 xa,.int .i64 xb] 151) (.cells #[.int .i64 xa] 149)⟩
 case rest =>
 obtain⟨p,q,rfl,rfl,hP,hQ,hbw⟩:=hcut;have HW:=aj (HB.out.trans (hbw.mono HB.out.size));obtain⟨y0,y1,y2,y3⟩:=Bx.a4 (HX.out.below hbw);have p0:=hP.at 0 rfl;obtain⟨q0,q1⟩:=Bx.r2 hQ;clear hP hQ hbw KS hbd;by_cases e1:kd=1
 ·have HZ:Hid (jB ⟨kd,xa,xb,tx⟩=.iface 153 (.agg #[.int .i64 xa,.string (sv tx)])):=by rw[Hid,e1];rfl
  have g1:(kd==1)=true:=by simpa using e1
  clear e1;go_wp2;go_ret
  exact⟨by rw[HZ.out];rfl,HW.out⟩
 have g1:(kd==1)=false:=by simpa using e1
 by_cases e2:kd=2
 ·have HZ:Hid (jB ⟨kd,xa,xb,tx⟩=.iface 155 (.agg #[.int .i64 xa,.int .i64 xb])):=by rw[Hid,e2];rfl
  have g2:(kd==2)=true:=by simpa using e2
  clear e2;go_wp2;go_ret
  exact⟨by rw[HZ.out];rfl,HW.out⟩
 have g2:(kd==2)=false:=by simpa using e2
 by_cases e3:kd=3
 ·have HZ:Hid (jB ⟨kd,xa,xb,tx⟩=.iface 156 (.agg #[.int .i64 xa,.int .i64 xb])):=by rw[Hid,e3];rfl
  have g3:(kd==3)=true:=by simpa using e3
  clear e3;go_wp2;go_ret
  exact⟨by rw[HZ.out];rfl,HW.out⟩
 have g3:(kd==3)=false:=by simpa using e3
 by_cases e4:kd=4
 ·have HZ:Hid (jB ⟨kd,xa,xb,tx⟩=.iface 158 (.agg #[.int .i64 xa])):=by rw[Hid,e4];rfl
  have g4:(kd==4)=true:=by simpa using e4
  clear e4;go_wp2;go_ret
  exact⟨by rw[HZ.out];rfl,HW.out⟩
 have g4:(kd==4)=false:=by simpa using e4
 by_cases e5:kd=5
 ·have HZ:Hid (jB ⟨kd,xa,xb,tx⟩=.iface 159 (.agg #[.int .i64 xa,.int .i64 xb])):=by rw[Hid,e5];rfl
  have g5:(kd==5)=true:=by simpa using e5
  clear e5;go_wp2;go_ret
  exact⟨by rw[HZ.out];rfl,HW.out⟩
 have g5:(kd==5)=false:=by simpa using e5
 by_cases e6:kd=6
 ·have HZ:Hid (jB ⟨kd,xa,xb,tx⟩=.iface 160 (.agg #[.int .i64 xa])):=by rw[Hid,e6];rfl
  have g6:(kd==6)=true:=by simpa using e6
  clear e6;go_wp2;go_ret
  exact⟨by rw[HZ.out];rfl,HW.out⟩
 have g6:(kd==6)=false:=by simpa using e6
 by_cases e7:kd=7
 ·have HZ:Hid (jB ⟨kd,xa,xb,tx⟩=.iface 161 (.agg #[.int .i64 xa])):=by rw[Hid,e7];rfl
  have g7:(kd==7)=true:=by simpa using e7
  clear e7;go_wp2;go_ret
  exact⟨by rw[HZ.out];rfl,HW.out⟩
 have g7:(kd==7)=false:=by simpa using e7
 have HZ:Hid (jB ⟨kd,xa,xb,tx⟩=.nilIface):=by rw[Hid,jB];simp only[e1,e2,e3,e4,e5,e6,e7,if_false]
 clear e1 e2 e3 e4 e5 e6 e7;go_wp2;go_ret
 exact⟨by rw[HZ.out];rfl,HW.out⟩
end
section
theorem Xi (v:Value) (w:World):(Instr.typeAssert (.iface 153 v) 77 156 true).run Tryz.prog w=.ok (.tuple #[.agg #[.int .i64 0,.int .i64 0],.bool false]) w:=by kernel_rfl
theorem Xj (v:Value) (w:World):(Instr.typeAssert (.iface 155 v) 77 156 true).run Tryz.prog w=.ok (.tuple #[.agg #[.int .i64 0,.int .i64 0],.bool false]) w:=by kernel_rfl
theorem Xk (v:Value) (w:World):(Instr.typeAssert (.iface 156 v) 77 156 true).run Tryz.prog w=.ok (.tuple #[v,.bool true]) w:=by kernel_rfl
theorem Xl (v:Value) (w:World):(Instr.typeAssert (.iface 158 v) 77 156 true).run Tryz.prog w=.ok (.tuple #[.agg #[.int .i64 0,.int .i64 0],.bool false]) w:=by kernel_rfl
theorem Xm (v:Value) (w:World):(Instr.typeAssert (.iface 159 v) 77 156 true).run Tryz.prog w=.ok (.tuple #[.agg #[.int .i64 0,.int .i64 0],.bool false]) w:=by kernel_rfl
theorem Xn (v:Value) (w:World):(Instr.typeAssert (.iface 160 v) 77 156 true).run Tryz.prog w=.ok (.tuple #[.agg #[.int .i64 0,.int .i64 0],.bool false]) w:=by kernel_rfl
theorem Xo (v:Value) (w:World):(Instr.typeAssert (.iface 161 v) 77 156 true).run Tryz.prog w=.ok (.tuple #[.agg #[.int .i64 0,.int .i64 0],.bool false]) w:=by kernel_rfl
theorem af7 {w:World} {b:Nat} {x:Int} (h:w.cell? ⟨b,0,none⟩=some (.int .i64 x)) (hx:eH x):Vec w (some ⟨b,0,none⟩) 1 [x] :=
 ⟨rfl,fun y hy => by rw [List.mem_singleton.1 hy];exact hx,.inr ⟨b,0,rfl,fun k hk => by
  have:k=0:=by omega
  subst this;exact h⟩⟩
theorem af8 {w:World} {b:Nat} {x y:Int} (h:w.cell? ⟨b,0,none⟩=some (.int .i64 x)) (h':w.cell? ⟨b,1,none⟩=some (.int .i64 y)) (hx:eH x) (hy:eH y):Vec w (some ⟨b,0,none⟩) 2 [x,y] :=
 ⟨rfl,fun z hz => by
  simp only[List.mem_cons,List.not_mem_nil,or_false] at hz;rcases hz with rfl|rfl
  ·exact hx
  ·exact hy,.inr ⟨b,0,rfl,fun k hk => by
  have:k=0∨k=1:=by omega
  rcases this with rfl|rfl
  ·exact h
  ·exact h'⟩⟩
theorem xX (x:Int) (hx:eH x) (w:World):Calls Tryz.prog 217 #[.agg #[.int .i64 x]] w fun e w'=>∃ b,e=.returned (.slice (some ⟨b,0,none⟩) 1 1)∧Vec w' (some ⟨b,0,none⟩) 1 [x]∧Below w.heap.size w w':=by
 have H:=aj hx;clear hx;go_enter Tryz.func217,Tryz.ntmps217
 go_wp2;go_ret
 exact⟨w.heap.size+1,rfl,af7 ((Cb w _ 2 #[.int .i64 x]).at 0 rfl) H.out,(aF w _).trans ((aF _ _).mono (aF w _).size)⟩
theorem Ce (x y:Int) (hx:eH x) (hy:eH y) (w:World):Calls Tryz.prog 218 #[.agg #[.int .i64 x,.int .i64 y]] w fun e w'=>∃ b,e=.returned (.slice (some ⟨b,0,none⟩) 2 2)∧Vec w' (some ⟨b,0,none⟩) 2 [x,y]∧Below w.heap.size w w':=by
 have H:Hid (eH x∧eH y):=⟨hx,hy⟩;clear hx hy;go_enter Tryz.func218,Tryz.ntmps218
 go_wp2;go_ret
 exact⟨w.heap.size+1,rfl,af8 ((Cb w _ 2 #[.int .i64 x,.int .i64 y]).at 0 rfl) ((Cb w _ 2 #[.int .i64 x,.int .i64 y]).at 1 rfl) H.out.1 H.out.2,(aF w _).trans ((aF _ _).mono (aF w _).size)⟩
attribute [local irreducible] sv
theorem LZ {x : Ac} (hk : vG x = true) (ha : eH x.a) (hb : eH x.b) : ∃ T v f r, ∃ z0 z1 : Int, jB x = .iface T v ∧ (∀ w : World, (Go.method 326 T v "loop.example/g00266/impl.ones").run Tryz.prog w = .ok (f, r) w) ∧ (∀ (args : Array Value) (w : World), (callFunc f args).run Tryz.prog w = .ok (.enter f args) w) ∧
  (∀ w:World,(Instr.typeAssert (.iface T v) 77 156 true).run Tryz.prog w=.ok (.tuple #[.agg #[.int .i64 z0,.int .i64 z1],.bool (decide (x.kind=3))]) w) ∧
  ∀ w,Calls Tryz.prog f #[r] w fun e w'=>∃ b,e=.returned (.slice (some ⟨b,0,none⟩) (qh x).length (qh x).length)∧Vec w' (some ⟨b,0,none⟩) (qh x).length (qh x)∧Below w.heap.size w w':=by
 obtain⟨kd,xa,xb,tx⟩:=x;simp only at ha hb
 rw[vG,decide_eq_true_eq] at hk;simp only at hk
 by_cases e1:kd=1
 ·subst e1
  exact⟨153,(.agg #[.int .i64 xa,.string (sv tx)]),217,(.agg #[.int .i64 xa]),0,0,rfl,fun w=>Xb _ _ w,fun _ _=>enters_of Tryz.func217 (by kernel_rfl) rfl _ _,fun w=>Xi _ w,fun X=>xX xa ha X⟩
 by_cases e2:kd=2
 ·subst e2
  exact⟨155,(.agg #[.int .i64 xa,.int .i64 xb]),218,(.agg #[.int .i64 xa,.int .i64 xb]),0,0,rfl,fun w=>Xc _ _ w,fun _ _=>enters_of Tryz.func218 (by kernel_rfl) rfl _ _,fun w=>Xj _ w,fun X=>Ce xa xb ha hb X⟩
 by_cases e3:kd=3
 ·subst e3
  exact⟨156,(.agg #[.int .i64 xa,.int .i64 xb]),218,(.agg #[.int .i64 xa,.int .i64 xb]),xa,xb,rfl,fun w=>Xd _ _ w,fun _ _=>enters_of Tryz.func218 (by kernel_rfl) rfl _ _,fun w=>Xk _ w,fun X=>Ce xa xb ha hb X⟩
 by_cases e4:kd=4
 ·subst e4
  exact⟨158,(.agg #[.int .i64 xa]),217,(.agg #[.int .i64 xa]),0,0,rfl,fun w=>Xe _ w,fun _ _=>enters_of Tryz.func217 (by kernel_rfl) rfl _ _,fun w=>Xl _ w,fun X=>xX xa ha X⟩
 by_cases e5:kd=5
 ·subst e5
  exact⟨159,(.agg #[.int .i64 xa,.int .i64 xb]),218,(.agg #[.int .i64 xa,.int .i64 xb]),0,0,rfl,fun w=>Xf _ _ w,fun _ _=>enters_of Tryz.func218 (by kernel_rfl) rfl _ _,fun w=>Xm _ w,fun X=>Ce xa xb ha hb X⟩
 by_cases e6:kd=6
 ·subst e6
  exact⟨160,(.agg #[.int .i64 xa]),217,(.agg #[.int .i64 xa]),0,0,rfl,fun w=>Xg _ w,fun _ _=>enters_of Tryz.func217 (by kernel_rfl) rfl _ _,fun w=>Xn _ w,fun X=>xX xa ha X⟩
 by_cases e7:kd=7
 ·subst e7
  exact⟨161,(.agg #[.int .i64 xa]),217,(.agg #[.int .i64 xa]),0,0,rfl,fun w=>Xh _ w,fun _ _=>enters_of Tryz.func217 (by kernel_rfl) rfl _ _,fun w=>Xo _ w,fun X=>xX xa ha X⟩
 omega
theorem L6 {x:Ac} (hk:vG x=false):jB x=.nilIface:=by
 rw[vG,decide_eq_false_iff_not] at hk;rw[jB,if_neg (by omega),if_neg (by omega),if_neg (by omega),if_neg (by omega),if_neg (by omega),if_neg (by omega),if_neg (by omega)]
theorem Gy (x:Ac):1≤(qh x).length∧(qh x).length≤2:=by
 unfold qh
 split<;>simp
def DT (x:Ac):Bool:=vG x&&jL 5 (qh x)
theorem OY (x:Ac) (ha:eH x.a) (hb:eH x.b) (w:World) :
  Calls Tryz.prog 42 #[.agg #[.int .i64 x.kind,.int .i64 x.a,.int .i64 x.b,.string (sv x.txt)]] w fun e w'=>e=.returned (.tuple #[jB x,.bool (DT x)])∧Below w.heap.size w w':=by
 have hbw:=aF w (.cells #[.int .i64 x.kind,.int .i64 x.a,.int .i64 x.b,.string (sv x.txt)] 38);have hx:=Bx.new w 38 #[.int .i64 x.kind,.int .i64 x.a,.int .i64 x.b,.string (sv x.txt)];have hS:=af6 x (w.alloc (.cells #[.int .i64 x.kind,.int .i64 x.a,.int .i64 x.b,.string (sv x.txt)] 38));obtain⟨y0,y1,y2,y3⟩:=Bx.a4 hx;have HB:=aj hbw;clear hbw hx
 cases hk:vG x with
 | false =>
  rw[L6 hk] at hS;have HZ:Hid (DT x=false∧jB x=.nilIface):=⟨by rw[DT,hk];rfl,L6 hk⟩
  clear hk ha hb;go_enter Tryz.func42,Tryz.ntmps42
  go_wp2_with fail
  refine hS.mono ?_;rintro e w1 ⟨rfl,hb1⟩;have HB1:=aj (HB.out.trans (hb1.mono HB.out.size));clear hb1 hS y0 y1 y2 y3;go_wp2;refine bodyPost_ret (v:=.tuple #[.nilIface,.bool false]) (by simp[results,Tryz.results42,go_sem, *]) rfl ?_
  exact⟨by rw[HZ.out.1,HZ.out.2],HB1.out⟩
 | true =>
  obtain⟨T,v,f,r,z0,z1,eS,hM,hE,_,hC⟩:=LZ hk ha hb;rw[eS] at hS;have HZ:Hid (DT x=jL 5 (qh x)∧jB x=.iface T v):=⟨by rw[DT,hk];rfl,eS⟩
  have hl:=Gy x;clear hk ha hb eS;generalize qh x=xs at *;go_enter Tryz.func42,Tryz.ntmps42
  go_wp2_with fail
  refine hS.mono ?_;rintro e w1 ⟨rfl,hb1⟩;have HB1:=aj (HB.out.trans (hb1.mono HB.out.size));have Zn:=hC w1;clear hb1 hS y0 y1 y2 y3 hC;go_wp2_with fail
  refine Zn.mono ?_;rintro e w2 ⟨b,rfl,hv,hb2⟩;have HB2:=aj (HB1.out.trans (hb2.mono HB1.out.size));have hA:=Gp 5 b 0 xs.length xs w2 hv (by omega) (Nat.le_refl _) (by unfold maxLen;omega) ⟨by omega,by omega⟩
  clear hb2 Zn hv;go_wp2_with fail
  refine hA.mono ?_;rintro e w' ⟨rfl,hw'⟩;rw[hw'];clear hw' hA;go_wp2;refine bodyPost_ret (v:=.tuple #[.iface T v,.bool (jL 5 xs)]) (by simp[results,Tryz.results42,go_sem, *]) rfl ?_
  exact⟨by rw[HZ.out.1,HZ.out.2],HB2.out⟩
end
def oW (g:Gr) (x:Ac):Bool:=jL (g.mem.length:Int) (qh x)&&(decide (x.kind=3)||nM g x.a.toNat)
theorem Ci (x:Ac):el (qh x) 0=x.a:=by
 unfold qh
 split<;>rfl
theorem FM {n:Int} {xs:List Int} (h:jL n xs=true) (hl:1≤xs.length):0≤el xs 0∧el xs 0<n:=by
 rw[jL,List.all_eq_true] at h;have h0:=h 0 (List.mem_range.2 hl);rw[Bool.and_eq_true] at h0;have:=dP.1 h0.1;omega
theorem af9 (B:Nat) (g:Gr) (n:Nat) (x:Ac) (fp:Fp) (w:World) (h:dN w B 0 (dB g) fp) (ok:OkG g n) (hk:vG x=true) (ha:eH x.a) (hb:eH x.b) :
  Calls Tryz.prog 82 #[.pointer (some ⟨B,0,none⟩),jB x] w fun e w'=>e=.returned (.bool (oW g x))∧Below w.heap.size w w':=by
 have bH:=dH;obtain⟨bb,off,c,G0⟩:=Gw.start h (by rw[ok.ml];have:=ok.n5;omega)
 obtain⟨T,v,f,r,z0,z1,eS,hM,hE,hT,hC⟩:=LZ hk ha hb;rw[eS];have hl:=Gy x;have hC0:=hC w;have c0:=G0.mem
 have HF:Hid (jL (g.mem.length:Int) (qh x)=true→0≤x.a∧x.a<(g.mem.length:Int)):=fun hh=>by
  have:=FM hh hl.1
  rwa [Ci] at this
 have Zw:=aj (Ci x);have HZ:Hid (oW g x=(jL (g.mem.length:Int) (qh x)&&(decide (x.kind=3)||nM g x.a.toNat))):=rfl
 have HG:=aj G0;have cO:=aj ok;clear h ok hk ha hb eS hC G0;generalize qh x=xs at *;generalize decide (x.kind=3)=q at *;go_enter Tryz.func82,Tryz.ntmps82
 go_wp2_with fail
 refine hC0.mono ?_;rintro e w1 ⟨b,rfl,hv,hb1⟩;have HB1:=aj hb1;have HV:=aj hv;have c1:=(hb1.cell (World.block_lt_of_cell? _ _ c0)).trans c0;have hA:=Gp (g.mem.length:Int) b 0 xs.length xs w1 hv (by omega) (Nat.le_refl _) (by unfold maxLen;omega) (by have:=cO.out.ml;have:=cO.out.n5;exact⟨by omega,by omega⟩)
 clear hC0 hb1 hv c0;go_wp2_with fail
 refine hA.mono ?_;rintro e w' ⟨rfl,hw'⟩;rw[hw'];clear hw' hA c1
 cases hbl:jL (g.mem.length:Int) xs with
 | false =>
  have HR:Hid (oW g x=false):=by rw[Hid,HZ.out,hbl];rfl
  clear hbl;go_wp2;go_ret
  exact⟨aH (by rw[HR.out]),HB1.out⟩
 | true =>
  obtain⟨a0,a1⟩:=HF.out hbl;obtain⟨a,ea⟩:∃ a:Nat,x.a=(a:Int):=⟨x.a.toNat,by omega⟩
  have HR:Hid (oW g x=(q||nM g a)):=by rw[Hid,HZ.out,hbl,ea];simp
  have hal:a<g.up.length:=by rw[cO.out.ul,← cO.out.ml];omega
  have e0:=Zw.out;rw[ea] at e0;clear hbl a0 a1;have hb2:=aF w1 (.cells #[.int .i64 z0,.int .i64 z1] 156);have HB2:=aj (HB1.out.trans (hb2.mono HB1.out.size));have hv2:=HV.out.below hb2 (Nat.le_refl _);obtain⟨ub,uo,uc,u1,u2,_,_⟩:=(HG.out.step HB2.out).bit (k:=a) hal;simp only[Nat.zero_add] at u1
  have d0:(w1.alloc (.cells #[.int .i64 z0,.int .i64 z1] 156)).cell? ⟨b,0,none⟩=some (.int .i64 (a:Int)):=by
   rcases hv2.2.2 with h0|⟨b',o',ee,hc⟩
   ·omega
   ·cases ee
    have:=hc 0 (by omega)
    rw[e0] at this;exact this
  have k0:(0:Int)≤(a:Int):=by omega
  have k1:(a:Int)<(g.up.length:Int):=by omega
  have k2:(0:Int)<(xs.length:Int):=by omega
  clear hb2 hv2 e0;go_wp2_with fail
  generalize w1.alloc (.cells #[.int .i64 z0,.int .i64 z1] 156)=W2 at *;have TT:∀ {y v},W2.cell? y=some v→∀ q:Bk W2,q.w.cell? y=some v:=fun h q=>(q.h.cell (World.block_lt_of_cell? _ _ h)).trans h
  have t0:=TT u1;have t1:=TT u2;have t2:=TT d0;clear TT u1 u2 d0
  cases q with
  | true =>
   have HR2:Hid (oW g x=true):=by rw[Hid,HR.out];rfl
   refine eU ?_;repeat (go_big_quiet_step ((first|rfl)))
   refine wpQuiet_nil (dK fun wE aJ=>?_)
   have HB3:=aj (HB2.out.trans (aJ.mono HB2.out.size));clear aJ t0 t1 t2;go_wp2;go_ret
   exact⟨aH (by rw[HR2.out]),HB3.out⟩
  | false =>
   have HR2:Hid (oW g x=nM g a):=by rw[Hid,HR.out];rfl
   generalize nM g a=u at *;refine eU ?_;repeat (go_big_quiet_step ((first|rfl)))
   refine wpQuiet_nil (dK fun wE aJ=>?_)
   have HB3:=aj (HB2.out.trans (aJ.mono HB2.out.size));clear aJ t0 t1 t2;go_wp2;go_ret
   exact⟨aH (by rw[HR2.out]),HB3.out⟩
theorem Xp (x:Int) (w:World):Calls Tryz.prog 195 #[.int .i64 x] w fun e w'=>e=.returned (.bool false)∧w'=w:=by
 go_enter Tryz.func195,Tryz.ntmps195
 go_wp2;go_ret
 exact⟨by simp,rfl⟩
theorem wW (x:Int) (w:World):Calls Tryz.prog 189 #[.int .i64 x] w fun e w'=>e=.returned (.bool false)∧w'=w:=by
 go_enter Tryz.func189,Tryz.ntmps189
 go_wp2;go_ret
 exact⟨by simp,rfl⟩
theorem wX (x y:Int) (w:World):Calls Tryz.prog 188 #[.int .i64 x,.int .i64 y] w fun e w'=>e=.returned (.bool (decide (x<y)))∧w'=w:=by
 go_enter Tryz.func188,Tryz.ntmps188
 go_wp2_with (go_at_call 195;refine (Xp _ _).mono ?_;rintro e w' ⟨rfl,rfl⟩)
 go_ret
 exact⟨rfl,rfl⟩
theorem Uk:∀ {zs:List Int} {k:Nat} {x:Int},k≤zs.length→(∀ j,j<k→el zs j<x)→(∀ j,k≤j→j<zs.length→x<el zs j)→zs.take k++x::zs.drop k=bT zs x
 | [],0,x,_,_,_=>rfl
 | [],k+1,x,h,_,_=>by simp at h
 | z::zs,0,x,_,_,h2=>by
  have:=h2 0 (Nat.le_refl _) (by simp)
  simp only[el,List.getD_cons_zero] at this;rw[bT,if_neg (by omega),if_neg (by omega)]
  rfl
 | z::zs,k+1,x,h,h1,h2=>by
  have e:=h1 0 (by omega)
  simp only[el,List.getD_cons_zero] at e;rw[bT,if_pos e,← Uk (zs:=zs) (k:=k) (x:=x) (by simpa using h) (fun j hj=>by have:=h1 (j+1) (by omega);simpa[el] using this) (fun j hj hl=>by have:=h2 (j+1) (by omega) (by simpa using hl);simpa[el] using this)]
  rfl
theorem aq6 (a:Option Addr) (cap:Nat) (zs:List Int) (x:Int) (w:World) (hv:Vec w a zs.length zs) (hm:zs.length≤1000) (hs:zs.Pairwise (·<·)) :
  Calls Tryz.prog 182 #[.slice a zs.length cap,.int .i64 x] w fun e w'=>∃ k:Nat,k≤zs.length∧e=.returned (.tuple #[.int .i64 (k:Int),.bool (decide (x∈zs))])∧w'=w∧(x∉zs→zs.take k++x::zs.drop k=bT zs x):=by
 have S:Hid (∀ a b,a<b→b<zs.length→el zs a<el zs b):=fun a b hab hb=>by
  have:=List.pairwise_iff_getElem.1 hs a b (by omega) hb hab
  simpa[el,hb,show a<zs.length by omega] using this
 have hc:=hv.2.2;clear hs hv
 have HP:Hid (∀ k,k≤zs.length→(∀ t,t<k→el zs t<x)→(∀ t,k≤t→t<zs.length→x≤el zs t)→(x∉zs→zs.take k++x::zs.drop k=bT zs x)∧(k<zs.length→el zs k=x→x∈zs)∧((k<zs.length→el zs k≠x)→x∉zs)):=fun k hk h1 h2=>by
  refine⟨fun hx=>Uk hk h1 (fun j hj hl=>?_),fun hk' e=>?_,fun hne hx=>?_⟩
  ·have:=h2 j hj hl
   have hne:el zs j≠x:=fun e=>hx (e ▸ iF hl)
   omega
  ·exact e ▸ iF hk'
  ·obtain⟨j,hj,e⟩:=List.mem_iff_getElem.1 hx
   have ej:el zs j=x:=by simpa[el,hj] using e
   rcases Nat.lt_or_ge j k with h|h
   ·have:=h1 j h;omega
   ·rcases Nat.eq_or_lt_of_le h with h|h
    ·subst h;exact hne hj ej
    ·have a1:=S.out k j h hj
     have a2:=h2 k (Nat.le_refl _) (by omega)
     omega
 have HT:Hid ((x∈zs→decide (x∈zs)=true)∧(x∉zs→decide (x∈zs)=false)):=⟨decide_eq_true,decide_eq_false⟩;generalize decide (x∈zs)=D at *;go_enter Tryz.func182,Tryz.ntmps182
 go_wp2
 go_loopg [7,8] zs.length (fun g s7 s8 wr=>∃ lo hi:Nat,s7=.int .i64 (lo:Int)∧s8=.int .i64 (hi:Int)∧lo≤hi∧hi≤zs.length∧hi-lo≤g∧wr=w∧(∀ t,t<lo→el zs t<x)∧(∀ t,hi≤t→t<zs.length→x≤el zs t))
 case atStart=>exact⟨0,zs.length,rfl,rfl,Nat.zero_le _,Nat.le_refl _,by omega,rfl,fun t ht=>absurd ht (Nat.not_lt_zero _),fun t h1 h2=>by omega⟩
 case round =>
  obtain⟨lo,hi,rfl,rfl,hlh,hin,hg,rfl,h1,h2⟩:=hrel;have I:Hid ((∀ t,t<lo→el zs t<x)∧(∀ t,hi≤t→t<zs.length→x≤el zs t)):=⟨h1,h2⟩;clear h1 h2;by_cases hlt:lo<hi
  ·rcases hc with h0|⟨b,off,rfl,hc⟩
   ·omega
   have cm:=hc ((lo+hi)/2) (by omega)
   clear hc;generalize hy:el zs ((lo+hi)/2)=y at cm;have Y:=aj hy;clear hy;by_cases hyx:y<x
   ·go_wp2_with (first|(go_at_call 188;refine (wX _ _ _).mono ?_;rintro e w' ⟨rfl,rfl⟩)|(go_at_call 189;refine (wW _ _).mono ?_;rintro e w' ⟨rfl,rfl⟩))
    go_roundg (hi-((lo+hi)/2+1))
    case measure=>omega
    case rel =>
     refine⟨(lo+hi)/2+1,hi,by rw[show ((lo:Int)+(hi:Int))/2+1=(((lo+hi)/2+1:Nat):Int) by omega],rfl,by omega,hin,Nat.le_refl _,rfl,fun t ht=>?_,I.out.2⟩
     rcases Nat.lt_or_ge t ((lo+hi)/2) with h|h
     ·have:=S.out t ((lo+hi)/2) h (by omega)
      rw[Y.out] at this;omega
     ·rw[show t=(lo+hi)/2 by omega,Y.out];exact hyx
   ·go_wp2_with (first|(go_at_call 188;refine (wX _ _ _).mono ?_;rintro e w' ⟨rfl,rfl⟩)|(go_at_call 189;refine (wW _ _).mono ?_;rintro e w' ⟨rfl,rfl⟩))
    go_roundg ((lo+hi)/2-lo)
    case measure=>omega
    case rel =>
     refine⟨lo,(lo+hi)/2,rfl,by rw[show ((lo:Int)+(hi:Int))/2=(((lo+hi)/2:Nat):Int) by omega],by omega,by omega,Nat.le_refl _,rfl,I.out.1,fun t ht htn=>?_⟩
     rcases Nat.eq_or_lt_of_le ht with h|h
     ·rw[← h,Y.out];omega
     ·have:=S.out ((lo+hi)/2) t h htn
      rw[Y.out] at this;omega
  ·have:hi=lo:=by omega
   subst this;obtain⟨p1,p2,p3⟩:=HP.out hi hin I.out.1 I.out.2;have E1:=aj p1;by_cases hn:hi<zs.length
   ·rcases hc with h0|⟨b,off,rfl,hc⟩
    ·omega
    have cl:=hc hi hn;by_cases hyx:el zs hi=x
    ·have E2:Hid (D=true):=HT.out.1 (p2 hn hyx)
     rw[hyx] at cl;clear hc hyx p1 p2 p3;go_wp2_with (first|(go_at_call 188;refine (wX _ _ _).mono ?_;rintro e w' ⟨rfl,rfl⟩)|(go_at_call 189;refine (wW _ _).mono ?_;rintro e w' ⟨rfl,rfl⟩))
     go_ret2
     exact⟨hi,hin,by rw[E2.out];first|rfl|simp,rfl,E1.out⟩
    ·have E2:Hid (D=false):=HT.out.2 (p3 (fun _=>hyx))
     have aD2:((el zs hi)==x)=false:=by simpa using hyx
     clear hc p1 p2 p3;generalize el zs hi=y at *;go_wp2_with (first|(go_at_call 188;refine (wX _ _ _).mono ?_;rintro e w' ⟨rfl,rfl⟩)|(go_at_call 189;refine (wW _ _).mono ?_;rintro e w' ⟨rfl,rfl⟩))
     go_ret2
     exact⟨hi,hin,by rw[E2.out];first|rfl|simp[hyx],rfl,E1.out⟩
   ·have E2:Hid (D=false):=HT.out.2 (p3 (fun h=>absurd h hn))
    clear hc p1 p2 p3;go_wp2_with (first|(go_at_call 188;refine (wX _ _ _).mono ?_;rintro e w' ⟨rfl,rfl⟩)|(go_at_call 189;refine (wW _ _).mono ?_;rintro e w' ⟨rfl,rfl⟩))
    go_ret2
    exact⟨hi,hin,by rw[E2.out];first|rfl|simp,rfl,E1.out⟩
theorem Ul {P:Program} (w:World) {o:Oper} {a:Act} {K:Act→World→Prop} {Q:Exit→Act→World→Prop} (d s:Operand) (t t':TypeId)
  (ho:o.op=.call { callee:=.builtin .copy,args:=#[d,s],argTypes:=#[t,t'] }) (v u:Value) (hd:a.eval d=v) (hs:a.eval s=u) {v':Value} {w':World}
  (hr:(Builtin.copy_ #[t,t'] o.type #[v,u]).run P w=.ok v' w') (h:K (a.put o.dst v') w'):o.wp P a w K Q:=by
 unfold Oper.wp execOp;simp only[ho,resolve,invoke,builtin,Sem.run_bind,Sem.run_pure,Result.andThen_ok,List.map_toArray,List.map_cons,List.map_nil,hd,hs,hr]
 exact h
theorem Ae {P:Program} (w:World) {ops:Array Oper} {rest:List Oper} {o:Oper} {a:Act} {Q:Exit→Act→World→Prop} (hgd:o.guard=none) (d s:Operand) (t t':TypeId)
  (ho:o.op=.call { callee:=.builtin .copy,args:=#[d,s],argTypes:=#[t,t'] }) (v u:Value) (hd:a.eval d=v) (hs:a.eval s=u) {v':Value} {w':World}
  (hr:(Builtin.copy_ #[t,t'] o.type #[v,u]).run P w=.ok v' w') (h:wpList P ops Q rest (a.put o.dst v') w'):wpList P ops Q (o::rest) a w :=
 wpList_plain hgd fun _ hK=>Ul w d s t t' ho v u hd hs hr (hK _ _ h)
theorem DU {P:Program} {ops:Array Oper} {o:Oper} {a:Act} {w:World} {K:Act→World→Prop} {Q:Exit→Act→World→Prop} {E:Prop}
  (hg:o.guard=none) (d x:Operand) (dT sT:TypeId) (hop:o.op=Op.call { callee:=Callee.builtin Builtin.copy,args:=#[d,x],argTypes:=#[dT,sT] })
  (v u:Value) (hd:a.eval d=v) (hx:a.eval x=u) {v':Value} {w':World} (hr:(Builtin.copy_ #[dT,sT] o.type #[v,u]).run P w=.ok v' w') (hK:K (a.put o.dst v') w') :
  if Region.wanted o (yielded ops a.tmps)=true then Oper.wp P o a w K Q else E:=by
 have hw:Region.wanted o (yielded ops a.tmps)=true:=by simp[Region.wanted,hg]
 rw[if_pos hw];unfold Oper.wp;simp[execOp,hop,resolve,invoke,builtin,hd,hx,hr,Result.andThen]
 exact hK
theorem pI (b:Nat) (vs:List Value) (o:Nat) (w:World) (h:∀ j,j<vs.length→(w.cell? ⟨b,o+j,none⟩).isSome=true) (k:Nat) (hk:(w.cell? ⟨b,k,none⟩).isSome=true):((w.setCells b o vs).cell? ⟨b,k,none⟩).isSome=true:=by
 by_cases hin:o≤k∧k<o+vs.length
 ·have:=World.cell?_setCells_in b vs o w h (k-o) (by omega)
  rw[show o+(k-o)=k by omega] at this
  rw[this];rfl
 ·rw[World.cell?_setCells_out b vs o w ⟨b,k,none⟩ (fun _ _=>by show k<o∨o+vs.length≤k;omega)]
  exact hk
theorem OZ {α:Type} (cs:List α) (k:Nat) (x:α) (hk:k≤cs.length) (j:Nat):(cs.take k++x::cs.drop k)[j]?=if j<k then cs[j]? else if j=k then some x else cs[j-1]?:=by
 have hl:(cs.take k).length=k:=by rw[List.length_take];omega
 by_cases h1:j<k
 ·rw[if_pos h1,List.getElem?_append_left (by omega),List.getElem?_take,if_pos h1]
 ·rw[if_neg h1,List.getElem?_append_right (by omega),hl]
  by_cases h2:j=k
  ·rw[if_pos h2,h2,Nat.sub_self];rfl
  ·rw[if_neg h2,show j-k=(j-k-1)+1 by omega,List.getElem?_cons_succ,List.getElem?_drop]
   congr 1
   omega
theorem Xq (W:World) (N o k c:Nat) (cs:List Value) (x:Value) (hk:k≤cs.length) (h0:∀ j,j<k→W.cell? ⟨N,o+j,none⟩=cs[j]?) (hs:∀ j,j<c→(W.cell? ⟨N,o+j,none⟩).isSome=true) (hc:cs.length+1≤c) :
  (∀ j,j<cs.length+1→((W.setCells N (o+(k+1)) (cs.drop k)).setCells N (o+k) [x]).cell? ⟨N,o+j,none⟩=(cs.take k++x::cs.drop k)[j]?)∧∀ j,j<c→(((W.setCells N (o+(k+1)) (cs.drop k)).setCells N (o+k) [x]).cell? ⟨N,o+j,none⟩).isSome=true:=by
 have hd:(cs.drop k).length=cs.length-k:=List.length_drop;have s1:∀ j,j<(cs.drop k).length→(W.cell? ⟨N,o+(k+1)+j,none⟩).isSome=true:=fun j hj=>by rw[Nat.add_assoc];exact hs _ (by omega)
 have s2:∀ j,j<c→((W.setCells N (o+(k+1)) (cs.drop k)).cell? ⟨N,o+j,none⟩).isSome=true:=fun j hj=>pI N _ _ W s1 _ (hs j hj)
 have s3:∀ j,j<[x].length→((W.setCells N (o+(k+1)) (cs.drop k)).cell? ⟨N,o+k+j,none⟩).isSome=true:=fun j hj=>by rw[Nat.add_assoc];exact s2 _ (by simp at hj;omega)
 refine⟨fun j hj=>?_,fun j hj=>pI N _ _ _ s3 _ (s2 j hj)⟩
 rw[OZ cs k x hk j];by_cases h2:j=k
 ·subst h2
  rw[if_neg (by omega),if_pos rfl]
  have:=World.cell?_setCells_in N [x] (o+j) _ s3 0 (by simp)
  exact this
 ·rw[World.cell?_setCells_out N [x] (o+k) _ ⟨N,o+j,none⟩ (fun _ _=>by show o+j<o+k∨o+k+[x].length≤o+j;simp;omega),if_neg h2]
  by_cases h1:j<k
  ·rw[if_pos h1,World.cell?_setCells_out N _ _ W ⟨N,o+j,none⟩ (fun _ _=>by show o+j<o+(k+1)∨_;omega)]
   exact h0 j h1
  ·rw[if_neg h1]
   have:=World.cell?_setCells_in N (cs.drop k) (o+(k+1)) W s1 (j-(k+1)) (by omega)
   rw[show o+(k+1)+(j-(k+1))=o+j by omega] at this
   rw[this,List.getElem_drop,List.getElem?_eq_getElem (by omega)]
   congr 2
   omega
theorem aq7 (W:World) (N o k c:Nat) (cs:List Value) (x:Value) (hk:k≤cs.length) (h0:∀ j,j<k→W.cell? ⟨N,o+j,none⟩=cs[j]?) (hs:∀ j,j<c→(W.cell? ⟨N,o+j,none⟩).isSome=true) (hc:cs.length+1≤c) :
  (∀ j,j<cs.length+1→((W.setCells N (o+k) [x]).setCells N (o+(k+1)) (cs.drop k)).cell? ⟨N,o+j,none⟩=(cs.take k++x::cs.drop k)[j]?)∧∀ j,j<c→(((W.setCells N (o+k) [x]).setCells N (o+(k+1)) (cs.drop k)).cell? ⟨N,o+j,none⟩).isSome=true:=by
 have hd:(cs.drop k).length=cs.length-k:=List.length_drop;have s3:∀ j,j<[x].length→(W.cell? ⟨N,o+k+j,none⟩).isSome=true:=fun j hj=>by rw[Nat.add_assoc];exact hs _ (by simp at hj;omega)
 have s2:∀ j,j<c→((W.setCells N (o+k) [x]).cell? ⟨N,o+j,none⟩).isSome=true:=fun j hj=>pI N _ _ W s3 _ (hs j hj)
 have s1:∀ j,j<(cs.drop k).length→((W.setCells N (o+k) [x]).cell? ⟨N,o+(k+1)+j,none⟩).isSome=true:=fun j hj=>by rw[Nat.add_assoc];exact s2 _ (by omega)
 refine⟨fun j hj=>?_,fun j hj=>pI N _ _ _ s1 _ (s2 j hj)⟩
 rw[OZ cs k x hk j];by_cases h1:j<k+1
 ·rw[World.cell?_setCells_out N _ _ (W.setCells N (o+k) [x]) ⟨N,o+j,none⟩ (fun _ _=>by show o+j<o+(k+1)∨_;omega)]
  by_cases h2:j=k
  ·subst h2
   rw[if_neg (by omega),if_pos rfl]
   exact World.cell?_setCells_in N [x] (o+j) W s3 0 (by simp)
  ·rw[if_pos (by omega),World.cell?_setCells_out N [x] (o+k) W ⟨N,o+j,none⟩ (fun _ _=>by show o+j<o+k∨_;omega)]
   exact h0 j (by omega)
 ·rw[if_neg (by omega),if_neg (by omega)]
  have:=World.cell?_setCells_in N (cs.drop k) (o+(k+1)) (W.setCells N (o+k) [x]) s1 (j-(k+1)) (by omega)
  rw[show o+(k+1)+(j-(k+1))=o+j by omega] at this
  rw[this,List.getElem_drop,List.getElem?_eq_getElem (by omega)]
  congr 2
  omega
theorem Xr (b off n c i vb:Nat) (cs:List Value) (x:Int) (w:World) (hi:i<n) (hroom:n+1≤c) (hc63:c≤9223372036854775807) (hvb:vb≠b) (hcl:cs.length=n)
  (hcs:∀ j v,cs[j]?=some v→w.cell? ⟨b,off+j,none⟩=some v) (hsp:∀ j,j<n+1→(w.cell? ⟨b,off+j,none⟩).isSome=true) (hfz:∀ j,j<n+1→w.frozen? ⟨b,off+j,none⟩=false)
  (hvs:w.cell? ⟨vb,0,none⟩=some (.int .i64 x)) (h1c:∀ v∈cs,v.oneCell'=true) (tA tB:TypeId) (kA kB:Nat) (hsa:w.shape? vb=some (tA,kA)) (hsb:w.shape? b=some (tB,kB)) (hkB:kB≠0) (hfa:w.frozen? ⟨vb,0,none⟩=false) (hfe:w.frozen? ⟨vb,kA,none⟩=false) :
  Calls Tryz.prog 183 #[.slice (some ⟨b,off,none⟩) n c,.int .i64 (i:Int),.slice (some ⟨vb,0,none⟩) 1 1] w fun e w' =>
   e=.returned (.slice (some ⟨b,off,none⟩) (n+1) c)∧w'=(w.drew.setCells b (off+(i+1)) (cs.drop i)).setCells b (off+i) [.int .i64 x]:=by
 have mixed:=dH;have hz2:¬ ((i:Int)=(n:Int)):=by omega
 obtain⟨i0,hi0,hz0,hz1,hzb⟩:=gX Tryz.info2n;have hsz:(Tryz.prog.info? 2).map (·.size)=some 1:=by rw[hi0];simp[hz1]
 have hov:∀ lb cb,(callFunc 190 #[.slice (some ⟨vb,0,none⟩) 1 1,.slice (some ⟨b,off+(i+1),none⟩) lb cb]).run Tryz.prog w=.ok (.value (.bool false)) w:=fun lb cb=>by
  rw [run_callFunc_extern Tryz.func190 (by kernel_rfl) (by kernel_rfl) (by kernel_rfl) (e := Extern.SlicesOverlaps.overlaps #[41,41] #[4]) (by kernel_rfl),
   Lib.run_overlaps_apart w 41 4 2 Tryz.underlying41 1 Tryz.sizeOf2 ⟨vb,0,none⟩ ⟨b,off+(i+1),none⟩ 1 1 lb cb hvb tA tB kA kB hsa hsb hkB hfa hfe]
  rfl
 have hdl:(cs.drop i).length=n-i:=by rw[List.length_drop,hcl]
 have hw1:IntKind.i64.wrap ((i:Int)+1)=(i:Int)+1:=by rw[IntKind.wrap_i64];omega
 have hb1:(0:Int)≤(i:Int)+1:=by omega
 have hin:i≤n:=by omega
 have htn:((i:Int)+1).toNat=i+1:=by omega
 have hb2:¬ (c=i+1):=by omega
 have hb3:(i:Int)≤(n:Int)+1:=by omega
 have hb4:¬ (c=i):=by omega
 have hcp1:∀ dl sl ty dc sc,dl=n-i→sl=n+1-i→(Builtin.copy_ #[41,41] ty #[.slice (some ⟨b,off+(i+1),none⟩) dl dc,.slice (some ⟨b,off+i,none⟩) sl sc]).run Tryz.prog w.drew=.ok (goInt (cs.drop i).length) (w.drew.setCells b (off+(i+1)) (cs.drop i)):=fun dl sl ty dc sc e1 e2 =>
  run_copy_cells w.drew _ _ ty 2 b (off+(i+1)) dl dc ⟨b,off+i,none⟩ sl sc (cs.drop i) Tryz.underlying41 hsz (by rw[hdl];simp only[Nat.min_def];split<;>omega)
   (fun j v hj=>by rw[Addr.add_lit,Nat.add_assoc];exact hcs (i+j) v (by rwa [List.getElem?_drop] at hj))
   (fun j hj=>by rw[Nat.add_assoc];exact hsp _ (by omega)) (fun j hj=>by rw[Nat.add_assoc];exact hfz _ (by omega)) (fun v hv=>h1c v (List.mem_of_mem_drop hv))
 obtain⟨W1,hW1⟩:∃ W1,W1=w.drew.setCells b (off+(i+1)) (cs.drop i):=⟨_,rfl⟩
 have hsp1:∀ k,k<n+1→(W1.cell? ⟨b,off+k,none⟩).isSome=true:=fun k hk=>by
  rw[hW1];exact pI b _ _ _ (fun j hj=>by rw[Nat.add_assoc];exact hsp _ (by omega)) _ (hsp k hk)
 have hcp2:∀ (W:World),(∀ x,W.cell? x=W1.cell? x)→(∀ x,W.frozen? x=W1.frozen? x)→∀ dl ty dc,dl=n+1-i→(Builtin.copy_ #[41,41] ty #[.slice (some ⟨b,off+i,none⟩) dl dc,.slice (some ⟨vb,0,none⟩) 1 1]).run Tryz.prog W=.ok (goInt [Value.int .i64 x].length) (W.setCells b (off+i) [.int .i64 x]):=fun W hWc hWf dl ty dc e1 =>
  run_copy_cells W _ _ ty 2 b (off+i) dl dc ⟨vb,0,none⟩ 1 1 [.int .i64 x] Tryz.underlying41 hsz (by simp only[Nat.min_def,List.length_cons,List.length_nil];split<;>omega)
   (fun j v hj => by
    rw[Addr.add_lit,hWc,hW1,World.cell?_setCells_out b _ _ _ _ (fun h _=>absurd h hvb)]
    match j,hj with
    | 0,hj=>simp at hj;rw[← hj];exact hvs)
   (fun j hj=>by rw[hWc,Nat.add_assoc];exact hsp1 _ (by simp at hj;omega)) (fun j hj=>by rw[hWf,hW1,World.frozen?_setCells,Nat.add_assoc];exact hfz _ (by simp at hj;omega)) (by intro v hv;simp at hv;rw[hv];rfl)
 rw[← hW1] at hcp1;clear hcs hsp hfz hvs h1c hsp1 hsa hsb hkB hfa hfe hi0 hz0 hz1 hzb hsz;go_enter Tryz.func183,Tryz.ntmps183
 go_wp2_with (simp only[hov])
 go_region_law_o (refine DU rfl _ _ 41 41 rfl _ _ (by simp[Act.eval,Act.put]) (by simp[Act.eval,Act.put]) (hcp1 _ _ _ _ _ (by omega) (by omega)) ?_)
 go_wp2_with (at_builtin;refine Ae _ rfl _ _ 41 41 rfl _ _ rfl rfl (hcp2 _ (fun _=>rfl) (fun _=>rfl) _ _ _ (by omega)) ?_)
 go_ret
 first|exact⟨rfl,rfl⟩|exact⟨rfl,by rw[hW1]⟩
theorem Xt (b off n c i vb:Nat) (cs:List Value) (x:Int) (w:World) (hi:i<n) (hnc:n≤c) (hroom:c<n+1) (hbig:(n+1)*8≤140737488355328) (hcl:cs.length=n)
  (hcs:∀ j v,cs[j]?=some v→w.cell? ⟨b,off+j,none⟩=some v) (hvs:w.cell? ⟨vb,0,none⟩=some (.int .i64 x)) (h1c:∀ v∈cs,v.oneCell'=true) :
  Calls Tryz.prog 183 #[.slice (some ⟨b,off,none⟩) n c,.int .i64 (i:Int),.slice (some ⟨vb,0,none⟩) 1 1] w fun e w' =>
   e=.returned (.slice (some ⟨w.heap.size,0,none⟩) (n+1) (grownCap w (n+1) c 2)) ∧
   w'=(((w.alloc (.cells ((cs.take i).toArray++Builtin.zeroCells (Value.int .i64 0).cells (n+1-i)++Builtin.zeroCells (Value.int .i64 0).cells (grownCap w (n+1) c 2-(n+1))) 2)).drew.setCells w.heap.size i [.int .i64 x]).drew).setCells w.heap.size (i+1) (cs.drop i):=by
 have mixed:=dH;obtain⟨i0,hi0,hz0,hzs,hzb⟩:=gX Tryz.info2n;have hz2:¬ ((i:Int)=(n:Int)):=by omega
 have hz3:(c:Int)<(n:Int)+1:=by omega
 have hsz:(Tryz.prog.info? 2).map (·.size)=some 1:=by rw[hi0];simp[hzs]
 have hbw:b<w.heap.size:=World.block_lt_of_cell? _ _ (hcs 0 _ (List.getElem?_eq_getElem (by omega)))
 have hvw:=World.block_lt_of_cell? _ _ hvs;have hkk:(n:Int)+1-(i:Int)=((n+1-i:Nat):Int):=by omega
 have hik:i+(n+1-i)=n+1:=by omega
 have hold:(Builtin.firstCells i0.size i (.slice (some ⟨b,off,none⟩) i c)).run Tryz.prog w.drew=.ok (cs.take i).toArray w.drew:=by
  rw[hzs]
  exact run_firstCells_some w.drew 1 i ⟨b,off,none⟩ i c (cs.take i) (by rw [List.length_take];omega) (fun j v hj => by
   rw[Addr.add_lit];rw[List.getElem?_take] at hj
   split at hj
   ·exact hcs j v hj
   ·cases hj)
 have hrz:∀ ty,(Builtin.append_ #[41,3] ty #[.slice (some ⟨b,off,none⟩) i c,.int .i64 ((n:Int)+1-(i:Int))]).run Tryz.prog w =
   .ok (.slice (some ⟨w.heap.size,0,none⟩) (n+1) (grownCap w (n+1) c 2)) (w.drew.alloc (.cells ((cs.take i).toArray++Builtin.zeroCells (Value.int .i64 0).cells (n+1-i)++Builtin.zeroCells (Value.int .i64 0).cells (grownCap w (n+1) c 2-(n+1))) 2)):=fun ty=>by
  have h:=Lib.run_append_grow_zeros w 41 3 ty 2 i0 _ .i64 .i64 Tryz.underlying41 Tryz.underlying3 hi0 hz0 (some ⟨b,off,none⟩) i c (cs.take i) hold (n+1-i) (by omega) (by omega) (by omega) (by omega) (by rw[hzb];omega) (by rw[hzb,hik];exact growslice_fits hroom hbig)
  rw[hik] at h;rw[hkk];exact h
 obtain⟨G,hG⟩:∃ G,G=grownCap w (n+1) c 2:=⟨_,rfl⟩;obtain⟨ROW,hROW⟩:∃ ROW:Array Value,ROW=(cs.take i).toArray++Builtin.zeroCells (Value.int .i64 0).cells (n+1-i)++Builtin.zeroCells (Value.int .i64 0).cells (G-(n+1)):=⟨_,rfl⟩;rw[← hG] at hrz ⊢;rw[← hROW] at hrz ⊢
 have hRl:n+1≤ROW.size:=by
  rw[hROW];simp[Builtin.zeroCells,Value.cells]
  omega
 obtain⟨W1,hW1⟩:∃ W1,W1=w.drew.alloc (.cells ROW 2):=⟨_,rfl⟩;rw[← hW1] at hrz
 have hN:∀ j,j<n+1→(W1.cell? ⟨w.heap.size,j,none⟩).isSome=true:=fun j hj=>by
  rw[hW1,World.cell?_alloc_at (w:=w.drew) ROW _ w.heap.size j rfl,Array.getElem?_eq_getElem (by omega)];rfl
 have hNf:∀ j,W1.frozen? ⟨w.heap.size,j,none⟩=false:=fun j=>by rw[hW1];exact World.frozen?_alloc_at (w:=w.drew) ROW _ w.heap.size j rfl
 have hOb:∀ j v,w.cell? ⟨b,j,none⟩=some v→W1.cell? ⟨b,j,none⟩=some v:=fun j v h=>by rw[hW1,World.cell?_alloc_past (w:=w.drew) _ b j hbw];exact h
 have hOv:∀ j v,w.cell? ⟨vb,j,none⟩=some v→W1.cell? ⟨vb,j,none⟩=some v:=fun j v h=>by rw[hW1,World.cell?_alloc_past (w:=w.drew) _ vb j hvw];exact h
 have hcpA:∀ (W:World),(∀ x,W.cell? x=W1.cell? x)→(∀ x,W.frozen? x=W1.frozen? x)→∀ dl ty dc,dl=n+1-i→(Builtin.copy_ #[41,41] ty #[.slice (some ⟨w.heap.size,i,none⟩) dl dc,.slice (some ⟨vb,0,none⟩) 1 1]).run Tryz.prog W=.ok (goInt [Value.int .i64 x].length) (W.setCells w.heap.size i [.int .i64 x]):=fun W hWc hWf dl ty dc e1 =>
  run_copy_cells W _ _ ty 2 w.heap.size i dl dc ⟨vb,0,none⟩ 1 1 [.int .i64 x] Tryz.underlying41 hsz (by simp only[Nat.min_def,List.length_cons,List.length_nil];split<;>omega)
   (fun j v hj => by
    rw[Addr.add_lit,hWc]
    match j,hj with
    | 0,hj=>simp at hj;rw[← hj];exact hOv _ _ hvs)
   (fun j hj=>by rw[hWc];exact hN _ (by simp at hj;omega)) (fun j hj=>by rw[hWf];exact hNf _) (by intro v hv;simp at hv;rw[hv];rfl)
 have hGn:n+1≤G:=by rw[hG];exact grownCap_ge w _ _ _
 have hG63:G≤9223372036854775807:=by
  have:=grownCap_le_maxLen w (n+1) c 2 (by unfold maxLen;omega)
  rw[← hG] at this;unfold maxLen at this;omega
 have hGi:¬ (G=i):=by omega
 have hGim:¬ (G=i+1):=by omega
 have hci:¬ (c=i):=by omega
 have hbN:b≠w.heap.size:=by omega
 have hdl:(cs.drop i).length=n-i:=by rw[List.length_drop,hcl]
 have hcpB:∀ (W:World),(∀ y,W.cell? y=(W1.setCells w.heap.size i [.int .i64 x]).cell? y)→(∀ y,W.frozen? y=(W1.setCells w.heap.size i [.int .i64 x]).frozen? y)→∀ dl sl ty dc sc,dl=n-i→sl=n-i→(Builtin.copy_ #[41,41] ty #[.slice (some ⟨w.heap.size,i+1,none⟩) dl dc,.slice (some ⟨b,off+i,none⟩) sl sc]).run Tryz.prog W=.ok (goInt (cs.drop i).length) (W.setCells w.heap.size (i+1) (cs.drop i)):=fun W hWc hWf dl sl ty dc sc e1 e2 =>
  run_copy_cells W _ _ ty 2 w.heap.size (i+1) dl dc ⟨b,off+i,none⟩ sl sc (cs.drop i) Tryz.underlying41 hsz (by rw[hdl];simp only[Nat.min_def];split<;>omega)
   (fun j v hj => by
    rw[Addr.add_lit,hWc,World.cell?_setCells_out _ _ _ _ _ (fun h _=>absurd h hbN),Nat.add_assoc]
    exact hOb _ v (hcs (i+j) v (by rwa [List.getElem?_drop] at hj)))
   (fun j hj=>by rw[hWc];exact pI _ _ _ _ (fun t ht=>hN _ (by simp at ht;omega)) _ (hN _ (by omega)))
   (fun j hj=>by rw[hWf,World.frozen?_setCells];exact hNf _) (fun v hv=>h1c v (List.mem_of_mem_drop hv))
 subst hW1;have hE1:∀ x,((w.alloc (.cells ROW 2)).drew).cell? x=(w.drew.alloc (.cells ROW 2)).cell? x:=fun x=>rfl
 have hE2:∀ x,((w.alloc (.cells ROW 2)).drew).frozen? x=(w.drew.alloc (.cells ROW 2)).frozen? x:=fun x=>rfl
 have hF1:∀ y,(((w.alloc (.cells ROW 2)).drew.setCells w.heap.size i [.int .i64 x]).drew).cell? y=((w.drew.alloc (.cells ROW 2)).setCells w.heap.size i [.int .i64 x]).cell? y:=fun y=>rfl
 have hF2:∀ y,(((w.alloc (.cells ROW 2)).drew.setCells w.heap.size i [.int .i64 x]).drew).frozen? y=((w.drew.alloc (.cells ROW 2)).setCells w.heap.size i [.int .i64 x]).frozen? y:=fun y=>rfl
 have hw1:IntKind.i64.wrap ((i:Int)+1)=(i:Int)+1:=by rw[IntKind.wrap_i64];omega
 have hb1:(0:Int)≤(i:Int)+1:=by omega
 have hin:i≤n:=by omega
 have htn:((i:Int)+1).toNat=i+1:=by omega
 have hb3:(i:Int)≤(n:Int):=by omega
 clear hkk hik hold hROW hG hRl hcs hvs h1c hN hNf hOb hOv hsz hi0 hz0 hzs hzb;go_enter Tryz.func183,Tryz.ntmps183
 go_wp2_with (first
  | (at_builtin;refine Lib.wpList_append_run _ rfl _ _ _ _ rfl _ _ rfl rfl _ _ (hrz _) ?_)
  | (at_builtin;refine Ae _ rfl _ _ 41 41 rfl _ _ rfl rfl (hcpA _ hE1 hE2 _ _ _ (by omega)) ?_))
 go_region_law_o (refine DU rfl _ _ 41 41 rfl (.slice (some ⟨w.heap.size,i+1,none⟩) (n-i) (G-(i+1))) (.slice (some ⟨b,off+i,none⟩) (n-i) (c-i)) (by simp[Act.eval,Act.put]) (by simp[Act.eval,Act.put]) (hcpB _ hF1 hF2 (n-i) (n-i) 3 (G-(i+1)) (c-i) rfl rfl) ?_)
 go_wp2;go_ret
 exact⟨rfl,rfl⟩
theorem Xu {w:World} {b j:Nat} {v:Value} (h:w.cell? ⟨b,j,none⟩=some v):∃ t k,w.shape? b=some (t,k)∧k≠0:=by
 unfold World.cell? at h;unfold World.shape?
 split at h
 ·rename_i c t fz hb
  refine⟨t,c.size,by rw[hb],fun e=>?_⟩
  simp only[Option.isSome_none,Bool.false_eq_true,if_false] at h;rw[Array.getElem?_eq_none (by omega)] at h
  cases h
 ·cases h
theorem O1 (T:List Int) (k:Nat) (x:Int):(T.take k++x::T.drop k).map (Value.int .i64)=(T.map (Value.int .i64)).take k++.int .i64 x::(T.map (Value.int .i64)).drop k:=by simp[List.map_take,List.map_drop]
theorem ag0 (T:List Int) (k:Nat) (x:Int) (hk:k≤T.length):(T.take k++x::T.drop k).length=T.length+1:=by simp;omega
theorem zK (b:Nat):∀ (vs:List Value) (o:Nat) (w:World),(w.setCells b o vs).drew=w.drew.setCells b o vs
 | [],_,_=>rfl
 | v::r,o,w=>by rw[World.setCells,World.setCells,zK b r];rfl
def aA5 (w:World) (f:Fp) (n:Nat) (Tx:List Int) (e:Ending) (w':World):Prop:=∃ a' c' f',e=.returned (.slice a' (n+1) c')∧aI.ow w' (bQ Tx) (.slice a' (n+1) c') f'∧(∀ b,f' b→f b∨w.heap.size≤b)∧aO f w w'
theorem ins_any (a:Option Addr) (c k:Nat) (T:List Int) (x:Int) (f:Fp) (w:World) (h:aI.ow w (bQ T) (.slice a T.length c) f) (hk:k≤T.length) (hm:T.length≤100) :
  Calls Tryz.prog 183 #[.slice a T.length c,.int .i64 (k:Int),.slice (some ⟨w.heap.size,0,none⟩) 1 1] (w.alloc (.cells #[.int .i64 x] 2)) fun e w'=>aA5 w f T.length (T.take k++x::T.drop k) e w':=by
 have h':=h;obtain⟨a1,c1,G,e,ho,hf⟩:=fB.1 h'
 cases e
 have hba:=aF w (.cells #[.int .i64 x] 2);have hxv:=Bx.new w 2 #[.int .i64 x];by_cases hkl:k=T.length
 ·obtain⟨a2,c2,e2,hA⟩:=ny x h (Nat.le_trans hm (by decide))
  cases e2
  have hle:=ho.le;have hT:T.take k++x::T.drop k=T++[x]:=by rw[hkl,List.take_length,List.drop_length]
  rw[hT];subst hkl;have hpl:=ho.plain;have hcm:c≤9223372036854775807:=by have:=hle.2;unfold maxLen at this;omega
  clear h h' ho hf hxv hba hT;generalize T++[x]=Tx at *;generalize T.length=n at *;generalize hWv:w.alloc (.cells #[.int .i64 x] 2)=Wv at *
  cases a with
  | none =>
   go_enter Tryz.func183,Tryz.ntmps183
   go_wp2_with (at_builtin;refine aZ (by rfl) _ _ _ _ (by rfl) _ _ (by rfl) (by rfl) hA ⟨rfl,rfl,rfl,rfl⟩ ?_;rintro v1 w1 ⟨a1,e1,f1,rfl,q1,q2,q3⟩;have HQ:Hid (aI.ow w1 (bQ Tx) (.slice a1 (n+1) e1) f1∧(∀ b,f1 b→f b∨w.heap.size≤b)∧aO f w w1):=⟨q1,q2,q3⟩;clear q1 q2 q3 hA)
   go_ret
   exact⟨a1,e1,f1,rfl,HQ.out⟩
  | some ad =>
   go_enter Tryz.func183,Tryz.ntmps183
   go_wp2_with (at_builtin;refine aZ (by rfl) _ _ _ _ (by rfl) _ _ (by rfl) (by rfl) hA ⟨rfl,rfl,rfl,rfl⟩ ?_;rintro v1 w1 ⟨a1,e1,f1,rfl,q1,q2,q3⟩;have HQ:Hid (aI.ow w1 (bQ Tx) (.slice a1 (n+1) e1) f1∧(∀ b,f1 b→f b∨w.heap.size≤b)∧aO f w w1):=⟨q1,q2,q3⟩;clear q1 q2 q3 hA)
   all_goals (go_ret;exact⟨a1,e1,f1,rfl,HQ.out⟩)
 have aq8:k<T.length:=by omega
 rcases ho with ⟨h0,_⟩|⟨g,off,rfl,ho,rfl⟩
 ·omega
 have hcl:(T.map (Value.int .i64)).length=T.length:=List.length_map _;have hgl:=ho.blk;have e1:(w.alloc (.cells #[.int .i64 x] 2)).heap[g]?=w.heap[g]?:=hba.block g hgl;have ho1:fA (w.alloc (.cells #[.int .i64 x] 2)) 1 g off T.length c (T.map (Value.int .i64)):=ho.of_block e1 (Nat.lt_of_lt_of_le hgl hba.size)
 have hcs:∀ j v,(T.map (Value.int .i64))[j]?=some v→(w.alloc (.cells #[.int .i64 x] 2)).cell? ⟨g,off+j,none⟩=some v:=fun j v hj=>by
  have hjl:j<T.length:=by
   rcases Nat.lt_or_ge j T.length with h|h
   ·exact h
   ·rw[List.getElem?_eq_none (by omega)] at hj;cases hj
  rw[ho1.cell j (by omega)];exact hj
 have h1c:∀ v∈T.map (Value.int .i64),v.oneCell'=true:=fun v hv=>by
  obtain⟨y,_,rfl⟩:=List.mem_map.1 hv
  rfl
 have hvs:=hxv.at 0 (v:=.int .i64 x) rfl;have hle:=ho.le;have hmx:=ho.max;have hne:w.heap.size≠g:=by omega
 have hfg:∀ b,f b↔b=g:=fun b=>(hf b).trans ⟨fun h=>by cases h;rfl,fun h=>by rw[h]⟩
 have DI:=ag0 T k x hk;by_cases hroom:T.length+1≤c
 ·obtain⟨tB,kB,hsb,hkB⟩:=Xu (hcs 0 _ (List.getElem?_eq_getElem (by omega)))
  have hsa:(w.alloc (.cells #[.int .i64 x] 2)).shape? w.heap.size=some (2,1):=by unfold World.shape?;rw[show (w.alloc (.cells #[.int .i64 x] 2)).heap[w.heap.size]?=_ from hxv];rfl
  refine (Xr g off T.length c k w.heap.size (T.map (Value.int .i64)) x _ aq8 hroom (by unfold maxLen at hmx;omega) hne hcl hcs (fun j hj=>ho1.some j (by omega)) (fun j hj=>ho1.free j (by omega)) hvs h1c 2 tB 1 kB hsa hsb hkB (hxv.f 0) (hxv.f 1)).mono ?_
  rintro e w' ⟨rfl,rfl⟩;obtain⟨k1,k2⟩:=Xq (w.alloc (.cells #[.int .i64 x] 2)).drew g off k c (T.map (Value.int .i64)) (.int .i64 x) (by omega) (fun j hj=>ho1.cell j (by omega)) (fun j hj=>ho1.some j (by omega)) (by omega)
  have hW:aO (fun b=>b=g) (w.alloc (.cells #[.int .i64 x] 2)).drew (((w.alloc (.cells #[.int .i64 x] 2)).drew.setCells g (off+(k+1)) ((T.map (Value.int .i64)).drop k)).setCells g (off+k) [.int .i64 x]):=(aO.setCells g _ _ _).trans (aO.setCells g _ _ _) (fun _ _ h=>h)
  have hbd:=hba.trans ((Same.drewN _ 1).below.mono hba.size);refine⟨some ⟨g,off,none⟩,c,f,rfl, ?_,fun b hb=>.inl hb,((aO.of_below hbd).trans hW (fun b _ hb=>(hfg b).2 hb))⟩
  rw[← DI];refine fB.2 ⟨some ⟨g,off,none⟩,c,some g,rfl,.inr ⟨g,off,rfl, ?_,rfl⟩,hf⟩;rw[DI];refine⟨by rw[List.length_map,DI];omega,hroom,hmx,Nat.lt_of_lt_of_le (Nat.lt_of_lt_of_le hgl hbd.size) hW.size,fun j hj=>?_,fun j hj=>k2 j (by omega),fun j hj=>?_⟩
  ·rw[O1];exact k1 j (by omega)
  ·rw[kN,kN];exact ho1.free j (by omega)
 ·refine (Xt g off T.length c k w.heap.size (T.map (Value.int .i64)) x _ aq8 hle (by omega) (by omega) hcl hcs hvs h1c).mono ?_
  rintro e w' ⟨rfl,rfl⟩;have hGn:T.length+1≤grownCap (w.alloc (.cells #[.int .i64 x] 2)) (T.length+1) c 2:=grownCap_ge _ _ _ _;have hGm:grownCap (w.alloc (.cells #[.int .i64 x] 2)) (T.length+1) c 2≤maxLen:=grownCap_le_maxLen _ _ _ _ (by unfold maxLen;omega)
  generalize grownCap (w.alloc (.cells #[.int .i64 x] 2)) (T.length+1) c 2=GG at *;generalize hWv:w.alloc (.cells #[.int .i64 x] 2)=Wv at *;generalize hROW:((T.map (Value.int .i64)).take k).toArray++Builtin.zeroCells (Value.int .i64 0).cells (T.length+1-k)++Builtin.zeroCells (Value.int .i64 0).cells (GG-(T.length+1))=ROW at *
  have hRs:ROW.size=GG:=by
   rw[← hROW];simp[Builtin.zeroCells,Value.cells]
   omega
  have hR0:∀ j,j<k→ROW[j]?=(T.map (Value.int .i64))[j]?:=fun j hj=>by
   rw[← hROW,Array.getElem?_append_left (by simp[Builtin.zeroCells,Value.cells];omega),Array.getElem?_append_left (by simp;omega)]
   simp[List.getElem?_take,hj]
  have Zx:Bx (Wv.alloc (.cells ROW 2)).drew Wv.heap.size 2 ROW:=Bx.new Wv 2 ROW;obtain⟨k1,k2⟩:=aq7 (Wv.alloc (.cells ROW 2)).drew Wv.heap.size 0 k GG (T.map (Value.int .i64)) (.int .i64 x) (by omega) (fun j hj=>by rw[Nat.zero_add,Zx.cell j];exact hR0 j hj) (fun j hj=>by rw[Nat.zero_add,Zx.cell j,Array.getElem?_eq_getElem (by omega)];rfl) (by omega)
  simp only[Nat.zero_add] at k1 k2;have hW:aO (fun b=>b=Wv.heap.size) (Wv.alloc (.cells ROW 2)).drew ((((Wv.alloc (.cells ROW 2)).drew.setCells Wv.heap.size k [.int .i64 x]).drew).setCells Wv.heap.size (k+1) ((T.map (Value.int .i64)).drop k)):=((aO.setCells _ _ _ _).trans (aO.of_below (Same.drewN _ 1).below) (fun _ _ h=>h)).trans (aO.setCells _ _ _ _) (fun _ _ h=>h)
  have hb2:Below Wv.heap.size Wv (Wv.alloc (.cells ROW 2)).drew:=(aF Wv _).trans ((Same.drewN _ 1).below.mono (aF Wv _).size);have hbd:Below w.heap.size w (Wv.alloc (.cells ROW 2)).drew:=hba.trans (hb2.mono hba.size);have Zy:=hW.below hbd hbd.size (fun b hb=>by rw[hb];exact hba.size)
  refine⟨some ⟨Wv.heap.size,0,none⟩,GG,fun b=>b=Wv.heap.size,rfl, ?_,fun b hb=>.inr (by rw[hb];exact hba.size),aO.of_below Zy⟩
  rw[← DI];refine fB.2 ⟨some ⟨Wv.heap.size,0,none⟩,GG,some Wv.heap.size,rfl,.inr ⟨Wv.heap.size,0,rfl, ?_,rfl⟩,fun b=>⟨fun h=>by rw[h],fun h=>by cases h;rfl⟩⟩
  rw[DI];refine⟨by rw[List.length_map,DI];omega,hGn,hGm,Nat.lt_of_lt_of_le Zx.lt hW.size,fun j hj=>?_,fun j hj=>?_,fun j hj=>?_⟩
  ·rw[O1,Nat.zero_add,← zK];exact k1 j (by omega)
  ·rw[Nat.zero_add,← zK];exact k2 j (by omega)
  ·rw[kN]
   show (((Wv.alloc (.cells ROW 2)).drew.setCells Wv.heap.size k [.int .i64 x]).frozen? _)=false
   rw[kN];exact Zx.f _
theorem Iy:∀ {l:List Int} {x:Int},l.Pairwise (·<·)→x∈l→bT l x=l
 | y::l,x,h,hx=>by
  obtain⟨h1,h2⟩:=List.pairwise_cons.1 h;rw[bT];rcases List.mem_cons.1 hx with e|hx
  ·rw[if_neg (by omega),if_pos e.symm]
  ·rw[if_pos (h1 x hx),Iy h2 hx]
def jr (i:Nat) (r:Rw) (S:List Int) (k:Nat):Rw:={ r with wed:=true,ak:=gY i r.ak (S.take k) }
theorem ag1 {i nn:Nat} {r:Rw} {S:List Int} (hr:dL r nn) (hS:∀ x∈S,0≤x∧x<(nn:Int)) (k:Nat):(jr i r S k).ak.Pairwise (·<·)∧(∀ x∈(jr i r S k).ak,0≤x∧x<(nn:Int))∧(jr i r S k).ak.length≤5:=by
 have h1:(jr i r S k).ak.Pairwise (·<·):=zC (iK.1 hr.kF)
 have h2:∀ x∈(jr i r S k).ak,0≤x∧x<(nn:Int):=fun x hx=>by
  rcases rH.1 hx with h|⟨h,_⟩
  ·exact hr.ak x h
  ·exact hS x (List.mem_of_mem_take h)
 have h5:=hr.n5;exact⟨h1,h2,Nat.le_trans (xE (k:=nn) h1 h2) h5.2⟩
theorem Um {X Y:World} {a:Option Addr} {S:List Int} (h:Vec X a S.length S) (hb:∀ b o,a=some ⟨b,o,none⟩→S≠[]→Y.heap[b]?=X.heap[b]?):Vec Y a S.length S:=by
 obtain⟨h1,h2,h3⟩:=h;refine⟨h1,h2, ?_⟩;rcases h3 with h3|⟨b,o,e,h3⟩
 ·exact .inl h3
 ·by_cases hn:S=[]
  ·exact .inl (by rw[hn];rfl)
  ·exact .inr ⟨b,o,e,fun j hj=>(World.cell?_of_block (hb b o e hn)).trans (h3 j hj)⟩
theorem O4 (B i n g off c nn:Nat) (r:Rw) (f:Fp) (S:List Int) (a:Option Addr) (sc:Nat) (X:World) (h:dN X g (off+i*8) (eY r) f) (hBg:B≠g) (hfB:¬ f B) (c0:X.cell? ⟨B,0,none⟩=some (.int .i64 (i:Int))) (c1:X.cell? ⟨B,1,none⟩=some (.slice (some ⟨g,off,none⟩) n c)) (hi:i<n)
  (hv:Vec X a S.length S) (hvb:∀ b o,a=some ⟨b,o,none⟩→S≠[]→¬ f b∧b≠g) (hr:dL r nn) (hS:∀ x∈S,0≤x∧x<(nn:Int)) (hSl:S.length≤100) :
  Calls Tryz.prog 169 #[.pointer (some ⟨B,0,none⟩),.slice a S.length sc] X fun e w'=>e=.returned (.tuple #[])∧bC X w' g (off+i*8) (eY (jr i r S S.length)) f:=by
 have lF:=jQ B i n g off c X c0 c1 hi;have HP:=aj h;have HV:=aj hv;have Za:=aj hvb;have su:=aj c0;have HW:Hid (∀ k,(jr i r S k).ak.Pairwise (·<·)∧(∀ x∈(jr i r S k).ak,0≤x∧x<(nn:Int))∧(jr i r S k).ak.length≤5):=fun k=>ag1 hr hS k
 have H5:=aj hr.n5;have uP:=aj hS;have hBlt:=World.block_lt_of_cell? _ _ c0;clear h hv hvb c0 c1 hr hS;go_enter Tryz.func169,Tryz.ntmps169
 go_wp2_with fail
 refine lF.mono ?_;rintro e XA ⟨rfl,mW⟩;obtain⟨u4,f4,hu4,hz4,⟨rfl,hf4⟩,hs4,hn4,Zz⟩:=(HP.out.below mW).at (j:=4) rfl;obtain⟨_,_,B4,_⟩:=Zz XA (.v (.bool true)) (.bool true) (fun _=>False) (aO.refl _ _) ⟨rfl,fun _ h=>h⟩ (fun b hb=>hb.elim)
 have HB4:=aj (B4.first mW HP.out.lt HP.out.flt)
 clear Zz B4 hs4 hn4 hf4 lF;go_upto_region 3 with fail
 generalize XA.setCell ⟨g,off+i*8+4,none⟩ (.bool true)=W4 at *;clear hu4 hz4 mW
 go_loopw [16] (fun v wr=>∃ k:Nat,k≤S.length∧v=.int .i64 (k:Int)∧bC X wr g (off+i*8) (eY (jr i r S k)) f) (fun v _=>S.length-(intOf v).toNat)
 case atStart=>exact⟨0,Nat.zero_le _,rfl,HB4.out⟩
 case round =>
  obtain⟨k,hk,rfl,hB⟩:=hrel;have HB:=aj hB;clear HB4;by_cases hlt:k<S.length
  ·have hne:S≠[]:=fun e=>by rw[e] at hlt;simp at hlt
   have hvw := Um HV.out (fun b o e hn => hB.wrt.block b (by
    rcases HV.out.2.2 with h|⟨b',o',e',h⟩
    ·omega
    ·rw[e'] at e;cases e;exact World.block_lt_of_cell? _ _ (h k hlt)) (fun kk=>by have:=Za.out b o e hn;rcases kk with kk|kk;exact this.1 kk;exact this.2 kk))
   rcases hvw.2.2 with h0|⟨sb,so,rfl,hsc⟩
   ·omega
   have hck:=hsc k hlt;have b0:wr.cell? ⟨B,0,none⟩=some (.int .i64 (i:Int)):=(World.cell?_of_block (hB.wrt.block B hBlt (fun kk=>by rcases kk with kk|kk;exact hfB kk;exact hBg kk))).trans su.out
   obtain⟨dD,hp1,hf1,hgo⟩:=hB.next;obtain⟨u,f3,hu,hz,how,hsub,hn3,hset⟩:=hp1.at (j:=3) rfl;have how':=how;obtain⟨sa,sac,_,rfl,_⟩:=fB.1 how';obtain⟨w1,w2,w3⟩:=HW.out k;have h5:=H5.out;have hfit:Fits (jr i r S k).ak:=fun x hx=>by have:=w2 x hx;omega
   have hBs:=aq6 sa sac (jr i r S k).ak (el S k) wr (jo how' hfit) (by omega) w1
   have hT:=Dp (id:=i) (s:=r.ak) hlt;have k0:(0:Int)≤(k:Int):=by omega
   have k1:(k:Int)<(S.length:Int):=by omega
   have yH:Hid (el S k=(i:Int)→jr i r S (k+1)=jr i r S k):=fun e=>by rw[jr,hT,if_pos e];rfl
   have zT:Hid (el S k≠(i:Int)→el S k∈(jr i r S k).ak→jr i r S (k+1)=jr i r S k):=fun e hm=>by
    rw[jr,hT,if_neg e,show bT (gY i r.ak (S.take k)) (el S k)=gY i r.ak (S.take k) from Iy w1 hm]
    rfl
   have HN3:Hid (el S k≠(i:Int)→jr i r S (k+1)={ jr i r S k with ak:=bT (jr i r S k).ak (el S k) }):=fun e=>by rw[jr,hT,if_neg e];rfl
   have hx0:0≤el S k∧el S k<5:=by have:=uP.out _ (iF hlt);omega
   have Gz:Hid (∀ (w1:World) (c':aI) (u':Value) (f':Fp),aO f3 wr w1→aI.ow w1 c' u' f'→(∀ b,f' b→f3 b∨wr.heap.size≤b)→w1.cell? ⟨g,off+i*8+3,none⟩=some (.slice sa (jr i r S k).ak.length sac)∧w1.frozen? ⟨g,off+i*8+3,none⟩=false∧bC X (w1.setCell ⟨g,off+i*8+3,none⟩ u') g (off+i*8) ((eY (jr i r S k)).set 3 c') f):=fun w1 c' u' f' q1 q2 q3=>by
    obtain⟨p1,p2,p3,_⟩:=hset w1 c' u' f' q1 q2 q3;exact⟨p1,p2,hgo _ _ (by simp) p3⟩
   have kL:=aj how';clear hvw hsc hB hp1 hf1 hgo hset how how' hsub hn3 hfit hT w1 w2;generalize hwd:jr i r S k=rk at *;generalize el S k=x at *;by_cases hin:x∈rk.ak
   ·have HE:Hid (jr i r S (k+1)=rk):=by
     by_cases e:x=(i:Int)
     ·exact yH.out e
     ·exact zT.out e hin
    rw[decide_eq_true hin] at hBs;clear hin;go_wp2_with (go_at_call 182;refine hBs.mono ?_;rintro e w' ⟨kk,hkk,rfl,hw',_⟩;rw[hw'];clear hw')
    go_roundw
    case rel=>exact⟨k+1,by omega,by go_num,by rw[HE.out];exact HB.out⟩
    case measure=>simp[intOf];omega
   rw[decide_eq_false hin] at hBs;by_cases e:x=(i:Int)
   ·have HE:Hid (jr i r S (k+1)=rk):=yH.out e
    have e':(x != (i:Int))=false:=by simp[e]
    clear hin e;go_wp2_with (go_at_call 182;refine hBs.mono ?_;rintro e w' ⟨kk,hkk,rfl,hw',_⟩;rw[hw'];clear hw')
    go_roundw
    case rel=>exact⟨k+1,by omega,by go_num,by rw[HE.out];exact HB.out⟩
    case measure=>simp[intOf];omega
   have HE:=aj (HN3.out e);have e':(x != (i:Int))=true:=by simp[e]
   have Iz:=aj hin;have HM:Hid (rk.ak.length≤100):=by rw[Hid];omega
   clear hin e;go_upto_region 7 with (go_at_call 182;refine hBs.mono ?_;rintro e w' ⟨kk,hkk,rfl,hw',hput⟩;rw[hw'];clear hw')
   have hpt:=hput Iz.out;have hIn:=ins_any sa sac kk rk.ak x f3 wr kL.out hkk HM.out;rw[hpt] at hIn;clear hput hpt hBs;go_wp2_with (go_at_call 183;refine hIn.mono ?_;rintro e w9 ⟨a9,c9,f9,rfl,o9,p9,q9⟩;obtain⟨z1,z2,Zy⟩:=Gz.out w9 (bQ (bT rk.ak x)) (.slice a9 (rk.ak.length+1) c9) f9 q9 o9 p9;have BN:Hid (bC X (w9.setCell ⟨g,off+i*8+3,none⟩ (.slice a9 (rk.ak.length+1) c9)) g (off+i*8) ((eY rk).set 3 (bQ (bT rk.ak x))) f):=Zy;clear o9 p9 q9 Zy hIn hu hz)
   go_roundw
   case rel=>exact⟨k+1,by omega,by go_num,by rw[HE.out];exact BN.out⟩
   case measure=>simp[intOf];omega
  ·have k1:¬ ((k:Int)<(S.length:Int)):=by omega
   obtain rfl:k=S.length:=by omega
   clear hB;go_wp2
   first|go_end0|go_ret
   exact⟨rfl,HB.out⟩
theorem Iw.own {w X:World} {B:Nat} {m:Mb} {fp:Fp} {g off c:Nat} (h:Iw w X B m fp g off c) {i:Nat} (hi:i<m.rows.length):∃ f,dN X g (off+i*8) (eY (ah m.rows i)) f∧B≠g∧¬ f B∧(∀ b,f b→b<X.heap.size)∧g<X.heap.size∧∀ (X1 Y:World) (r:Rw),Below X.heap.size X X1→bC X1 Y g (off+i*8) (eY r) f→Iw w Y B { m with rows:=m.rows.set i r } fp g off c:=by
 obtain⟨dD,hp,hf1,hgo⟩:=h.bU.next;obtain⟨g',off',c',f,h1,hgB,hfg,hfs,hpl,hput⟩:=hp.el (F:=eY) gI (by omega) (j:=1) (L:=m.rows) rfl (dW hi)
 have e:=Option.some.inj (h1.symm.trans h.rws)
 cases e
 have hfB:¬ f B:=fun hb=>hp.nB (hfs B hb)
 refine⟨f,hpl,fun e=>hgB e.symm,hfB,hpl.flt,hpl.lt,fun X1 Y r hb hB=>?_⟩
 have hB1:=hB.first hb hpl.lt hpl.flt
 refine⟨hgo Y _ rfl (hput Y r hB1), ?_⟩;rw[World.cell?_of_block (hB1.wrt.block B hp.lt (fun kk=>by rcases kk with kk|kk;exact hfB kk;exact hgB kk.symm)),h.rws]
 simp
theorem Un {m:Mb} {i n:Nat} (ok:dO m i n) (who:Int) (hd:m.done=false):(jM i n (ah m.rows i).ak who=false→(aW m who).2=false)∧(jM i n (ah m.rows i).ak who=true→(ah m.rows i).ver=1000000→(aW m who).2=false)∧(jM i n (ah m.rows i).ak who=true→(ah m.rows i).ver≠1000000→aW m who=({ m with rows:=m.rows.set i { jr i (ah m.rows i) [who] 1 with ver:=(ah m.rows i).ver+1 } },true)):=by
 have e:m.i=i:=by unfold Mb.i;rw[ok.hid];rfl
 have key:jM i n (ah m.rows i).ak who=true↔¬ (inB who 0 (m.n-1)=false∨who=m.id∨who∈(ah m.rows i).ak):=by
  unfold jM;rw[ok.hn,ok.hid];simp only[Bool.and_eq_true,decide_eq_true_eq,not_or,Bool.not_eq_false]
  exact⟨fun h=>⟨h.2.1,h.1,h.2.2⟩,fun h=>⟨h.2.1,h.1,h.2.2⟩⟩
 unfold aW;rw[Mb.own,e];refine⟨fun h=>?_,fun h hv=>?_,fun h hv=>?_⟩
 ·rw[if_pos]
  have:¬ ¬ (inB who 0 (m.n-1)=false∨who=m.id∨who∈(ah m.rows i).ak):=fun hn=>by rw[key.2 hn] at h;cases h
  rcases Classical.not_not.1 this with h|h|h
  ·exact .inl h
  ·exact .inr (.inl h)
  ·exact .inr (.inr (.inl h))
 ·rw[if_pos (.inr (.inr (.inr (.inr hv))))]
 ·have hk:=key.1 h
  simp only[not_or] at hk;rw[if_neg (by rintro (h|h|h|h|h);exact hk.1 h;exact hk.2.1 h;exact hk.2.2 h;rw[hd] at h;cases h;exact hv h)]
  have hw:gY i (ah m.rows i).ak ([who].take 1)=bT (ah m.rows i).ak who:=by
   show (if who=(i:Int) then _ else bT (ah m.rows i).ak who)=_
   rw[if_neg (by rw[← ok.hid];exact hk.2.1)]
  rw[jr,hw,Mb.put,e]
theorem ag2 (B:Nat) (m:Mb) (i n:Nat) (who:Int) (fp:Fp) (w:World) (h:dN w B 0 (iJ m) fp) (ok:dO m i n) (hd:m.done=false) :
  Calls Tryz.prog 161 #[.pointer (some ⟨B,0,none⟩),.int .i64 who] w fun e w'=>((aW m who).2=true∧e=.returned (.tuple #[])∧bC w w' B 0 (iJ (aW m who).1) fp)∨((aW m who).2=false∧Gu e∧∃ m1,bC w w' B 0 (iJ m1) fp):=by
 have hil:i<m.rows.length:=by rw[ok.len];exact ok.lt
 have fG:=ok.n5;obtain⟨g,off,c,M0⟩:=Iw.start h (by omega)
 obtain⟨c0,c3⟩:=M0.id';have c1:=M0.rws;rw[ok.hid] at c0;obtain⟨Ak,⟨⟨d0,d1,d2,d3⟩,d4,d5,d6,d7⟩,hrs⟩:=M0.row ok.fit hil;have hO:=Gq B i n g off c Ak.sa Ak.sc (ah m.rows i).ak who w c0 (by rw[← ok.len];exact c1) ok.lt fG.2 d3 hrs.ak hrs.ms
 have ig:=aj M0;obtain⟨p1,p2,p3⟩:=Un ok who hd;have HD:Hid ((jM i n (ah m.rows i).ak who=false→(aW m who).2=false)∧(jM i n (ah m.rows i).ak who=true→(ah m.rows i).ver=1000000→(aW m who).2=false)∧(jM i n (ah m.rows i).ak who=true→(ah m.rows i).ver≠1000000→aW m who=({ m with rows:=m.rows.set i { jr i (ah m.rows i) [who] 1 with ver:=(ah m.rows i).ver+1 } },true))):=⟨p1,p2,p3⟩
 clear M0 h c0 c1 c3 d0 d1 d2 d3 d4 d5 d6 d7 hrs p1 p2 p3
 cases e1:jM i n (ah m.rows i).ak who with
 | false =>
  have HZ:=aj (HD.out.1 e1);rw[e1] at hO;go_enter Tryz.func161,Tryz.ntmps161
  go_wp2_with (first|(go_at_call 177;refine hO.mono ?_;rintro e wA ⟨rfl,mW⟩;have HG:Hid (∃ m1,bC w wA B 0 (iJ m1) fp):=⟨m,(ig.out.step mW).bU⟩;clear mW)|(go_at_call 86;refine (kT _).mono ?_;rintro e w' ⟨⟨T,v,rfl⟩,hw'⟩;rw[hw'];clear hw'))
  exact⟨rfl,.inr ⟨HZ.out,⟨_,_,rfl⟩,HG.out⟩⟩
 | true =>
 have IB:=aj e1
 have hwho:0≤who∧who<(n:Int):=by
  unfold jM at e1;simp only[Bool.and_eq_true] at e1;have:=dP.1 e1.2.1;omega
 rw[e1] at hO;clear e1;go_enter Tryz.func161,Tryz.ntmps161
 go_upto_region 1 with (first|(go_at_call 177;refine hO.mono ?_;rintro e wA ⟨rfl,mW⟩;have bF:Hid (Iw w wA B m fp g off c):=ig.out.step mW;clear mW)|(go_at_call 86;refine (qx _).mono ?_;rintro e w' ⟨rfl,hw'⟩;rw[hw'];clear hw'))
 obtain⟨f,hpl,hBg,hfB,hfl,hgl,hput⟩:=bF.out.own hil;have hba:=aF wA (.cells #[.int .i64 who] 2);have hxv:=Bx.new wA 2 #[.int .i64 who];obtain⟨c0,_⟩:=(bF.out.step hba).id';have c1:=(bF.out.step hba).rws;rw[ok.hid] at c0
 have hV : Vec (wA.alloc (.cells #[.int .i64 who] 2)) (some ⟨wA.heap.size,0,none⟩) [who].length [who] := ⟨rfl,fun x hx => by rw [List.mem_singleton.1 hx];omega,.inr ⟨wA.heap.size,0,rfl,fun j hj => by
  match j,hj with
  | 0,_=>exact hxv.at 0 rfl⟩⟩
 have hWd:=O4 B i m.rows.length g off c n (ah m.rows i) f [who] (some ⟨wA.heap.size,0,none⟩) 1 _ (hpl.below hba) hBg hfB c0 c1 hil hV (fun b o e _=>by cases e;exact⟨fun k=>by have:=hfl _ k;omega,by omega⟩) (ok.ok i ok.lt) (fun x hx=>by rw[List.mem_singleton.1 hx];exact hwho) (by simp)
 have L9:Calls Tryz.prog 169 #[.pointer (some ⟨B,0,none⟩),.slice (some ⟨wA.heap.size,0,none⟩) 1 1] (wA.alloc (.cells #[.int .i64 who] 2)) fun e w'=>e=.returned (.tuple #[])∧Iw w w' B { m with rows:=m.rows.set i (jr i (ah m.rows i) [who] 1) } fp g off c:=hWd.mono (fun e w' h=>⟨h.1,hput _ w' _ hba h.2⟩)
 clear hWd hpl hput hba hxv c0 c1 hV hfl;go_upto_region 2 with (go_at_call 169;refine L9.mono ?_;rintro e wB ⟨rfl,hM2⟩;have eF:Hid (Iw w wB B { m with rows:=m.rows.set i (jr i (ah m.rows i) [who] 1) } fp g off c):=hM2;clear hM2)
 clear L9;have nC:i<(m.rows.set i (jr i (ah m.rows i) [who] 1)).length:=by rw[List.length_set];exact hil
 obtain⟨c0,_⟩:=eF.out.id';simp only at c0
 rw[ok.hid] at c0;have c1:=eF.out.rws;simp only[List.length_set] at c1;have lF:=jQ B i m.rows.length g off c wB c0 c1 hil;have hs2:ah (m.rows.set i (jr i (ah m.rows i) [who] 1)) i=jr i (ah m.rows i) [who] 1:=dM hil;have hvb:=(ok.ok i ok.lt).ver
 have HFin:Hid (∀ wC,Below wB.heap.size wB wC→wC.cell? ⟨g,off+i*8,none⟩=some (.int .i64 (ah m.rows i).ver)∧wC.frozen? ⟨g,off+i*8,none⟩=false∧(∃ m1,bC w wC B 0 (iJ m1) fp)∧bC w (wC.setCell ⟨g,off+i*8,none⟩ (.int .i64 ((ah m.rows i).ver+1))) B 0 (iJ { m with rows:=m.rows.set i { jr i (ah m.rows i) [who] 1 with ver:=(ah m.rows i).ver+1 } }) fp):=fun wC hb=>by
  have M3:=eF.out.step hb;obtain⟨v1,v2,jY⟩:=M3.put nC (j:=0) (x:=.int .i64 (ah m.rows i).ver) (y:=.int .i64 ((ah m.rows i).ver+1)) (r':={ jr i (ah m.rows i) [who] 1 with ver:=(ah m.rows i).ver+1 }) (by simp only[hs2];rfl) (by simp only[hs2];rfl)
  simp only[Nat.add_zero,List.set_set] at v1 v2 jY;exact⟨v1,v2,⟨_,M3.bU⟩,jY.bU⟩
 clear c0 c1 hs2 nC;by_cases gU:(ah m.rows i).ver=1000000
 ·have HZ:Hid ((aW m who).2=false):=HD.out.2.1 IB.out gU
  go_wp2_with (first|(go_at_call 140;refine lF.mono ?_;rintro e wC ⟨rfl,hbC⟩;obtain⟨v1,v2,hG,_⟩:=HFin.out wC hbC;have HG:Hid (∃ m1,bC w wC B 0 (iJ m1) fp):=hG;have yY:=OX g (off+i*8) (ah m.rows i).ver wC v1 (by omega);clear hbC hG v1 v2)|(go_at_call 148;refine yY.mono ?_;rintro e w' ⟨⟨T,v,rfl⟩,hw'⟩;rw[hw'];clear hw'))
  exact⟨rfl,.inr ⟨HZ.out,⟨_,_,rfl⟩,HG.out⟩⟩
 ·have HZ:Hid (aW m who=({ m with rows:=m.rows.set i { jr i (ah m.rows i) [who] 1 with ver:=(ah m.rows i).ver+1 } },true)):=HD.out.2.2 IB.out gU
  go_wp2_with (first|(go_at_call 140;refine lF.mono ?_;rintro e wC ⟨rfl,hbC⟩;obtain⟨v1,v2,_,hG⟩:=HFin.out wC hbC;have HG:Hid (bC w (wC.setCell ⟨g,off+i*8,none⟩ (.int .i64 ((ah m.rows i).ver+1))) B 0 (iJ { m with rows:=m.rows.set i { jr i (ah m.rows i) [who] 1 with ver:=(ah m.rows i).ver+1 } }) fp):=hG;have yY:=Dc g (off+i*8) (ah m.rows i).ver wC v1 v2 (by omega) (by omega);clear hbC hG v1 v2)|(go_at_call 148;refine yY.mono ?_;rintro e w' ⟨rfl,hw'⟩;rw[hw'];clear hw'))
  first|go_end0|go_ret
  rw[HZ.out];exact .inl ⟨rfl,rfl,HG.out⟩
def I64 (x:Int):Prop:=-9223372036854775808≤x∧x≤9223372036854775807
def Uo:Prop:=∀ (a:Option Addr) (len cap:Nat) (cs:List Int) (w:World),Vec w a len cs→len≤cap→cap≤maxLen→Calls Tryz.prog 58 #[.slice a len cap] w fun e w'=>∃ Z,qU cs Z∧DX w w' e Z
end Go.Proofs.YtafimeakbdmkjaaGreat