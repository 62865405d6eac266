/-
  Texts in one.
-/
import Derived.Test.YtafimeakbdmkjaaGreatXaa
import Derived.Test.YtafimeakbdmkjaaGreatXat
import Derived.Test.YtafimeakbdmkjaaGreatXaq
import Derived.Test.YtafimeakbdmkjaaGreatXaf
import Derived.Test.YtafimeakbdmkjaaGreatXab
import Derived.Test.YtafimeakbdmkjaaGreatXah
import Derived.Test.YtafimeakbdmkjaaGreatXai
import Derived.Test.YtafimeakbdmkjaaGreatXas
import Derived.Test.YtafimeakbdmkjaaGreatXaj
import Derived.Test.YtafimeakbdmkjaaGreatXak
import Derived.Lib.Overlaps
import Derived.Lib.AppendZerosOnto
import Derived.Lib.SlicesSearch
import Derived.Lib.JoinLaws
import Derived.Lib.SliceRun
import Derived.Laws.IdiomCopy
import Derived.Laws.NewBlocks
import Derived.Laws.Externs
import Derived.Deep.LoopGhost
import Derived.Deep.Draws
import Derived.Lib.Walk
import Derived.Shelf.RegionOpenPlain
namespace Go.Proofs.YtafimeakbdmkjaaGreat
open Bool renaming and_eq_true->bI,false->aC,true->aB
open Go renaming Addr->dH,Calls->dF,Value->aJ,World->aI,bodyPost_ret->bY,maxLen->dD,wpQuiet_nil->dh
open Go.Builtin renaming append_->bU
open Go.Ending renaming returned->aK
open Go.Instr renaming typeAssert->bK
open Go.IntKind renaming i64->aA
open Go.Obj renaming cells->aH
open Go.Proofs.Tryz renaming prog->dA,underlying41->bG
open Go.RowKit renaming Hid->aG,intOf->dG
open Go.Value renaming agg->aP,bool->aF,int->ah,int->dB,pointer->aO,slice->aj,string->aN
open Go.World renaming block_lt_of_cell?->aX,cell?_of_block->bf,size_alloc->bH
open List renaming all_eq_true->bJ,getElem?_append_left->aU,getElem?_append_right->aT,getElem?_eq_getElem->aV,getElem?_eq_none->aZ,length_cons->bP,length_set->bQ,length_take->bM,mem_cons->bW,mem_iff_getElem->bg
open Nat renaming le_refl->cO,le_trans->bZ,zero_le->cZ
open Option renaming none->ak,some->au
open Option.some renaming inj->bT
set_option linter.unusedVariables false
set_option linter.unusedSimpArgs false
open Go.RowKit Go.Sort
set_option maxRecDepth 100000
set_option maxHeartbeats 12800000
variable {X w:aI} {b i:Nat} {x:Int} {o:Oper} {a:Act} {S:List Int} {m:Mb}
section
def qU (x:Ac):aJ:=if x.kind=1 then .iface 153 (aP #[ah aA x.a,aN (sv x.txt)]) else if x.kind=2 then .iface 155 (aP #[ah aA x.a,ah aA x.b]) else if x.kind=3 then .iface 156 (aP #[ah aA x.a,ah aA x.b]) else if x.kind=4 then .iface 158 (aP #[ah aA x.a]) else if x.kind=5 then .iface 159 (aP #[ah aA x.a,ah aA x.b]) else if x.kind=6 then .iface 160 (aP #[ah aA x.a]) else if x.kind=7 then .iface 161 (aP #[ah aA x.a]) else .nilIface
def uV (x:Ac):List Int:=if x.kind=2\/x.kind=3\/x.kind=5 then [x.a,x.b] else [x.a]
def xu (x:Ac):Bool:=decide (1<=x.kind/\x.kind<=7)
theorem ab6 (a t : Value) (w : World) : (Go.method 326 153 (.agg #[a, t]) "loop.example/g00266/impl.ones").run Tryz.prog w = .ok (217, .agg #[a]) w := by kernel_rfl
theorem ab7 (a b : Value) (w : World) : (Go.method 326 155 (.agg #[a, b]) "loop.example/g00266/impl.ones").run Tryz.prog w = .ok (218, .agg #[a, b]) w := by kernel_rfl
theorem ab8 (a b : Value) (w : World) : (Go.method 326 156 (.agg #[a, b]) "loop.example/g00266/impl.ones").run Tryz.prog w = .ok (218, .agg #[a, b]) w := by kernel_rfl
theorem ab9 (a : Value) (w : World) : (Go.method 326 158 (.agg #[a]) "loop.example/g00266/impl.ones").run Tryz.prog w = .ok (217, .agg #[a]) w := by kernel_rfl
theorem ac0 (a b : Value) (w : World) : (Go.method 326 159 (.agg #[a, b]) "loop.example/g00266/impl.ones").run Tryz.prog w = .ok (218, .agg #[a, b]) w := by kernel_rfl
theorem ac1 (a : Value) (w : World) : (Go.method 326 160 (.agg #[a]) "loop.example/g00266/impl.ones").run Tryz.prog w = .ok (217, .agg #[a]) w := by kernel_rfl
theorem ac2 (a : Value) (w : World) : (Go.method 326 161 (.agg #[a]) "loop.example/g00266/impl.ones").run Tryz.prog w = .ok (217, .agg #[a]) w := by kernel_rfl
theorem Tj (W:aI) (o:Obj):Below W.heap.size W (W.alloc o).drew:=fO (n:=1) (dX W o)
theorem zB (W:aI) (o o':Obj):Below W.heap.size W ((W.alloc o).alloc o').drew:=fO (n:=1) ((dX W o).trans ((dX _ o').mono (dX W o).size))
theorem Fz (W:aI) (o:Obj) (T:TypeId) (cs:Array aJ):Bx ((W.alloc o).alloc (aH cs T)) (W.heap.size+1) T cs:=by
 have:=Bx.new (W.alloc o) T cs;simpa only[bH] using this
attribute [local irreducible] sv
theorem ap6 (x:Ac) (w:aI) :
  dF dA 81 #[aP #[ah aA x.kind,ah aA x.a,ah aA x.b,aN (sv x.txt)]] w fun e w'=>e=aK (qU x)/\Below w.heap.size w w':=by
 have gq:=iD;obtain⟨kd,xa,xb,tx⟩:=x;simp only
 have hb:=dX w (aH #[ah aA kd,ah aA xa,ah aA xb,aN (sv tx)] 38);have hx:=Bx.new w 38 #[ah aA kd,ah aA xa,ah aA xb,aN (sv tx)];obtain⟨y0,y1,y2,y3⟩:=Bx.a4 hx;have HB:=dP hb;have HX:=dP hx;clear hb hx;go_enter Tryz.func81,Tryz.ntmps81
 go_upto_region 1 with fail
 generalize w.alloc (aH #[ah aA kd,ah aA xa,ah aA xb,aN (sv tx)] 38)=W at *;have hbd:=(Same.drewN W 1).below
 have KS:∀ X,Below W.heap.size W X->X.cell? ⟨w.heap.size,1,ak⟩=au (ah aA xa)/\X.cell? ⟨w.heap.size,2,ak⟩=au (ah aA xb):=fun X hX=>by
  obtain⟨y0,y1,y2,y3⟩:=Bx.a4 (HX.out.below hX);exact⟨y1,y2⟩
 clear y0 y1 y2 y3
 go_cut [3,4] from 5 to 13 (fun s t wx=>∃ p q:Nat,s=aO (au ⟨p,0,ak⟩)/\t=aO (au ⟨q,0,ak⟩)/\Bx wx p 149 #[ah aA xa]/\Bx wx q 151 #[ah aA xa,ah aA xb]/\Below W.heap.size W wx)
 case first =>
  refine lU (S:=fun X:aI=>X.cell? ⟨w.heap.size,1,ak⟩=au (ah aA xa)/\X.cell? ⟨w.heap.size,2,ak⟩=au (ah aA xb)) 11 gq ((KS _ hbd)) fun hHeld=>?_
  refine fE (i:=0) rfl ?_;refine fC (i:=1) rfl hHeld ?_;refine fE (i:=2) rfl ?_;refine fE (i:=3) rfl ?_;refine fC (i:=4) rfl hHeld ?_;refine fE (i:=5) rfl ?_;refine fC (i:=6) rfl hHeld ?_;refine fE (i:=7) rfl ?_;refine av5 (i:=8) (j:=9) rfl rfl (by kernel_rfl) (by kernel_rfl) (fun K hK=>?_) (fun K hK=>?_)
  ·go_simp
   refine hK.out _ _ (KS _ (Tj W (aH #[ah aA 0] 149))) (fun eP=>?_)
   clear hK hHeld;have hHeld:=eP;try simp only[iC]
   refine iJ (i:=9) rfl fun K hK=>?_
   go_simp;refine hK.out _ _ (KS _ (zB W (aH #[ah aA 0] 149) (aH #[ah aA 0,ah aA 0] 151))) (fun eP=>?_)
   clear hK hHeld;have hHeld:=eP;try simp only[iC]
   refine iJ (i:=10) rfl fun K hK=>?_
   go_simp;refine hK.out _ _ (KS _ (zB W (aH #[ah aA xa] 149) (aH #[ah aA 0,ah aA 0] 151))) (fun eP=>?_)
   clear hK hHeld;have hHeld:=eP;try simp only[iC]
   refine oV rfl fun K hK=>?_
   go_simp;refine hK.out _ _ ?_;try go_wp2_with fail
   go_meet
   case rel=>exact⟨W.heap.size,W.heap.size+1,rfl,rfl,((Bx.new W 149 #[ah aA xa]).alloc (aH #[ah aA xa,ah aA xb] 151)),(Fz W (aH #[ah aA xa] 149) 151 #[ah aA xa,ah aA xb]),zB W (aH #[ah aA xa] 149) (aH #[ah aA xa,ah aA xb] 151)⟩
  ·go_simp
   refine hK.out _ _ (KS _ (Tj W (aH #[ah aA 0,ah aA 0] 151))) (fun eP=>?_)
   clear hK hHeld;have hHeld:=eP;try simp only[iC]
   refine iJ (i:=8) rfl fun K hK=>?_
   go_simp;refine hK.out _ _ (KS _ (zB W (aH #[ah aA 0,ah aA 0] 151) (aH #[ah aA 0] 149))) (fun eP=>?_)
   clear hK hHeld;have hHeld:=eP;try simp only[iC]
   refine iJ (i:=10) rfl fun K hK=>?_
   go_simp;refine hK.out _ _ (KS _ (zB W (aH #[ah aA 0,ah aA 0] 151) (aH #[ah aA xa] 149))) (fun eP=>?_)
   clear hK hHeld;have hHeld:=eP;try simp only[iC]
   refine oV rfl fun K hK=>?_
   go_simp;refine hK.out _ _ ?_;try go_wp2_with fail
   go_meet
   case rel=>exact⟨W.heap.size+1,W.heap.size,rfl,rfl,(Fz W (aH #[ah aA xa,ah aA xb] 151) 149 #[ah aA xa]),((Bx.new W 151 #[ah aA xa,ah aA xb]).alloc (aH #[ah aA xa] 149)),zB W (aH #[ah aA xa,ah aA xb] 151) (aH #[ah aA xa] 149)⟩
 case rest =>
 obtain⟨p,q,rfl,rfl,hP,hQ,hbw⟩:=hcut;have HW:=dP (eU HB.out hbw);obtain⟨y0,y1,y2,y3⟩:=Bx.a4 (HX.out.below hbw);have p0:=hP.at 0 rfl;obtain⟨q0,q1⟩:=Bx.r2 hQ;clear hP hQ hbw KS hbd;by_cases e1:kd=1
 ·have HZ:aG (qU ⟨kd,xa,xb,tx⟩=.iface 153 (aP #[ah aA xa,aN (sv tx)])):=by rw[aG,e1];rfl
  have g1:(kd==1)=aB:=by simpa using e1
  clear e1;go_wp2;go_ret
  exact⟨by rw[HZ.out];rfl,HW.out⟩
 have g1:(kd==1)=aC:=by simpa using e1
 by_cases e2:kd=2
 ·have HZ:aG (qU ⟨kd,xa,xb,tx⟩=.iface 155 (aP #[ah aA xa,ah aA xb])):=by rw[aG,e2];rfl
  have g2:(kd==2)=aB:=by simpa using e2
  clear e2;go_wp2;go_ret
  exact⟨by rw[HZ.out];rfl,HW.out⟩
 have g2:(kd==2)=aC:=by simpa using e2
 by_cases e3:kd=3
 ·have HZ:aG (qU ⟨kd,xa,xb,tx⟩=.iface 156 (aP #[ah aA xa,ah aA xb])):=by rw[aG,e3];rfl
  have g3:(kd==3)=aB:=by simpa using e3
  clear e3;go_wp2;go_ret
  exact⟨by rw[HZ.out];rfl,HW.out⟩
 have g3:(kd==3)=aC:=by simpa using e3
 by_cases e4:kd=4
 ·have HZ:aG (qU ⟨kd,xa,xb,tx⟩=.iface 158 (aP #[ah aA xa])):=by rw[aG,e4];rfl
  have g4:(kd==4)=aB:=by simpa using e4
  clear e4;go_wp2;go_ret
  exact⟨by rw[HZ.out];rfl,HW.out⟩
 have g4:(kd==4)=aC:=by simpa using e4
 by_cases e5:kd=5
 ·have HZ:aG (qU ⟨kd,xa,xb,tx⟩=.iface 159 (aP #[ah aA xa,ah aA xb])):=by rw[aG,e5];rfl
  have g5:(kd==5)=aB:=by simpa using e5
  clear e5;go_wp2;go_ret
  exact⟨by rw[HZ.out];rfl,HW.out⟩
 have g5:(kd==5)=aC:=by simpa using e5
 by_cases e6:kd=6
 ·have HZ:aG (qU ⟨kd,xa,xb,tx⟩=.iface 160 (aP #[ah aA xa])):=by rw[aG,e6];rfl
  have g6:(kd==6)=aB:=by simpa using e6
  clear e6;go_wp2;go_ret
  exact⟨by rw[HZ.out];rfl,HW.out⟩
 have g6:(kd==6)=aC:=by simpa using e6
 by_cases e7:kd=7
 ·have HZ:aG (qU ⟨kd,xa,xb,tx⟩=.iface 161 (aP #[ah aA xa])):=by rw[aG,e7];rfl
  have g7:(kd==7)=aB:=by simpa using e7
  clear e7;go_wp2;go_ret
  exact⟨by rw[HZ.out];rfl,HW.out⟩
 have g7:(kd==7)=aC:=by simpa using e7
 have HZ:aG (qU ⟨kd,xa,xb,tx⟩=.nilIface):=by rw[aG,qU];simp only[e1,e2,e3,e4,e5,e6,e7,if_false]
 clear e1 e2 e3 e4 e5 e6 e7;go_wp2;go_ret
 exact⟨by rw[HZ.out];rfl,HW.out⟩
end
section
theorem ac3 (v:aJ) (w:aI):(bK (.iface 153 v) 77 156 aB).run dA w=.ok (.tuple #[aP #[ah aA 0,ah aA 0],aF aC]) w:=by kernel_rfl
theorem ac5 (v:aJ) (w:aI):(bK (.iface 155 v) 77 156 aB).run dA w=.ok (.tuple #[aP #[ah aA 0,ah aA 0],aF aC]) w:=by kernel_rfl
theorem ac6 (v:aJ) (w:aI):(bK (.iface 156 v) 77 156 aB).run dA w=.ok (.tuple #[v,aF aB]) w:=by kernel_rfl
theorem ac7 (v:aJ) (w:aI):(bK (.iface 158 v) 77 156 aB).run dA w=.ok (.tuple #[aP #[ah aA 0,ah aA 0],aF aC]) w:=by kernel_rfl
theorem ac8 (v:aJ) (w:aI):(bK (.iface 159 v) 77 156 aB).run dA w=.ok (.tuple #[aP #[ah aA 0,ah aA 0],aF aC]) w:=by kernel_rfl
theorem ac9 (v:aJ) (w:aI):(bK (.iface 160 v) 77 156 aB).run dA w=.ok (.tuple #[aP #[ah aA 0,ah aA 0],aF aC]) w:=by kernel_rfl
theorem ad1 (v:aJ) (w:aI):(bK (.iface 161 v) 77 156 aB).run dA w=.ok (.tuple #[aP #[ah aA 0,ah aA 0],aF aC]) w:=by kernel_rfl
theorem ap7 (h:w.cell? ⟨b,0,ak⟩=au (ah aA x)) (hx:ji x):Vec w (au ⟨b,0,ak⟩) 1 [x] :=
 ⟨rfl,fun y hy => by rw [List.mem_singleton.1 hy];exact hx,.inr ⟨b,0,rfl,fun k hk => by
  have:k=0:=by omega
  subst this;exact h⟩⟩
theorem ap8 {y: Int} (h:w.cell? ⟨b,0,ak⟩=au (ah aA x)) (h':w.cell? ⟨b,1,ak⟩=au (ah aA y)) (hx:ji x) (hy:ji y):Vec w (au ⟨b,0,ak⟩) 2 [x,y] :=
 ⟨rfl,fun z hz => by
  simp only[bW,List.not_mem_nil,or_false] at hz;rcases hz with rfl|rfl
  ·exact hx
  ·exact hy,.inr ⟨b,0,rfl,fun k hk => by
  have:k=0\/k=1:=by omega
  rcases this with rfl|rfl
  ·exact h
  ·exact h'⟩⟩
theorem Bl (x:Int) (hx:ji x) (w:aI):dF dA 217 #[aP #[ah aA x]] w fun e w'=>∃ b,e=aK (aj (au ⟨b,0,ak⟩) 1 1)/\Vec w' (au ⟨b,0,ak⟩) 1 [x]/\Below w.heap.size w w':=by
 have H:=dP hx;clear hx;go_enter Tryz.func217,Tryz.ntmps217
 go_wp2;go_ret
 exact⟨w.heap.size+1,rfl,ap7 ((Fz w _ 2 #[ah aA x]).at 0 rfl) H.out,(dX w _).trans ((dX _ _).mono (dX w _).size)⟩
theorem FB (x y:Int) (hx:ji x) (hy:ji y) (w:aI):dF dA 218 #[aP #[ah aA x,ah aA y]] w fun e w'=>∃ b,e=aK (aj (au ⟨b,0,ak⟩) 2 2)/\Vec w' (au ⟨b,0,ak⟩) 2 [x,y]/\Below w.heap.size w w':=by
 have H:aG (ji x/\ji y):=⟨hx,hy⟩;clear hx hy;go_enter Tryz.func218,Tryz.ntmps218
 go_wp2;go_ret
 exact⟨w.heap.size+1,rfl,ap8 ((Fz w _ 2 #[ah aA x,ah aA y]).at 0 rfl) ((Fz w _ 2 #[ah aA x,ah aA y]).at 1 rfl) H.out.1 H.out.2,(dX w _).trans ((dX _ _).mono (dX w _).size)⟩
attribute [local irreducible] sv
theorem Qd {x: Ac} (hk : xu x = true) (ha : ji x.a) (hb : ji x.b) : ∃ T v f r, ∃ z0 z1 : Int, qU x = .iface T v ∧ (∀ w : World, (Go.method 326 T v "loop.example/g00266/impl.ones").run Tryz.prog w = .ok (f, r) w) ∧ (∀ (args : Array Value) (w : World), (callFunc f args).run Tryz.prog w = .ok (.enter f args) w) ∧
  (∀ w:aI,(bK (.iface T v) 77 156 aB).run dA w=.ok (.tuple #[aP #[ah aA z0,ah aA z1],aF (decide (x.kind=3))]) w) /\
  ∀ w,dF dA f #[r] w fun e w'=>∃ b,e=aK (aj (au ⟨b,0,ak⟩) (uV x).length (uV x).length)/\Vec w' (au ⟨b,0,ak⟩) (uV x).length (uV x)/\Below w.heap.size w w':=by
 obtain⟨kd,xa,xb,tx⟩:=x;simp only at ha hb
 rw[xu,decide_eq_true_eq] at hk;simp only at hk
 by_cases e1:kd=1
 ·subst e1
  exact⟨153,(aP #[ah aA xa,aN (sv tx)]),217,(aP #[ah aA xa]),0,0,rfl,fun w=>ab6 _ _ w,fun _ _=>enters_of Tryz.func217 (by kernel_rfl) rfl _ _,fun w=>ac3 _ w,fun X=>Bl xa ha X⟩
 by_cases e2:kd=2
 ·subst e2
  exact⟨155,(aP #[ah aA xa,ah aA xb]),218,(aP #[ah aA xa,ah aA xb]),0,0,rfl,fun w=>ab7 _ _ w,fun _ _=>enters_of Tryz.func218 (by kernel_rfl) rfl _ _,fun w=>ac5 _ w,fun X=>FB xa xb ha hb X⟩
 by_cases e3:kd=3
 ·subst e3
  exact⟨156,(aP #[ah aA xa,ah aA xb]),218,(aP #[ah aA xa,ah aA xb]),xa,xb,rfl,fun w=>ab8 _ _ w,fun _ _=>enters_of Tryz.func218 (by kernel_rfl) rfl _ _,fun w=>ac6 _ w,fun X=>FB xa xb ha hb X⟩
 by_cases e4:kd=4
 ·subst e4
  exact⟨158,(aP #[ah aA xa]),217,(aP #[ah aA xa]),0,0,rfl,fun w=>ab9 _ w,fun _ _=>enters_of Tryz.func217 (by kernel_rfl) rfl _ _,fun w=>ac7 _ w,fun X=>Bl xa ha X⟩
 by_cases e5:kd=5
 ·subst e5
  exact⟨159,(aP #[ah aA xa,ah aA xb]),218,(aP #[ah aA xa,ah aA xb]),0,0,rfl,fun w=>ac0 _ _ w,fun _ _=>enters_of Tryz.func218 (by kernel_rfl) rfl _ _,fun w=>ac8 _ w,fun X=>FB xa xb ha hb X⟩
 by_cases e6:kd=6
 ·subst e6
  exact⟨160,(aP #[ah aA xa]),217,(aP #[ah aA xa]),0,0,rfl,fun w=>ac1 _ w,fun _ _=>enters_of Tryz.func217 (by kernel_rfl) rfl _ _,fun w=>ac9 _ w,fun X=>Bl xa ha X⟩
 by_cases e7:kd=7
 ·subst e7
  exact⟨161,(aP #[ah aA xa]),217,(aP #[ah aA xa]),0,0,rfl,fun w=>ac2 _ w,fun _ _=>enters_of Tryz.func217 (by kernel_rfl) rfl _ _,fun w=>ad1 _ w,fun X=>Bl xa ha X⟩
 omega
theorem Qe {x: Ac} (hk:xu x=aC):qU x=.nilIface:=by
 rw[xu,decide_eq_false_iff_not] at hk;rw[qU,if_neg (by omega),if_neg (by omega),if_neg (by omega),if_neg (by omega),if_neg (by omega),if_neg (by omega),if_neg (by omega)]
theorem Kt (x:Ac):1<=(uV x).length/\(uV x).length<=2:=by
 unfold uV
 split<;>simp
def GK (x:Ac):Bool:=xu x&&mY 5 (uV x)
theorem Tm (x:Ac) (ha:ji x.a) (hb:ji x.b) (w:aI) :
  dF dA 42 #[aP #[ah aA x.kind,ah aA x.a,ah aA x.b,aN (sv x.txt)]] w fun e w'=>e=aK (.tuple #[qU x,aF (GK x)])/\Below w.heap.size w w':=by
 have hbw:=dX w (aH #[ah aA x.kind,ah aA x.a,ah aA x.b,aN (sv x.txt)] 38);have hx:=Bx.new w 38 #[ah aA x.kind,ah aA x.a,ah aA x.b,aN (sv x.txt)];have hS:=ap6 x (w.alloc (aH #[ah aA x.kind,ah aA x.a,ah aA x.b,aN (sv x.txt)] 38));obtain⟨y0,y1,y2,y3⟩:=Bx.a4 hx;have HB:=dP hbw;clear hbw hx
 cases hk:xu x with
 | false =>
  rw[Qe hk] at hS;have HZ:aG (GK x=aC/\qU x=.nilIface):=⟨by rw[GK,hk];rfl,Qe hk⟩
  clear hk ha hb;go_enter Tryz.func42,Tryz.ntmps42
  go_wp2_with fail
  refine hS.mono ?_;rintro e w1 ⟨rfl,hb1⟩;have HB1:=dP (eU HB.out hb1);clear hb1 hS y0 y1 y2 y3;go_wp2;refine bY (v:=.tuple #[.nilIface,aF aC]) (by simp[results,Tryz.results42,go_sem, *]) rfl ?_
  exact⟨by rw[HZ.out.1,HZ.out.2],HB1.out⟩
 | true =>
  obtain⟨T,v,f,r,z0,z1,eS,hM,hE,_,hC⟩:=Qd hk ha hb;rw[eS] at hS;have HZ:aG (GK x=mY 5 (uV x)/\qU x=.iface T v):=⟨by rw[GK,hk];rfl,eS⟩
  have hl:=Kt x;clear hk ha hb eS;generalize uV x=xs at *;go_enter Tryz.func42,Tryz.ntmps42
  go_wp2_with fail
  refine hS.mono ?_;rintro e w1 ⟨rfl,hb1⟩;have HB1:=dP (eU HB.out hb1);have hC1:=hC w1;clear hb1 hS y0 y1 y2 y3 hC;go_wp2_with fail
  refine hC1.mono ?_;rintro e w2 ⟨b,rfl,hv,hb2⟩;have HB2:=dP (eU HB1.out hb2);have hA:=J6 5 b 0 xs.length xs w2 hv (by omega) (cO _) (by unfold dD;omega) ⟨by omega,by omega⟩
  clear hb2 hC1 hv;go_wp2_with fail
  refine hA.mono ?_;rintro e w' ⟨rfl,hw'⟩;rw[hw'];clear hw' hA;go_wp2;refine bY (v:=.tuple #[.iface T v,aF (mY 5 xs)]) (by simp[results,Tryz.results42,go_sem, *]) rfl ?_
  exact⟨by rw[HZ.out.1,HZ.out.2],HB2.out⟩
end
def rH (g:Gr) (x:Ac):Bool:=mY (g.mem.length:Int) (uV x)&&(decide (x.kind=3)||ou g x.a.toNat)
theorem FC (x:Ac):el (uV x) 0=x.a:=by
 unfold uV
 split<;>rfl
theorem Jy {n: Int} {xs: List Int} (h:mY n xs=aB) (hl:1<=xs.length):0<=el xs 0/\el xs 0<n:=by
 rw[mY,bJ] at h;have h0:=h 0 (List.mem_range.2 hl);rw[bI] at h0;have:=iZ.1 h0.1;omega
theorem ap9 (B:Nat) (g:Gr) (n:Nat) (x:Ac) (fp:Fp) (w:aI) (h:iP w B 0 (fZ g) fp) (ok:OkG g n) (hk:xu x=aB) (ha:ji x.a) (hb:ji x.b) :
  dF dA 82 #[aO (au ⟨B,0,ak⟩),qU x] w fun e w'=>e=aK (aF (rH g x))/\Below w.heap.size w w':=by
 have gq:=iD;obtain⟨bb,off,c,G0⟩:=Gw.start h (by rw[ok.ml];have:=ok.n5;omega)
 obtain⟨T,v,f,r,z0,z1,eS,hM,hE,hT,hC⟩:=Qd hk ha hb;rw[eS];have hl:=Kt x;have hC0:=hC w;have c0:=G0.mem
 have HF:aG (mY (g.mem.length:Int) (uV x)=aB->0<=x.a/\x.a<(g.mem.length:Int)):=fun hh=>by
  have:=Jy hh hl.1
  rwa [FC] at this
 have HE0:=dP (FC x);have HZ:aG (rH g x=(mY (g.mem.length:Int) (uV x)&&(decide (x.kind=3)||ou g x.a.toNat))):=rfl
 have HG:=dP G0;have iE:=dP ok;clear h ok hk ha hb eS hC G0;generalize uV x=xs at *;generalize decide (x.kind=3)=q at *;go_enter Tryz.func82,Tryz.ntmps82
 go_wp2_with fail
 refine hC0.mono ?_;rintro e w1 ⟨b,rfl,hv,hb1⟩;have HB1:=dP hb1;have HV:=dP hv;have c1:=gy hb1 c0;have hA:=J6 (g.mem.length:Int) b 0 xs.length xs w1 hv (by omega) (cO _) (by unfold dD;omega) (by have:=iE.out.ml;have:=iE.out.n5;exact⟨by omega,by omega⟩)
 clear hC0 hb1 hv c0;go_wp2_with fail
 refine hA.mono ?_;rintro e w' ⟨rfl,hw'⟩;rw[hw'];clear hw' hA c1
 cases hbl:mY (g.mem.length:Int) xs with
 | false =>
  have HR:aG (rH g x=aC):=by rw[aG,HZ.out,hbl];rfl
  clear hbl;go_wp2;go_ret
  exact⟨dZ (by rw[HR.out]),HB1.out⟩
 | true =>
  obtain⟨a0,a1⟩:=HF.out hbl;obtain⟨a,ea⟩:∃ a:Nat,x.a=(a:Int):=⟨x.a.toNat,by omega⟩
  have HR:aG (rH g x=(q||ou g a)):=by rw[aG,HZ.out,hbl,ea];simp
  have hal:a<g.up.length:=by rw[iE.out.ul,<- iE.out.ml];omega
  have e0:=HE0.out;rw[ea] at e0;clear hbl a0 a1;have hb2:=dX w1 (aH #[ah aA z0,ah aA z1] 156);have HB2:=dP (eU HB1.out hb2);have hv2:=HV.out.below hb2 (cO _);obtain⟨ub,uo,uc,u1,u2,_,_⟩:=(HG.out.step HB2.out).bit (k:=a) hal;simp only[Nat.zero_add] at u1
  have d0:(w1.alloc (aH #[ah aA z0,ah aA z1] 156)).cell? ⟨b,0,ak⟩=au (ah aA (a:Int)):=by
   rcases hv2.2.2 with h0|⟨b',o',ee,hc⟩
   ·omega
   ·cases ee
    have:=hc 0 (by omega)
    rw[e0] at this;exact this
  have k0:(0:Int)<=a:=by omega
  have k1:(a:Int)<g.up.length:=by omega
  have k2:(0:Int)<xs.length:=by omega
  clear hb2 hv2 e0;go_wp2_with fail
  generalize w1.alloc (aH #[ah aA z0,ah aA z1] 156)=W2 at *;have TT:∀ {y v},W2.cell? y=au v->∀ q:Bk W2,q.w.cell? y=au v:=fun h q=>gy q.h h
  have t0:=TT u1;have t1:=TT u2;have t2:=TT d0;clear TT u1 u2 d0
  cases q with
  | true =>
   have HR2:aG (rH g x=aB):=by rw[aG,HR.out];rfl
   refine jg ?_;repeat (go_big_quiet_step ((first|rfl)))
   refine dh (iL fun wE eG=>?_)
   have HB3:=dP (eU HB2.out eG);clear eG t0 t1 t2;go_wp2;go_ret
   exact⟨dZ (by rw[HR2.out]),HB3.out⟩
  | false =>
   have HR2:aG (rH g x=ou g a):=by rw[aG,HR.out];rfl
   generalize ou g a=u at *;refine jg ?_;repeat (go_big_quiet_step ((first|rfl)))
   refine dh (iL fun wE eG=>?_)
   have HB3:=dP (eU HB2.out eG);clear eG t0 t1 t2;go_wp2;go_ret
   exact⟨dZ (by rw[HR2.out]),HB3.out⟩
theorem ad2 (x:Int) (w:aI):dF dA 195 #[ah aA x] w fun e w'=>e=aK (aF aC)/\w'=w:=by
 go_enter Tryz.func195,Tryz.ntmps195
 go_wp2;go_ret
 exact⟨by simp,rfl⟩
theorem Ah (x:Int) (w:aI):dF dA 189 #[ah aA x] w fun e w'=>e=aK (aF aC)/\w'=w:=by
 go_enter Tryz.func189,Tryz.ntmps189
 go_wp2;go_ret
 exact⟨by simp,rfl⟩
theorem Aj (x y:Int) (w:aI):dF dA 188 #[ah aA x,ah aA y] w fun e w'=>e=aK (aF (decide (x<y)))/\w'=w:=by
 go_enter Tryz.func188,Tryz.ntmps188
 go_wp2_with (go_at_call 195;refine (ad2 _ _).mono ?_;rintro e w' ⟨rfl,rfl⟩)
 go_ret
 exact⟨rfl,rfl⟩
theorem XK:∀ {zs:List Int} {k:Nat} {x:Int},k<=zs.length->(∀ j,j<k->el zs j<x)->(∀ j,k<=j->j<zs.length->x<el zs j)->zs.take k++x::zs.drop k=gV zs x
 | [],0,x,_,_,_=>rfl
 | [],k+1,x,h,_,_=>by simp at h
 | z::zs,0,x,_,_,h2=>by
  have:=h2 0 (cO _) (by simp)
  simp only[el,List.getD_cons_zero] at this;rw[gV,if_neg (by omega),if_neg (by omega)]
  rfl
 | z::zs,k+1,x,h,h1,h2=>by
  have e:=h1 0 (by omega)
  simp only[el,List.getD_cons_zero] at e;rw[gV,if_pos e,<- XK (zs:=zs) (k:=k) (x:=x) (by simpa using h) (fun j hj=>by have:=h1 (j+1) (by omega);simpa[el] using this) (fun j hj hl=>by have:=h2 (j+1) (by omega) (by simpa using hl);simpa[el] using this)]
  rfl
theorem aA4 (a:Option dH) (cap:Nat) (zs:List Int) (x:Int) (w:aI) (hv:Vec w a zs.length zs) (hm:zs.length<=1000) (hs:zs.Pairwise (·<·)) :
  dF dA 182 #[aj a zs.length cap,ah aA x] w fun e w'=>∃ k:Nat,k<=zs.length/\e=aK (.tuple #[ah aA (k:Int),aF (decide (x∈zs))])/\w'=w/\(x∉zs->zs.take k++x::zs.drop k=gV zs x):=by
 have S:aG (∀ a b,a<b->b<zs.length->el zs a<el zs b):=fun a b hab hb=>by
  have:=List.pairwise_iff_getElem.1 hs a b (by omega) hb hab
  simpa[el,hb,show a<zs.length by omega] using this
 have hc:=hv.2.2;clear hs hv
 have HP:aG (∀ k,k<=zs.length->(∀ t,t<k->el zs t<x)->(∀ t,k<=t->t<zs.length->x<=el zs t)->(x∉zs->zs.take k++x::zs.drop k=gV zs x)/\(k<zs.length->el zs k=x->x∈zs)/\((k<zs.length->el zs k≠x)->x∉zs)):=fun k hk h1 h2=>by
  refine⟨fun hx=>XK hk h1 (fun j hj hl=>?_),fun hk' e=>?_,fun hne hx=>?_⟩
  ·have:=h2 j hj hl
   have hne:el zs j≠x:=fun e=>hx (e ▸ kK hl)
   omega
  ·exact e ▸ kK hk'
  ·obtain⟨j,hj,e⟩:=bg.1 hx
   have ej:el zs j=x:=by simpa[el,hj] using e
   rcases Nat.lt_or_ge j k with h|h
   ·have:=h1 j h;omega
   ·rcases Nat.eq_or_lt_of_le h with h|h
    ·subst h;exact hne hj ej
    ·have a1:=S.out k j h hj
     have a2:=h2 k (cO _) (by omega)
     omega
 have HT:aG ((x∈zs->decide (x∈zs)=aB)/\(x∉zs->decide (x∈zs)=aC)):=⟨decide_eq_true,decide_eq_false⟩;generalize decide (x∈zs)=D at *;go_enter Tryz.func182,Tryz.ntmps182
 go_wp2
 go_loopg [7,8] zs.length (fun g s7 s8 wr=>∃ lo hi:Nat,s7=ah aA (lo:Int)/\s8=ah aA (hi:Int)/\lo<=hi/\hi<=zs.length/\hi-lo<=g/\wr=w/\(∀ t,t<lo->el zs t<x)/\(∀ t,hi<=t->t<zs.length->x<=el zs t))
 case atStart=>exact⟨0,zs.length,rfl,rfl,cZ _,cO _,by omega,rfl,fun t ht=>absurd ht (Nat.not_lt_zero _),fun t h1 h2=>by omega⟩
 case round =>
  obtain⟨lo,hi,rfl,rfl,hlh,hin,hg,rfl,h1,h2⟩:=hrel;have I:aG ((∀ t,t<lo->el zs t<x)/\(∀ t,hi<=t->t<zs.length->x<=el zs t)):=⟨h1,h2⟩;clear h1 h2;by_cases hlt:lo<hi
  ·rcases hc with h0|⟨b,off,rfl,hc⟩
   ·omega
   have cm:=hc ((lo+hi)/2) (by omega)
   clear hc;generalize hy:el zs ((lo+hi)/2)=y at cm;have Y:=dP hy;clear hy;by_cases hyx:y<x
   ·go_wp2_with (first|(go_at_call 188;refine (Aj _ _ _).mono ?_;rintro e w' ⟨rfl,rfl⟩)|(go_at_call 189;refine (Ah _ _).mono ?_;rintro e w' ⟨rfl,rfl⟩))
    go_roundg (hi-((lo+hi)/2+1))
    case measure=>omega
    case rel =>
     refine⟨(lo+hi)/2+1,hi,by rw[show ((lo:Int)+(hi:Int))/2+1=(((lo+hi)/2+1:Nat):Int) by omega],rfl,by omega,hin,cO _,rfl,fun t ht=>?_,I.out.2⟩
     rcases Nat.lt_or_ge t ((lo+hi)/2) with h|h
     ·have:=S.out t ((lo+hi)/2) h (by omega)
      rw[Y.out] at this;omega
     ·rw[show t=(lo+hi)/2 by omega,Y.out];exact hyx
   ·go_wp2_with (first|(go_at_call 188;refine (Aj _ _ _).mono ?_;rintro e w' ⟨rfl,rfl⟩)|(go_at_call 189;refine (Ah _ _).mono ?_;rintro e w' ⟨rfl,rfl⟩))
    go_roundg ((lo+hi)/2-lo)
    case measure=>omega
    case rel =>
     refine⟨lo,(lo+hi)/2,rfl,by rw[show ((lo:Int)+(hi:Int))/2=(((lo+hi)/2:Nat):Int) by omega],by omega,by omega,cO _,rfl,I.out.1,fun t ht htn=>?_⟩
     rcases Nat.eq_or_lt_of_le ht with h|h
     ·rw[<- h,Y.out];omega
     ·have:=S.out ((lo+hi)/2) t h htn
      rw[Y.out] at this;omega
  ·have:hi=lo:=by omega
   subst this;obtain⟨p1,p2,p3⟩:=HP.out hi hin I.out.1 I.out.2;have E1:=dP p1;by_cases hn:hi<zs.length
   ·rcases hc with h0|⟨b,off,rfl,hc⟩
    ·omega
    have cl:=hc hi hn;by_cases hyx:el zs hi=x
    ·have E2:aG (D=aB):=HT.out.1 (p2 hn hyx)
     rw[hyx] at cl;clear hc hyx p1 p2 p3;go_wp2_with (first|(go_at_call 188;refine (Aj _ _ _).mono ?_;rintro e w' ⟨rfl,rfl⟩)|(go_at_call 189;refine (Ah _ _).mono ?_;rintro e w' ⟨rfl,rfl⟩))
     go_ret2
     exact⟨hi,hin,by rw[E2.out];first|rfl|simp,rfl,E1.out⟩
    ·have E2:aG (D=aC):=HT.out.2 (p3 (fun _=>hyx))
     have aO3:((el zs hi)==x)=aC:=by simpa using hyx
     clear hc p1 p2 p3;generalize el zs hi=y at *;go_wp2_with (first|(go_at_call 188;refine (Aj _ _ _).mono ?_;rintro e w' ⟨rfl,rfl⟩)|(go_at_call 189;refine (Ah _ _).mono ?_;rintro e w' ⟨rfl,rfl⟩))
     go_ret2
     exact⟨hi,hin,by rw[E2.out];first|rfl|simp[hyx],rfl,E1.out⟩
   ·have E2:aG (D=aC):=HT.out.2 (p3 (fun h=>absurd h hn))
    clear hc p1 p2 p3;go_wp2_with (first|(go_at_call 188;refine (Aj _ _ _).mono ?_;rintro e w' ⟨rfl,rfl⟩)|(go_at_call 189;refine (Ah _ _).mono ?_;rintro e w' ⟨rfl,rfl⟩))
    go_ret2
    exact⟨hi,hin,by rw[E2.out];first|rfl|simp,rfl,E1.out⟩
theorem XL {P: Program} (w:aI) {K: Act->aI->Prop} {Q: Exit->Act->aI->Prop} (d s:Operand) (t t':TypeId)
  (ho:o.op=.call { callee:=.builtin .copy,args:=#[d,s],argTypes:=#[t,t'] }) (v u:aJ) (hd:a.eval d=v) (hs:a.eval s=u) {v':aJ} {w':aI}
  (hr:(Builtin.copy_ #[t,t'] o.type #[v,u]).run P w=.ok v' w') (h:K (a.put o.dst v') w'):o.wp P a w K Q:=by
 unfold Oper.wp execOp;simp only[ho,resolve,invoke,builtin,Sem.run_bind,Sem.run_pure,Result.andThen_ok,List.map_toArray,List.map_cons,List.map_nil,hd,hs,hr]
 exact h
theorem Ea {P: Program} (w:aI) {ops: Array Oper} {rest: List Oper} {Q: Exit->Act->aI->Prop} (hgd:o.guard=ak) (d s:Operand) (t t':TypeId)
  (ho:o.op=.call { callee:=.builtin .copy,args:=#[d,s],argTypes:=#[t,t'] }) (v u:aJ) (hd:a.eval d=v) (hs:a.eval s=u) {v':aJ} {w':aI}
  (hr:(Builtin.copy_ #[t,t'] o.type #[v,u]).run P w=.ok v' w') (h:wpList P ops Q rest (a.put o.dst v') w'):wpList P ops Q (o::rest) a w :=
 wpList_plain hgd fun _ hK=>XL w d s t t' ho v u hd hs hr (hK _ _ h)
theorem GL {P: Program} {ops: Array Oper} {a: Act} {w: aI} {K: Act->aI->Prop} {Q: Exit->Act->aI->Prop} {E: Prop}
  (hg:o.guard=ak) (d x:Operand) (dT sT:TypeId) (hop:o.op=Op.call { callee:=Callee.builtin Builtin.copy,args:=#[d,x],argTypes:=#[dT,sT] })
  (v u:aJ) (hd:a.eval d=v) (hx:a.eval x=u) {v':aJ} {w':aI} (hr:(Builtin.copy_ #[dT,sT] o.type #[v,u]).run P w=.ok v' w') (hK:K (a.put o.dst v') w') :
  if Region.wanted o (yielded ops a.tmps)=aB then Oper.wp P o a w K Q else E:=by
 have hw:Region.wanted o (yielded ops a.tmps)=aB:=by simp[Region.wanted,hg]
 rw[if_pos hw];unfold Oper.wp;simp[execOp,hop,resolve,invoke,builtin,hd,hx,hr,Result.andThen]
 exact hK
theorem uD (b:Nat) (vs:List aJ) (o:Nat) (w:aI) (h:∀ j,j<vs.length->(w.cell? ⟨b,o+j,ak⟩).isSome=aB) (k:Nat) (hk:(w.cell? ⟨b,k,ak⟩).isSome=aB):((w.setCells b o vs).cell? ⟨b,k,ak⟩).isSome=aB:=by
 by_cases hin:o<=k/\k<o+vs.length
 ·have:=World.cell?_setCells_in b vs o w h (k-o) (by omega)
  rw[show o+(k-o)=k by omega] at this
  rw[this];rfl
 ·rw[World.cell?_setCells_out b vs o w ⟨b,k,ak⟩ (fun _ _=>by show k<o\/o+vs.length<=k;omega)]
  exact hk
theorem Tn {α: Type} (cs:List α) (k:Nat) (x:α) (hk:k<=cs.length) (j:Nat):(cs.take k++x::cs.drop k)[j]?=if j<k then cs[j]? else if j=k then au x else cs[j-1]?:=by
 have hl:(cs.take k).length=k:=by rw[bM];omega
 by_cases h1:j<k
 ·rw[if_pos h1,aU (by omega),List.getElem?_take,if_pos h1]
 ·rw[if_neg h1,aT (by omega),hl]
  by_cases h2:j=k
  ·rw[if_pos h2,h2,Nat.sub_self];rfl
  ·rw[if_neg h2,show j-k=(j-k-1)+1 by omega,List.getElem?_cons_succ,List.getElem?_drop]
   congr 1
   omega
theorem ad3 (W:aI) (N o k c:Nat) (cs:List aJ) (x:aJ) (hk:k<=cs.length) (h0:∀ j,j<k->W.cell? ⟨N,o+j,ak⟩=cs[j]?) (hs:∀ j,j<c->(W.cell? ⟨N,o+j,ak⟩).isSome=aB) (hc:cs.length+1<=c) :
  (∀ j,j<cs.length+1->((W.setCells N (o+(k+1)) (cs.drop k)).setCells N (o+k) [x]).cell? ⟨N,o+j,ak⟩=(cs.take k++x::cs.drop k)[j]?)/\∀ j,j<c->(((W.setCells N (o+(k+1)) (cs.drop k)).setCells N (o+k) [x]).cell? ⟨N,o+j,ak⟩).isSome=aB:=by
 have hd:(cs.drop k).length=cs.length-k:=List.length_drop;have s1:∀ j,j<(cs.drop k).length->(W.cell? ⟨N,o+(k+1)+j,ak⟩).isSome=aB:=fun j hj=>by rw[Nat.add_assoc];exact hs _ (by omega)
 have s2:∀ j,j<c->((W.setCells N (o+(k+1)) (cs.drop k)).cell? ⟨N,o+j,ak⟩).isSome=aB:=fun j hj=>uD N _ _ W s1 _ (hs j hj)
 have s3:∀ j,j<[x].length->((W.setCells N (o+(k+1)) (cs.drop k)).cell? ⟨N,o+k+j,ak⟩).isSome=aB:=fun j hj=>by rw[Nat.add_assoc];exact s2 _ (by simp at hj;omega)
 refine⟨fun j hj=>?_,fun j hj=>uD N _ _ _ s3 _ (s2 j hj)⟩
 rw[Tn cs k x hk j];by_cases h2:j=k
 ·subst h2
  rw[if_neg (by omega),if_pos rfl]
  have:=World.cell?_setCells_in N [x] (o+j) _ s3 0 (by simp)
  exact this
 ·rw[World.cell?_setCells_out N [x] (o+k) _ ⟨N,o+j,ak⟩ (fun _ _=>by show o+j<o+k\/o+k+[x].length<=o+j;simp;omega),if_neg h2]
  by_cases h1:j<k
  ·rw[if_pos h1,World.cell?_setCells_out N _ _ W ⟨N,o+j,ak⟩ (fun _ _=>by show o+j<o+(k+1)\/_;omega)]
   exact h0 j h1
  ·rw[if_neg h1]
   have:=World.cell?_setCells_in N (cs.drop k) (o+(k+1)) W s1 (j-(k+1)) (by omega)
   rw[show o+(k+1)+(j-(k+1))=o+j by omega] at this
   rw[this,List.getElem_drop,aV (by omega)]
   congr 2
   omega
theorem aA5 (W:aI) (N o k c:Nat) (cs:List aJ) (x:aJ) (hk:k<=cs.length) (h0:∀ j,j<k->W.cell? ⟨N,o+j,ak⟩=cs[j]?) (hs:∀ j,j<c->(W.cell? ⟨N,o+j,ak⟩).isSome=aB) (hc:cs.length+1<=c) :
  (∀ j,j<cs.length+1->((W.setCells N (o+k) [x]).setCells N (o+(k+1)) (cs.drop k)).cell? ⟨N,o+j,ak⟩=(cs.take k++x::cs.drop k)[j]?)/\∀ j,j<c->(((W.setCells N (o+k) [x]).setCells N (o+(k+1)) (cs.drop k)).cell? ⟨N,o+j,ak⟩).isSome=aB:=by
 have hd:(cs.drop k).length=cs.length-k:=List.length_drop;have s3:∀ j,j<[x].length->(W.cell? ⟨N,o+k+j,ak⟩).isSome=aB:=fun j hj=>by rw[Nat.add_assoc];exact hs _ (by simp at hj;omega)
 have s2:∀ j,j<c->((W.setCells N (o+k) [x]).cell? ⟨N,o+j,ak⟩).isSome=aB:=fun j hj=>uD N _ _ W s3 _ (hs j hj)
 have s1:∀ j,j<(cs.drop k).length->((W.setCells N (o+k) [x]).cell? ⟨N,o+(k+1)+j,ak⟩).isSome=aB:=fun j hj=>by rw[Nat.add_assoc];exact s2 _ (by omega)
 refine⟨fun j hj=>?_,fun j hj=>uD N _ _ _ s1 _ (s2 j hj)⟩
 rw[Tn cs k x hk j];by_cases h1:j<k+1
 ·rw[World.cell?_setCells_out N _ _ (W.setCells N (o+k) [x]) ⟨N,o+j,ak⟩ (fun _ _=>by show o+j<o+(k+1)\/_;omega)]
  by_cases h2:j=k
  ·subst h2
   rw[if_neg (by omega),if_pos rfl]
   exact World.cell?_setCells_in N [x] (o+j) W s3 0 (by simp)
  ·rw[if_pos (by omega),World.cell?_setCells_out N [x] (o+k) W ⟨N,o+j,ak⟩ (fun _ _=>by show o+j<o+k\/_;omega)]
   exact h0 j (by omega)
 ·rw[if_neg (by omega),if_neg (by omega)]
  have:=World.cell?_setCells_in N (cs.drop k) (o+(k+1)) (W.setCells N (o+k) [x]) s1 (j-(k+1)) (by omega)
  rw[show o+(k+1)+(j-(k+1))=o+j by omega] at this
  rw[this,List.getElem_drop,aV (by omega)]
  congr 2
  omega
theorem ad4 (b off n c i vb:Nat) (cs:List aJ) (x:Int) (w:aI) (hi:i<n) (hroom:n+1<=c) (hc63:c<=9223372036854775807) (hvb:vb≠b) (hcl:cs.length=n)
  (hcs:∀ j v,cs[j]?=au v->w.cell? ⟨b,off+j,ak⟩=au v) (hsp:∀ j,j<n+1->(w.cell? ⟨b,off+j,ak⟩).isSome=aB) (hfz:∀ j,j<n+1->w.frozen? ⟨b,off+j,ak⟩=aC)
  (hvs:w.cell? ⟨vb,0,ak⟩=au (ah aA x)) (h1c:∀ v∈cs,v.oneCell'=aB) (tA tB:TypeId) (kA kB:Nat) (hsa:w.shape? vb=au (tA,kA)) (hsb:w.shape? b=au (tB,kB)) (hkB:kB≠0) (hfa:w.frozen? ⟨vb,0,ak⟩=aC) (hfe:w.frozen? ⟨vb,kA,ak⟩=aC) :
  dF dA 183 #[aj (au ⟨b,off,ak⟩) n c,ah aA (i:Int),aj (au ⟨vb,0,ak⟩) 1 1] w fun e w' =>
   e=aK (aj (au ⟨b,off,ak⟩) (n+1) c)/\w'=(w.drew.setCells b (off+(i+1)) (cs.drop i)).setCells b (off+i) [ah aA x]:=by
 have mixed:=iD;have hz2:¬ ((i:Int)=n):=by omega
 obtain⟨i0,hi0,hz0,hz1,hzb⟩:=jX Tryz.info2n;have hsz:(Tryz.prog.info? 2).map (·.size)=au 1:=by rw[hi0];simp[hz1]
 have hov:∀ lb cb,(callFunc 190 #[aj (au ⟨vb,0,ak⟩) 1 1,aj (au ⟨b,off+(i+1),ak⟩) lb cb]).run dA w=.ok (.value (aF aC)) w:=fun lb cb=>by
  rw [run_callFunc_extern Tryz.func190 (by kernel_rfl) (by kernel_rfl) (by kernel_rfl) (e := Extern.SlicesOverlaps.overlaps #[41,41] #[4]) (by kernel_rfl),
   Lib.run_overlaps_apart w 41 4 2 bG 1 Tryz.sizeOf2 ⟨vb,0,ak⟩ ⟨b,off+(i+1),ak⟩ 1 1 lb cb hvb tA tB kA kB hsa hsb hkB hfa hfe]
  rfl
 have hdl:(cs.drop i).length=n-i:=by rw[List.length_drop,hcl]
 have hw1:IntKind.i64.wrap ((i:Int)+1)=(i:Int)+1:=by rw[IntKind.wrap_i64];omega
 have hb1:(0:Int)<=(i:Int)+1:=by omega
 have hin:i<=n:=by omega
 have htn:((i:Int)+1).toNat=i+1:=by omega
 have hb2:¬ (c=i+1):=by omega
 have hb3:(i:Int)<=(n:Int)+1:=by omega
 have hb4:¬ (c=i):=by omega
 have hcp1:∀ dl sl ty dc sc,dl=n-i->sl=n+1-i->(Builtin.copy_ #[41,41] ty #[aj (au ⟨b,off+(i+1),ak⟩) dl dc,aj (au ⟨b,off+i,ak⟩) sl sc]).run dA w.drew=.ok (goInt (cs.drop i).length) (w.drew.setCells b (off+(i+1)) (cs.drop i)):=fun dl sl ty dc sc e1 e2 =>
  run_copy_cells w.drew _ _ ty 2 b (off+(i+1)) dl dc ⟨b,off+i,ak⟩ sl sc (cs.drop i) bG hsz (by rw[hdl];simp only[Nat.min_def];split<;>omega)
   (fun j v hj=>by rw[Addr.add_lit,Nat.add_assoc];exact hcs (i+j) v (by rwa [List.getElem?_drop] at hj))
   (fun j hj=>by rw[Nat.add_assoc];exact hsp _ (by omega)) (fun j hj=>by rw[Nat.add_assoc];exact hfz _ (by omega)) (fun v hv=>h1c v (List.mem_of_mem_drop hv))
 obtain⟨W1,hW1⟩:∃ W1,W1=w.drew.setCells b (off+(i+1)) (cs.drop i):=⟨_,rfl⟩
 have hsp1:∀ k,k<n+1->(W1.cell? ⟨b,off+k,ak⟩).isSome=aB:=fun k hk=>by
  rw[hW1];exact uD b _ _ _ (fun j hj=>by rw[Nat.add_assoc];exact hsp _ (by omega)) _ (hsp k hk)
 have hcp2:∀ (W:aI),(∀ x,W.cell? x=W1.cell? x)->(∀ x,W.frozen? x=W1.frozen? x)->∀ dl ty dc,dl=n+1-i->(Builtin.copy_ #[41,41] ty #[aj (au ⟨b,off+i,ak⟩) dl dc,aj (au ⟨vb,0,ak⟩) 1 1]).run dA W=.ok (goInt [dB aA x].length) (W.setCells b (off+i) [ah aA x]):=fun W hWc hWf dl ty dc e1 =>
  run_copy_cells W _ _ ty 2 b (off+i) dl dc ⟨vb,0,ak⟩ 1 1 [ah aA x] bG hsz (by simp only[Nat.min_def,bP,List.length_nil];split<;>omega)
   (fun j v hj => by
    rw[Addr.add_lit,hWc,hW1,World.cell?_setCells_out b _ _ _ _ (fun h _=>absurd h hvb)]
    match j,hj with
    | 0,hj=>simp at hj;rw[<- hj];exact hvs)
   (fun j hj=>by rw[hWc,Nat.add_assoc];exact hsp1 _ (by simp at hj;omega)) (fun j hj=>by rw[hWf,hW1,World.frozen?_setCells,Nat.add_assoc];exact hfz _ (by simp at hj;omega)) (by intro v hv;simp at hv;rw[hv];rfl)
 rw[<- hW1] at hcp1;clear hcs hsp hfz hvs h1c hsp1 hsa hsb hkB hfa hfe hi0 hz0 hz1 hzb hsz;go_enter Tryz.func183,Tryz.ntmps183
 go_wp2_with (simp only[hov])
 go_region_law_o (refine GL rfl _ _ 41 41 rfl _ _ (by simp[Act.eval,Act.put]) (by simp[Act.eval,Act.put]) (hcp1 _ _ _ _ _ (by omega) (by omega)) ?_)
 go_wp2_with (at_builtin;refine Ea _ rfl _ _ 41 41 rfl _ _ rfl rfl (hcp2 _ (fun _=>rfl) (fun _=>rfl) _ _ _ (by omega)) ?_)
 go_ret
 first|exact⟨rfl,rfl⟩|exact⟨rfl,by rw[hW1]⟩
theorem ad5 (b off n c i vb:Nat) (cs:List aJ) (x:Int) (w:aI) (hi:i<n) (hnc:n<=c) (hroom:c<n+1) (hbig:(n+1)*8<=140737488355328) (hcl:cs.length=n)
  (hcs:∀ j v,cs[j]?=au v->w.cell? ⟨b,off+j,ak⟩=au v) (hvs:w.cell? ⟨vb,0,ak⟩=au (ah aA x)) (h1c:∀ v∈cs,v.oneCell'=aB) :
  dF dA 183 #[aj (au ⟨b,off,ak⟩) n c,ah aA (i:Int),aj (au ⟨vb,0,ak⟩) 1 1] w fun e w' =>
   e=aK (aj (au ⟨w.heap.size,0,ak⟩) (n+1) (grownCap w (n+1) c 2)) /\
   w'=(((w.alloc (aH ((cs.take i).toArray++Builtin.zeroCells (dB aA 0).cells (n+1-i)++Builtin.zeroCells (dB aA 0).cells (grownCap w (n+1) c 2-(n+1))) 2)).drew.setCells w.heap.size i [ah aA x]).drew).setCells w.heap.size (i+1) (cs.drop i):=by
 have mixed:=iD;obtain⟨i0,hi0,hz0,hzs,hzb⟩:=jX Tryz.info2n;have hz2:¬ ((i:Int)=n):=by omega
 have hz3:(c:Int)<(n:Int)+1:=by omega
 have hsz:(Tryz.prog.info? 2).map (·.size)=au 1:=by rw[hi0];simp[hzs]
 have hbw:b<w.heap.size:=aX _ _ (hcs 0 _ (aV (by omega)))
 have hvw:=aX _ _ hvs;have hkk:(n:Int)+1-(i:Int)=((n+1-i:Nat):Int):=by omega
 have hik:i+(n+1-i)=n+1:=by omega
 have hold:(Builtin.firstCells i0.size i (aj (au ⟨b,off,ak⟩) i c)).run dA w.drew=.ok (cs.take i).toArray w.drew:=by
  rw[hzs]
  exact run_firstCells_some w.drew 1 i ⟨b,off,ak⟩ i c (cs.take i) (by rw [bM];omega) (fun j v hj => by
   rw[Addr.add_lit];rw[List.getElem?_take] at hj
   split at hj
   ·exact hcs j v hj
   ·cases hj)
 have hrz:∀ ty,(bU #[41,3] ty #[aj (au ⟨b,off,ak⟩) i c,ah aA ((n:Int)+1-(i:Int))]).run dA w =
   .ok (aj (au ⟨w.heap.size,0,ak⟩) (n+1) (grownCap w (n+1) c 2)) (w.drew.alloc (aH ((cs.take i).toArray++Builtin.zeroCells (dB aA 0).cells (n+1-i)++Builtin.zeroCells (dB aA 0).cells (grownCap w (n+1) c 2-(n+1))) 2)):=fun ty=>by
  have h:=Lib.run_append_grow_zeros w 41 3 ty 2 i0 _ aA aA bG Tryz.underlying3 hi0 hz0 (au ⟨b,off,ak⟩) i c (cs.take i) hold (n+1-i) (by omega) (by omega) (by omega) (by omega) (by rw[hzb];omega) (by rw[hzb,hik];exact growslice_fits hroom hbig)
  rw[hik] at h;rw[hkk];exact h
 obtain⟨G,hG⟩:∃ G,G=grownCap w (n+1) c 2:=⟨_,rfl⟩;obtain⟨ROW,hROW⟩:∃ ROW:Array aJ,ROW=(cs.take i).toArray++Builtin.zeroCells (dB aA 0).cells (n+1-i)++Builtin.zeroCells (dB aA 0).cells (G-(n+1)):=⟨_,rfl⟩;rw[<- hG] at hrz ⊢;rw[<- hROW] at hrz ⊢
 have hRl:n+1<=ROW.size:=by
  rw[hROW];simp[Builtin.zeroCells,Value.cells]
  omega
 obtain⟨W1,hW1⟩:∃ W1,W1=w.drew.alloc (aH ROW 2):=⟨_,rfl⟩;rw[<- hW1] at hrz
 have hN:∀ j,j<n+1->(W1.cell? ⟨w.heap.size,j,ak⟩).isSome=aB:=fun j hj=>by
  rw[hW1,World.cell?_alloc_at (w:=w.drew) ROW _ w.heap.size j rfl,Array.getElem?_eq_getElem (by omega)];rfl
 have hNf:∀ j,W1.frozen? ⟨w.heap.size,j,ak⟩=aC:=fun j=>by rw[hW1];exact World.frozen?_alloc_at (w:=w.drew) ROW _ w.heap.size j rfl
 have hOb:∀ j v,w.cell? ⟨b,j,ak⟩=au v->W1.cell? ⟨b,j,ak⟩=au v:=fun j v h=>by rw[hW1,World.cell?_alloc_past (w:=w.drew) _ b j hbw];exact h
 have hOv:∀ j v,w.cell? ⟨vb,j,ak⟩=au v->W1.cell? ⟨vb,j,ak⟩=au v:=fun j v h=>by rw[hW1,World.cell?_alloc_past (w:=w.drew) _ vb j hvw];exact h
 have hcpA:∀ (W:aI),(∀ x,W.cell? x=W1.cell? x)->(∀ x,W.frozen? x=W1.frozen? x)->∀ dl ty dc,dl=n+1-i->(Builtin.copy_ #[41,41] ty #[aj (au ⟨w.heap.size,i,ak⟩) dl dc,aj (au ⟨vb,0,ak⟩) 1 1]).run dA W=.ok (goInt [dB aA x].length) (W.setCells w.heap.size i [ah aA x]):=fun W hWc hWf dl ty dc e1 =>
  run_copy_cells W _ _ ty 2 w.heap.size i dl dc ⟨vb,0,ak⟩ 1 1 [ah aA x] bG hsz (by simp only[Nat.min_def,bP,List.length_nil];split<;>omega)
   (fun j v hj => by
    rw[Addr.add_lit,hWc]
    match j,hj with
    | 0,hj=>simp at hj;rw[<- hj];exact hOv _ _ hvs)
   (fun j hj=>by rw[hWc];exact hN _ (by simp at hj;omega)) (fun j hj=>by rw[hWf];exact hNf _) (by intro v hv;simp at hv;rw[hv];rfl)
 have hGn:n+1<=G:=by rw[hG];exact grownCap_ge w _ _ _
 have hG63:G<=9223372036854775807:=by
  have:=grownCap_le_maxLen w (n+1) c 2 (by unfold dD;omega)
  rw[<- hG] at this;unfold dD at this;omega
 have hGi:¬ (G=i):=by omega
 have hGim:¬ (G=i+1):=by omega
 have hci:¬ (c=i):=by omega
 have hbN:b≠w.heap.size:=by omega
 have hdl:(cs.drop i).length=n-i:=by rw[List.length_drop,hcl]
 have hcpB:∀ (W:aI),(∀ y,W.cell? y=(W1.setCells w.heap.size i [ah aA x]).cell? y)->(∀ y,W.frozen? y=(W1.setCells w.heap.size i [ah aA x]).frozen? y)->∀ dl sl ty dc sc,dl=n-i->sl=n-i->(Builtin.copy_ #[41,41] ty #[aj (au ⟨w.heap.size,i+1,ak⟩) dl dc,aj (au ⟨b,off+i,ak⟩) sl sc]).run dA W=.ok (goInt (cs.drop i).length) (W.setCells w.heap.size (i+1) (cs.drop i)):=fun W hWc hWf dl sl ty dc sc e1 e2 =>
  run_copy_cells W _ _ ty 2 w.heap.size (i+1) dl dc ⟨b,off+i,ak⟩ sl sc (cs.drop i) bG hsz (by rw[hdl];simp only[Nat.min_def];split<;>omega)
   (fun j v hj => by
    rw[Addr.add_lit,hWc,World.cell?_setCells_out _ _ _ _ _ (fun h _=>absurd h hbN),Nat.add_assoc]
    exact hOb _ v (hcs (i+j) v (by rwa [List.getElem?_drop] at hj)))
   (fun j hj=>by rw[hWc];exact uD _ _ _ _ (fun t ht=>hN _ (by simp at ht;omega)) _ (hN _ (by omega)))
   (fun j hj=>by rw[hWf,World.frozen?_setCells];exact hNf _) (fun v hv=>h1c v (List.mem_of_mem_drop hv))
 subst hW1;have hE1:∀ x,((w.alloc (aH ROW 2)).drew).cell? x=(w.drew.alloc (aH ROW 2)).cell? x:=fun x=>rfl
 have hE2:∀ x,((w.alloc (aH ROW 2)).drew).frozen? x=(w.drew.alloc (aH ROW 2)).frozen? x:=fun x=>rfl
 have hF1:∀ y,(((w.alloc (aH ROW 2)).drew.setCells w.heap.size i [ah aA x]).drew).cell? y=((w.drew.alloc (aH ROW 2)).setCells w.heap.size i [ah aA x]).cell? y:=fun y=>rfl
 have hF2:∀ y,(((w.alloc (aH ROW 2)).drew.setCells w.heap.size i [ah aA x]).drew).frozen? y=((w.drew.alloc (aH ROW 2)).setCells w.heap.size i [ah aA x]).frozen? y:=fun y=>rfl
 have hw1:IntKind.i64.wrap ((i:Int)+1)=(i:Int)+1:=by rw[IntKind.wrap_i64];omega
 have hb1:(0:Int)<=(i:Int)+1:=by omega
 have hin:i<=n:=by omega
 have htn:((i:Int)+1).toNat=i+1:=by omega
 have hb3:(i:Int)<=n:=by omega
 clear hkk hik hold hROW hG hRl hcs hvs h1c hN hNf hOb hOv hsz hi0 hz0 hzs hzb;go_enter Tryz.func183,Tryz.ntmps183
 go_wp2_with (first
  | (at_builtin;refine Lib.wpList_append_run _ rfl _ _ _ _ rfl _ _ rfl rfl _ _ (hrz _) ?_)
  | (at_builtin;refine Ea _ rfl _ _ 41 41 rfl _ _ rfl rfl (hcpA _ hE1 hE2 _ _ _ (by omega)) ?_))
 go_region_law_o (refine GL rfl _ _ 41 41 rfl (aj (au ⟨w.heap.size,i+1,ak⟩) (n-i) (G-(i+1))) (aj (au ⟨b,off+i,ak⟩) (n-i) (c-i)) (by simp[Act.eval,Act.put]) (by simp[Act.eval,Act.put]) (hcpB _ hF1 hF2 (n-i) (n-i) 3 (G-(i+1)) (c-i) rfl rfl) ?_)
 go_wp2;go_ret
 exact⟨rfl,rfl⟩
theorem ad6 {j: Nat} {v: aJ} (h:w.cell? ⟨b,j,ak⟩=au v):∃ t k,w.shape? b=au (t,k)/\k≠0:=by
 unfold World.cell? at h;unfold World.shape?
 split at h
 ·rename_i c t fz hb
  refine⟨t,c.size,by rw[hb],fun e=>?_⟩
  simp only[Option.isSome_none,Bool.false_eq_true,if_false] at h;rw[Array.getElem?_eq_none (by omega)] at h
  cases h
 ·cases h
theorem Tq (T:List Int) (k:Nat) (x:Int):(T.take k++x::T.drop k).map (dB aA)=(T.map (dB aA)).take k++ah aA x::(T.map (dB aA)).drop k:=by simp[List.map_take,List.map_drop]
theorem aq0 (T:List Int) (k:Nat) (x:Int) (hk:k<=T.length):(T.take k++x::T.drop k).length=T.length+1:=by simp;omega
theorem DK (b:Nat):∀ (vs:List aJ) (o:Nat) (w:aI),(w.setCells b o vs).drew=w.drew.setCells b o vs
 | [],_,_=>rfl
 | v::r,o,w=>by rw[World.setCells,World.setCells,DK b r];rfl
def aL4 (w:aI) (f:Fp) (n:Nat) (Tx:List Int) (e:Ending) (w':aI):Prop:=∃ a' c' f',e=aK (aj a' (n+1) c')/\dY.ow w' (gJ Tx) (aj a' (n+1) c') f'/\(∀ b,f' b->f b\/w.heap.size<=b)/\eX f w w'
theorem ins_any (a:Option dH) (c k:Nat) (T:List Int) (x:Int) (f:Fp) (w:aI) (h:dY.ow w (gJ T) (aj a T.length c) f) (hk:k<=T.length) (hm:T.length<=100) :
  dF dA 183 #[aj a T.length c,ah aA (k:Int),aj (au ⟨w.heap.size,0,ak⟩) 1 1] (w.alloc (aH #[ah aA x] 2)) fun e w'=>aL4 w f T.length (T.take k++x::T.drop k) e w':=by
 have h':=h;obtain⟨a1,c1,G,e,ho,hf⟩:=je.1 h'
 cases e
 have hba:=dX w (aH #[ah aA x] 2);have hxv:=Bx.new w 2 #[ah aA x];by_cases hkl:k=T.length
 ·obtain⟨a2,c2,e2,hA⟩:=nP x h (bZ hm (by decide))
  cases e2
  have hle:=ho.le;have hT:T.take k++x::T.drop k=T++[x]:=by rw[hkl,List.take_length,List.drop_length]
  rw[hT];subst hkl;have hpl:=ho.plain;have hcm:c<=9223372036854775807:=by have:=hle.2;unfold dD at this;omega
  clear h h' ho hf hxv hba hT;generalize T++[x]=Tx at *;generalize T.length=n at *;generalize hWv:w.alloc (aH #[ah aA x] 2)=Wv at *
  cases a with
  | none =>
   go_enter Tryz.func183,Tryz.ntmps183
   go_wp2_with (at_builtin;refine fG (by rfl) _ _ _ _ (by rfl) _ _ (by rfl) (by rfl) hA ⟨rfl,rfl,rfl,rfl⟩ ?_;rintro v1 w1 ⟨a1,e1,f1,rfl,q1,q2,q3⟩;have HQ:aG (dY.ow w1 (gJ Tx) (aj a1 (n+1) e1) f1/\(∀ b,f1 b->f b\/w.heap.size<=b)/\eX f w w1):=⟨q1,q2,q3⟩;clear q1 q2 q3 hA)
   go_ret
   exact⟨a1,e1,f1,rfl,HQ.out⟩
  | some ad =>
   go_enter Tryz.func183,Tryz.ntmps183
   go_wp2_with (at_builtin;refine fG (by rfl) _ _ _ _ (by rfl) _ _ (by rfl) (by rfl) hA ⟨rfl,rfl,rfl,rfl⟩ ?_;rintro v1 w1 ⟨a1,e1,f1,rfl,q1,q2,q3⟩;have HQ:aG (dY.ow w1 (gJ Tx) (aj a1 (n+1) e1) f1/\(∀ b,f1 b->f b\/w.heap.size<=b)/\eX f w w1):=⟨q1,q2,q3⟩;clear q1 q2 q3 hA)
   all_goals (go_ret;exact⟨a1,e1,f1,rfl,HQ.out⟩)
 have aA6:k<T.length:=by omega
 rcases ho with ⟨h0,_⟩|⟨g,off,rfl,ho,rfl⟩
 ·omega
 have hcl:(T.map (dB aA)).length=T.length:=List.length_map _;have hgl:=ho.blk;have e1:(w.alloc (aH #[ah aA x] 2)).heap[g]?=w.heap[g]?:=hba.block g hgl;have ho1:jE (w.alloc (aH #[ah aA x] 2)) 1 g off T.length c (T.map (dB aA)):=ho.of_block e1 (Nat.lt_of_lt_of_le hgl hba.size)
 have hcs:∀ j v,(T.map (dB aA))[j]?=au v->(w.alloc (aH #[ah aA x] 2)).cell? ⟨g,off+j,ak⟩=au v:=fun j v hj=>by
  have hjl:j<T.length:=by
   rcases Nat.lt_or_ge j T.length with h|h
   ·exact h
   ·rw[aZ (by omega)] at hj;cases hj
  rw[ho1.cell j (by omega)];exact hj
 have h1c:∀ v∈T.map (dB aA),v.oneCell'=aB:=fun v hv=>by
  obtain⟨y,_,rfl⟩:=List.mem_map.1 hv
  rfl
 have hvs:=hxv.at 0 (v:=ah aA x) rfl;have hle:=ho.le;have hmx:=ho.max;have hne:w.heap.size≠g:=by omega
 have hfg:∀ b,f b↔b=g:=fun b=>(hf b).trans ⟨fun h=>by cases h;rfl,fun h=>by rw[h]⟩
 have Gq:=aq0 T k x hk;by_cases hroom:T.length+1<=c
 ·obtain⟨tB,kB,hsb,hkB⟩:=ad6 (hcs 0 _ (aV (by omega)))
  have hsa:(w.alloc (aH #[ah aA x] 2)).shape? w.heap.size=au (2,1):=by unfold World.shape?;rw[show (w.alloc (aH #[ah aA x] 2)).heap[w.heap.size]?=_ from hxv];rfl
  refine (ad4 g off T.length c k w.heap.size (T.map (dB aA)) x _ aA6 hroom (by unfold dD at hmx;omega) hne hcl hcs (fun j hj=>ho1.some j (by omega)) (fun j hj=>ho1.free j (by omega)) hvs h1c 2 tB 1 kB hsa hsb hkB (hxv.f 0) (hxv.f 1)).mono ?_
  rintro e w' ⟨rfl,rfl⟩;obtain⟨k1,k2⟩:=ad3 (w.alloc (aH #[ah aA x] 2)).drew g off k c (T.map (dB aA)) (ah aA x) (by omega) (fun j hj=>ho1.cell j (by omega)) (fun j hj=>ho1.some j (by omega)) (by omega)
  have hW:eX (fun b=>b=g) (w.alloc (aH #[ah aA x] 2)).drew (((w.alloc (aH #[ah aA x] 2)).drew.setCells g (off+(k+1)) ((T.map (dB aA)).drop k)).setCells g (off+k) [ah aA x]):=(eX.setCells g _ _ _).trans (eX.setCells g _ _ _) (fun _ _ h=>h)
  have hbd:=hba.trans ((Same.drewN _ 1).below.mono hba.size);refine⟨au ⟨g,off,ak⟩,c,f,rfl, ?_,fun b hb=>.inl hb,((eX.of_below hbd).trans hW (fun b _ hb=>(hfg b).2 hb))⟩
  rw[<- Gq];refine je.2 ⟨au ⟨g,off,ak⟩,c,au g,rfl,.inr ⟨g,off,rfl, ?_,rfl⟩,hf⟩;rw[Gq];refine⟨by rw[List.length_map,Gq];omega,hroom,hmx,Nat.lt_of_lt_of_le (Nat.lt_of_lt_of_le hgl hbd.size) hW.size,fun j hj=>?_,fun j hj=>k2 j (by omega),fun j hj=>?_⟩
  ·rw[Tq];exact k1 j (by omega)
  ·rw[oH,oH];exact ho1.free j (by omega)
 ·refine (ad5 g off T.length c k w.heap.size (T.map (dB aA)) x _ aA6 hle (by omega) (by omega) hcl hcs hvs h1c).mono ?_
  rintro e w' ⟨rfl,rfl⟩;have hGn:T.length+1<=grownCap (w.alloc (aH #[ah aA x] 2)) (T.length+1) c 2:=grownCap_ge _ _ _ _;have hGm:grownCap (w.alloc (aH #[ah aA x] 2)) (T.length+1) c 2<=dD:=grownCap_le_maxLen _ _ _ _ (by unfold dD;omega)
  generalize grownCap (w.alloc (aH #[ah aA x] 2)) (T.length+1) c 2=GG at *;generalize hWv:w.alloc (aH #[ah aA x] 2)=Wv at *;generalize hROW:((T.map (dB aA)).take k).toArray++Builtin.zeroCells (dB aA 0).cells (T.length+1-k)++Builtin.zeroCells (dB aA 0).cells (GG-(T.length+1))=ROW at *
  have hRs:ROW.size=GG:=by
   rw[<- hROW];simp[Builtin.zeroCells,Value.cells]
   omega
  have hR0:∀ j,j<k->ROW[j]?=(T.map (dB aA))[j]?:=fun j hj=>by
   rw[<- hROW,Array.getElem?_append_left (by simp[Builtin.zeroCells,Value.cells];omega),Array.getElem?_append_left (by simp;omega)]
   simp[List.getElem?_take,hj]
  have hxN:Bx (Wv.alloc (aH ROW 2)).drew Wv.heap.size 2 ROW:=Bx.new Wv 2 ROW;obtain⟨k1,k2⟩:=aA5 (Wv.alloc (aH ROW 2)).drew Wv.heap.size 0 k GG (T.map (dB aA)) (ah aA x) (by omega) (fun j hj=>by rw[Nat.zero_add,hxN.cell j];exact hR0 j hj) (fun j hj=>by rw[Nat.zero_add,hxN.cell j,Array.getElem?_eq_getElem (by omega)];rfl) (by omega)
  simp only[Nat.zero_add] at k1 k2;have hW:eX (fun b=>b=Wv.heap.size) (Wv.alloc (aH ROW 2)).drew ((((Wv.alloc (aH ROW 2)).drew.setCells Wv.heap.size k [ah aA x]).drew).setCells Wv.heap.size (k+1) ((T.map (dB aA)).drop k)):=((eX.setCells _ _ _ _).trans (eX.of_below (Same.drewN _ 1).below) (fun _ _ h=>h)).trans (eX.setCells _ _ _ _) (fun _ _ h=>h)
  have hb2:Below Wv.heap.size Wv (Wv.alloc (aH ROW 2)).drew:=(dX Wv _).trans ((Same.drewN _ 1).below.mono (dX Wv _).size);have hbd:Below w.heap.size w (Wv.alloc (aH ROW 2)).drew:=eU hba hb2;have hB9:=hW.below hbd hbd.size (fun b hb=>by rw[hb];exact hba.size)
  refine⟨au ⟨Wv.heap.size,0,ak⟩,GG,fun b=>b=Wv.heap.size,rfl, ?_,fun b hb=>.inr (by rw[hb];exact hba.size),eX.of_below hB9⟩
  rw[<- Gq];refine je.2 ⟨au ⟨Wv.heap.size,0,ak⟩,GG,au Wv.heap.size,rfl,.inr ⟨Wv.heap.size,0,rfl, ?_,rfl⟩,fun b=>⟨fun h=>by rw[h],fun h=>by cases h;rfl⟩⟩
  rw[Gq];refine⟨by rw[List.length_map,Gq];omega,hGn,hGm,Nat.lt_of_lt_of_le hxN.lt hW.size,fun j hj=>?_,fun j hj=>?_,fun j hj=>?_⟩
  ·rw[Tq,Nat.zero_add,<- DK];exact k1 j (by omega)
  ·rw[Nat.zero_add,<- DK];exact k2 j (by omega)
  ·rw[oH]
   show (((Wv.alloc (aH ROW 2)).drew.setCells Wv.heap.size k [ah aA x]).frozen? _)=aC
   rw[oH];exact hxN.f _
theorem Me:∀ {l:List Int} {x:Int},l.Pairwise (·<·)->x∈l->gV l x=l
 | y::l,x,h,hx=>by
  obtain⟨h1,h2⟩:=List.pairwise_cons.1 h;rw[gV];rcases bW.1 hx with e|hx
  ·rw[if_neg (by omega),if_pos e.symm]
  ·rw[if_pos (h1 x hx),Me h2 hx]
def lD (i:Nat) (r:Rw) (S:List Int) (k:Nat):Rw:={ r with wed:=aB,dQ:=kF i r.dQ (S.take k) }
theorem aq1 {nn: Nat} {r: Rw} (hr:iR r nn) (hS:∀ x∈S,0<=x/\x<(nn:Int)) (k:Nat):(lD i r S k).dQ.Pairwise (·<·)/\(∀ x∈(lD i r S k).dQ,0<=x/\x<(nn:Int))/\(lD i r S k).dQ.length<=5:=by
 have h1:(lD i r S k).dQ.Pairwise (·<·):=Dy (kZ.1 hr.oL)
 have h2:∀ x∈(lD i r S k).dQ,0<=x/\x<(nn:Int):=fun x hx=>by
  rcases wJ.1 hx with h|⟨h,_⟩
  ·exact hr.dQ x h
  ·exact hS x (List.mem_of_mem_take h)
 have h5:=hr.n5;exact⟨h1,h2,bZ (AU (k:=nn) h1 h2) h5.2⟩
theorem XM {Y: aI} {a: Option dH} (h:Vec X a S.length S) (hb:∀ b o,a=au ⟨b,o,ak⟩->S≠[]->Y.heap[b]?=X.heap[b]?):Vec Y a S.length S:=by
 obtain⟨h1,h2,h3⟩:=h;refine⟨h1,h2, ?_⟩;rcases h3 with h3|⟨b,o,e,h3⟩
 ·exact .inl h3
 ·by_cases hn:S=[]
  ·exact .inl (by rw[hn];rfl)
  ·exact .inr ⟨b,o,e,fun j hj=>(bf (hb b o e hn)).trans (h3 j hj)⟩
theorem Tt (B i n g off c nn:Nat) (r:Rw) (f:Fp) (S:List Int) (a:Option dH) (sc:Nat) (X:aI) (h:iP X g (off+i*8) (jo r) f) (hBg:B≠g) (hfB:¬ f B) (c0:X.cell? ⟨B,0,ak⟩=au (ah aA (i:Int))) (c1:X.cell? ⟨B,1,ak⟩=au (aj (au ⟨g,off,ak⟩) n c)) (hi:i<n)
  (hv:Vec X a S.length S) (hvb:∀ b o,a=au ⟨b,o,ak⟩->S≠[]->¬ f b/\b≠g) (hr:iR r nn) (hS:∀ x∈S,0<=x/\x<(nn:Int)) (hSl:S.length<=100) :
  dF dA 169 #[aO (au ⟨B,0,ak⟩),aj a S.length sc] X fun e w'=>e=aK (.tuple #[])/\fH X w' g (off+i*8) (jo (lD i r S S.length)) f:=by
 have qR:=nY B i n g off c X c0 c1 hi;have HP:=dP h;have HV:=dP hv;have HVB:=dP hvb;have wV:=dP c0;have HW:aG (∀ k,(lD i r S k).dQ.Pairwise (·<·)/\(∀ x∈(lD i r S k).dQ,0<=x/\x<(nn:Int))/\(lD i r S k).dQ.length<=5):=fun k=>aq1 hr hS k
 have H5:=dP hr.n5;have uI:=dP hS;have hBlt:=aX _ _ c0;clear h hv hvb c0 c1 hr hS;go_enter Tryz.func169,Tryz.ntmps169
 go_wp2_with fail
 refine qR.mono ?_;rintro e XA ⟨rfl,uh⟩;obtain⟨u4,f4,XO,hz4,⟨rfl,hf4⟩,hs4,hn4,aj1⟩:=(HP.out.below uh).at (j:=4) rfl;obtain⟨_,_,B4,_⟩:=aj1 XA (.v (aF aB)) (aF aB) (fun _=>False) (eX.refl _ _) ⟨rfl,fun _ h=>h⟩ (fun b hb=>hb.elim)
 have HB4:=dP (B4.first uh HP.out.lt HP.out.flt)
 clear aj1 B4 hs4 hn4 hf4 qR;go_upto_region 3 with fail
 generalize XA.setCell ⟨g,off+i*8+4,ak⟩ (aF aB)=W4 at *;clear XO hz4 uh
 go_loopw [16] (fun v wr=>∃ k:Nat,k<=S.length/\v=ah aA (k:Int)/\fH X wr g (off+i*8) (jo (lD i r S k)) f) (fun v _=>S.length-(dG v).toNat)
 case atStart=>exact⟨0,cZ _,rfl,HB4.out⟩
 case round =>
  obtain⟨k,hk,rfl,hB⟩:=hrel;have HB:=dP hB;clear HB4;by_cases hlt:k<S.length
  ·have hne:S≠[]:=fun e=>by rw[e] at hlt;simp at hlt
   have hvw := XM HV.out (fun b o e hn => hB.wrt.block b (by
    rcases HV.out.2.2 with h|⟨b',o',e',h⟩
    ·omega
    ·rw[e'] at e;cases e;exact aX _ _ (h k hlt)) (fun kk=>by have:=HVB.out b o e hn;rcases kk with kk|kk;exact this.1 kk;exact this.2 kk))
   rcases hvw.2.2 with h0|⟨sb,so,rfl,hsc⟩
   ·omega
   have hck:=hsc k hlt;have b0:wr.cell? ⟨B,0,ak⟩=au (ah aA (i:Int)):=(bf (hB.wrt.block B hBlt (fun kk=>by rcases kk with kk|kk;exact hfB kk;exact hBg kk))).trans wV.out
   obtain⟨gU,hp1,hf1,hgo⟩:=hB.next;obtain⟨u,f3,hu,hz,how,hsub,hn3,hset⟩:=hp1.at (j:=3) rfl;have how':=how;obtain⟨sa,sac,_,rfl,_⟩:=je.1 how';obtain⟨w1,w2,w3⟩:=HW.out k;have h5:=H5.out;have hfit:Fits (lD i r S k).dQ:=fun x hx=>by have:=w2 x hx;omega
   have hBs:=aA4 sa sac (lD i r S k).dQ (el S k) wr (lW how' hfit) (by omega) w1
   have hT:=F9 (id:=i) (s:=r.dQ) hlt;have k0:(0:Int)<=k:=by omega
   have k1:(k:Int)<S.length:=by omega
   have BQ:aG (el S k=(i:Int)->lD i r S (k+1)=lD i r S k):=fun e=>by rw[lD,hT,if_pos e];rfl
   have yT:aG (el S k≠(i:Int)->el S k∈(lD i r S k).dQ->lD i r S (k+1)=lD i r S k):=fun e hm=>by
    rw[lD,hT,if_neg e,show gV (kF i r.dQ (S.take k)) (el S k)=kF i r.dQ (S.take k) from Me w1 hm]
    rfl
   have HN3:aG (el S k≠(i:Int)->lD i r S (k+1)={ lD i r S k with dQ:=gV (lD i r S k).dQ (el S k) }):=fun e=>by rw[lD,hT,if_neg e];rfl
   have hx0:0<=el S k/\el S k<5:=by have:=uI.out _ (kK hlt);omega
   have Ku:aG (∀ (w1:aI) (c':dY) (u':aJ) (f':Fp),eX f3 wr w1->dY.ow w1 c' u' f'->(∀ b,f' b->f3 b\/wr.heap.size<=b)->w1.cell? ⟨g,off+i*8+3,ak⟩=au (aj sa (lD i r S k).dQ.length sac)/\w1.frozen? ⟨g,off+i*8+3,ak⟩=aC/\fH X (w1.setCell ⟨g,off+i*8+3,ak⟩ u') g (off+i*8) ((jo (lD i r S k)).set 3 c') f):=fun w1 c' u' f' q1 q2 q3=>by
    obtain⟨p1,p2,p3,_⟩:=hset w1 c' u' f' q1 q2 q3;exact⟨p1,p2,hgo _ _ (by simp) p3⟩
   have rP:=dP how';clear hvw hsc hB hp1 hf1 hgo hset how how' hsub hn3 hfit hT w1 w2;generalize hwd:lD i r S k=rk at *;generalize el S k=x at *;by_cases hin:x∈rk.dQ
   ·have HE:aG (lD i r S (k+1)=rk):=by
     by_cases e:x=(i:Int)
     ·exact BQ.out e
     ·exact yT.out e hin
    rw[decide_eq_true hin] at hBs;clear hin;go_wp2_with (go_at_call 182;refine hBs.mono ?_;rintro e w' ⟨kk,hkk,rfl,hw',_⟩;rw[hw'];clear hw')
    go_roundw
    case rel=>exact⟨k+1,by omega,by go_num,by rw[HE.out];exact HB.out⟩
    case measure=>simp[dG];omega
   rw[decide_eq_false hin] at hBs;by_cases e:x=(i:Int)
   ·have HE:aG (lD i r S (k+1)=rk):=BQ.out e
    have e':(x != (i:Int))=aC:=by simp[e]
    clear hin e;go_wp2_with (go_at_call 182;refine hBs.mono ?_;rintro e w' ⟨kk,hkk,rfl,hw',_⟩;rw[hw'];clear hw')
    go_roundw
    case rel=>exact⟨k+1,by omega,by go_num,by rw[HE.out];exact HB.out⟩
    case measure=>simp[dG];omega
   have HE:=dP (HN3.out e);have e':(x != (i:Int))=aB:=by simp[e]
   have MB:=dP hin;have HM:aG (rk.dQ.length<=100):=by rw[aG];omega
   clear hin e;go_upto_region 7 with (go_at_call 182;refine hBs.mono ?_;rintro e w' ⟨kk,hkk,rfl,hw',hput⟩;rw[hw'];clear hw')
   have hpt:=hput MB.out;have hIn:=ins_any sa sac kk rk.dQ x f3 wr rP.out hkk HM.out;rw[hpt] at hIn;clear hput hpt hBs;go_wp2_with (go_at_call 183;refine hIn.mono ?_;rintro e w9 ⟨a9,c9,f9,rfl,o9,p9,q9⟩;obtain⟨z1,z2,hB9⟩:=Ku.out w9 (gJ (gV rk.dQ x)) (aj a9 (rk.dQ.length+1) c9) f9 q9 o9 p9;have Bg:aG (fH X (w9.setCell ⟨g,off+i*8+3,ak⟩ (aj a9 (rk.dQ.length+1) c9)) g (off+i*8) ((jo rk).set 3 (gJ (gV rk.dQ x))) f):=hB9;clear o9 p9 q9 hB9 hIn hu hz)
   go_roundw
   case rel=>exact⟨k+1,by omega,by go_num,by rw[HE.out];exact Bg.out⟩
   case measure=>simp[dG];omega
  ·have k1:¬ ((k:Int)<S.length):=by omega
   obtain rfl:k=S.length:=by omega
   clear hB;go_wp2
   first|go_end0|go_ret
   exact⟨rfl,HB.out⟩
theorem Iw.own {B: Nat} {fp: Fp} {g off c: Nat} (h:Iw w X B m fp g off c) (hi:i<m.rows.length):∃ f,iP X g (off+i*8) (jo (dO m.rows i)) f/\B≠g/\¬ f B/\(∀ b,f b->b<X.heap.size)/\g<X.heap.size/\∀ (X1 Y:aI) (r:Rw),Below X.heap.size X X1->fH X1 Y g (off+i*8) (jo r) f->Iw w Y B { m with rows:=m.rows.set i r } fp g off c:=by
 obtain⟨gU,hp,hf1,hgo⟩:=h.iw.next;obtain⟨g',off',c',f,h1,hgB,hfg,hfs,hpl,hput⟩:=hp.el (F:=jo) jU (by omega) (j:=1) (L:=m.rows) rfl (iV hi)
 have e:=bT (h1.symm.trans h.rws)
 cases e
 have hfB:¬ f B:=fun hb=>hp.nB (hfs B hb)
 refine⟨f,hpl,fun e=>hgB e.symm,hfB,hpl.flt,hpl.lt,fun X1 Y r hb hB=>?_⟩
 have hB1:=hB.first hb hpl.lt hpl.flt
 refine⟨hgo Y _ rfl (hput Y r hB1), ?_⟩;rw[bf (hB1.wrt.block B hp.lt (fun kk=>by rcases kk with kk|kk;exact hfB kk;exact hgB kk.symm)),h.rws]
 simp
theorem XP {n: Nat} (ok:iO m i n) (who:Int) (hd:m.done=aC):(ng i n (dO m.rows i).dQ who=aC->(fJ m who).2=aC)/\(ng i n (dO m.rows i).dQ who=aB->(dO m.rows i).ver=1000000->(fJ m who).2=aC)/\(ng i n (dO m.rows i).dQ who=aB->(dO m.rows i).ver≠1000000->fJ m who=({ m with rows:=m.rows.set i { lD i (dO m.rows i) [who] 1 with ver:=(dO m.rows i).ver+1 } },aB)):=by
 have e:m.i=i:=by unfold Mb.i;rw[ok.hid];rfl
 have key:ng i n (dO m.rows i).dQ who=aB↔¬ (inB who 0 (m.n-1)=aC\/who=m.id\/who∈(dO m.rows i).dQ):=by
  unfold ng;rw[ok.hn,ok.hid];simp only[bI,decide_eq_true_eq,not_or,Bool.not_eq_false]
  exact⟨fun h=>⟨h.2.1,h.1,h.2.2⟩,fun h=>⟨h.2.1,h.1,h.2.2⟩⟩
 unfold fJ;rw[Mb.own,e];refine⟨fun h=>?_,fun h hv=>?_,fun h hv=>?_⟩
 ·rw[if_pos]
  have:¬ ¬ (inB who 0 (m.n-1)=aC\/who=m.id\/who∈(dO m.rows i).dQ):=fun hn=>by rw[key.2 hn] at h;cases h
  rcases Classical.not_not.1 this with h|h|h
  ·exact .inl h
  ·exact .inr (.inl h)
  ·exact .inr (.inr (.inl h))
 ·rw[if_pos (.inr (.inr (.inr (.inr hv))))]
 ·have hk:=key.1 h
  simp only[not_or] at hk;rw[if_neg (by rintro (h|h|h|h|h);exact hk.1 h;exact hk.2.1 h;exact hk.2.2 h;rw[hd] at h;cases h;exact hv h)]
  have hw:kF i (dO m.rows i).dQ ([who].take 1)=gV (dO m.rows i).dQ who:=by
   show (if who=(i:Int) then _ else gV (dO m.rows i).dQ who)=_
   rw[if_neg (by rw[<- ok.hid];exact hk.2.1)]
  rw[lD,hw,Mb.put,e]
theorem aq2 (B:Nat) (m:Mb) (i n:Nat) (who:Int) (fp:Fp) (w:aI) (h:iP w B 0 (lH m) fp) (ok:iO m i n) (hd:m.done=aC) :
  dF dA 161 #[aO (au ⟨B,0,ak⟩),ah aA who] w fun e w'=>((fJ m who).2=aB/\e=aK (.tuple #[])/\fH w w' B 0 (lH (fJ m who).1) fp)\/((fJ m who).2=aC/\Gu e/\∃ m1,fH w w' B 0 (lH m1) fp):=by
 have hil:i<m.rows.length:=by rw[ok.len];exact ok.lt
 have jq:=ok.n5;obtain⟨g,off,c,M0⟩:=Iw.start h (by omega)
 obtain⟨c0,c3⟩:=M0.id';have c1:=M0.rws;rw[ok.hid] at c0;obtain⟨Ak,⟨⟨d0,d1,d2,d3⟩,d4,d5,d6,d7⟩,hrs⟩:=M0.row ok.fit hil;have hO:=J7 B i n g off c Ak.sa Ak.sc (dO m.rows i).dQ who w c0 (by rw[<- ok.len];exact c1) ok.lt jq.2 d3 hrs.dQ hrs.ms
 have kQ:aG (Iw w w B m fp g off c):=M0;obtain⟨p1,p2,p3⟩:=XP ok who hd;have HD:aG ((ng i n (dO m.rows i).dQ who=aC->(fJ m who).2=aC)/\(ng i n (dO m.rows i).dQ who=aB->(dO m.rows i).ver=1000000->(fJ m who).2=aC)/\(ng i n (dO m.rows i).dQ who=aB->(dO m.rows i).ver≠1000000->fJ m who=({ m with rows:=m.rows.set i { lD i (dO m.rows i) [who] 1 with ver:=(dO m.rows i).ver+1 } },aB))):=⟨p1,p2,p3⟩
 clear M0 h c0 c1 c3 d0 d1 d2 d3 d4 d5 d6 d7 hrs p1 p2 p3
 cases e1:ng i n (dO m.rows i).dQ who with
 | false =>
  have HZ:aG ((fJ m who).2=aC):=HD.out.1 e1;rw[e1] at hO;go_enter Tryz.func161,Tryz.ntmps161
  go_wp2_with (first|(go_at_call 177;refine hO.mono ?_;rintro e wA ⟨rfl,uh⟩;have HG:aG (∃ m1,fH w wA B 0 (lH m1) fp):=⟨m,(kQ.out.step uh).iw⟩;clear uh)|(go_at_call 86;refine (rG _).mono ?_;rintro e w' ⟨⟨T,v,rfl⟩,hw'⟩;rw[hw'];clear hw'))
  exact⟨rfl,.inr ⟨HZ.out,⟨_,_,rfl⟩,HG.out⟩⟩
 | true =>
 have Rt:aG (ng i n (dO m.rows i).dQ who=aB):=e1
 have hwho:0<=who/\who<(n:Int):=by
  unfold ng at e1;simp only[bI] at e1;have:=iZ.1 e1.2.1;omega
 rw[e1] at hO;clear e1;go_enter Tryz.func161,Tryz.ntmps161
 go_upto_region 1 with (first|(go_at_call 177;refine hO.mono ?_;rintro e wA ⟨rfl,uh⟩;have fU:aG (Iw w wA B m fp g off c):=kQ.out.step uh;clear uh)|(go_at_call 86;refine fV (wW _) ?_))
 obtain⟨f,hpl,hBg,hfB,hfl,hgl,hput⟩:=fU.out.own hil;have hba:=dX wA (aH #[ah aA who] 2);have hxv:=Bx.new wA 2 #[ah aA who];obtain⟨c0,_⟩:=(fU.out.step hba).id';have c1:=(fU.out.step hba).rws;rw[ok.hid] at c0
 have hV : Vec (wA.alloc (aH #[ah aA who] 2)) (au ⟨wA.heap.size,0,ak⟩) [who].length [who] := ⟨rfl,fun x hx => by rw [List.mem_singleton.1 hx];omega,.inr ⟨wA.heap.size,0,rfl,fun j hj => by
  match j,hj with
  | 0,_=>exact hxv.at 0 rfl⟩⟩
 have hWd:=Tt B i m.rows.length g off c n (dO m.rows i) f [who] (au ⟨wA.heap.size,0,ak⟩) 1 _ (hpl.below hba) hBg hfB c0 c1 hil hV (fun b o e _=>by cases e;exact⟨fun k=>by have:=hfl _ k;omega,by omega⟩) (ok.ok i ok.lt) (fun x hx=>by rw[List.mem_singleton.1 hx];exact hwho) (by simp)
 have Qg:dF dA 169 #[aO (au ⟨B,0,ak⟩),aj (au ⟨wA.heap.size,0,ak⟩) 1 1] (wA.alloc (aH #[ah aA who] 2)) fun e w'=>e=aK (.tuple #[])/\Iw w w' B { m with rows:=m.rows.set i (lD i (dO m.rows i) [who] 1) } fp g off c:=hWd.mono (fun e w' h=>⟨h.1,hput _ w' _ hba h.2⟩)
 clear hWd hpl hput hba hxv c0 c1 hV hfl;go_upto_region 2 with (go_at_call 169;refine Qg.mono ?_;rintro e wB ⟨rfl,hM2⟩;have jk:aG (Iw w wB B { m with rows:=m.rows.set i (lD i (dO m.rows i) [who] 1) } fp g off c):=hM2;clear hM2)
 clear Qg;have tH:i<(m.rows.set i (lD i (dO m.rows i) [who] 1)).length:=by rw[bQ];exact hil
 obtain⟨c0,_⟩:=jk.out.id';simp only at c0
 rw[ok.hid] at c0;have c1:=jk.out.rws;simp only[bQ] at c1;have qR:=nY B i m.rows.length g off c wB c0 c1 hil;have hs2:dO (m.rows.set i (lD i (dO m.rows i) [who] 1)) i=lD i (dO m.rows i) [who] 1:=iY hil;have hvb:=(ok.ok i ok.lt).ver
 have HFin:aG (∀ wC,Below wB.heap.size wB wC->wC.cell? ⟨g,off+i*8,ak⟩=au (ah aA (dO m.rows i).ver)/\wC.frozen? ⟨g,off+i*8,ak⟩=aC/\(∃ m1,fH w wC B 0 (lH m1) fp)/\fH w (wC.setCell ⟨g,off+i*8,ak⟩ (ah aA ((dO m.rows i).ver+1))) B 0 (lH { m with rows:=m.rows.set i { lD i (dO m.rows i) [who] 1 with ver:=(dO m.rows i).ver+1 } }) fp):=fun wC hb=>by
  have M3:=jk.out.step hb;obtain⟨v1,v2,qQ⟩:=M3.put tH (j:=0) (x:=ah aA (dO m.rows i).ver) (y:=ah aA ((dO m.rows i).ver+1)) (r':={ lD i (dO m.rows i) [who] 1 with ver:=(dO m.rows i).ver+1 }) (by simp only[hs2];rfl) (by simp only[hs2];rfl)
  simp only[Nat.add_zero,List.set_set] at v1 v2 qQ;exact⟨v1,v2,⟨_,M3.iw⟩,qQ.iw⟩
 clear c0 c1 hs2 tH;by_cases kC:(dO m.rows i).ver=1000000
 ·have HZ:aG ((fJ m who).2=aC):=HD.out.2.1 Rt.out kC
  go_wp2_with (first|(go_at_call 140;refine qR.mono ?_;rintro e wC ⟨rfl,hbC⟩;obtain⟨v1,v2,hG,_⟩:=HFin.out wC hbC;have HG:aG (∃ m1,fH w wC B 0 (lH m1) fp):=hG;have Jz:=ap4 g (off+i*8) (dO m.rows i).ver wC v1 (by omega);clear hbC hG v1 v2)|(go_at_call 148;refine Jz.mono ?_;rintro e w' ⟨⟨T,v,rfl⟩,hw'⟩;rw[hw'];clear hw'))
  exact⟨rfl,.inr ⟨HZ.out,⟨_,_,rfl⟩,HG.out⟩⟩
 ·have HZ:aG (fJ m who=({ m with rows:=m.rows.set i { lD i (dO m.rows i) [who] 1 with ver:=(dO m.rows i).ver+1 } },aB)):=HD.out.2.2 Rt.out kC
  go_wp2_with (first|(go_at_call 140;refine qR.mono ?_;rintro e wC ⟨rfl,hbC⟩;obtain⟨v1,v2,_,hG⟩:=HFin.out wC hbC;have HG:aG (fH w (wC.setCell ⟨g,off+i*8,ak⟩ (ah aA ((dO m.rows i).ver+1))) B 0 (lH { m with rows:=m.rows.set i { lD i (dO m.rows i) [who] 1 with ver:=(dO m.rows i).ver+1 } }) fp):=hG;have Jz:=Kr g (off+i*8) (dO m.rows i).ver wC v1 v2 (by omega) (by omega);clear hbC hG v1 v2)|(go_at_call 148;refine Jz.mono ?_;rintro e w' ⟨rfl,hw'⟩;rw[hw'];clear hw'))
  first|go_end0|go_ret
  rw[HZ.out];exact .inl ⟨rfl,rfl,HG.out⟩
def I64 (x:Int):Prop:=-9223372036854775808<=x/\x<=9223372036854775807
def XQ:Prop:=∀ (a:Option dH) (len cap:Nat) (cs:List Int) (w:aI),Vec w a len cs->len<=cap->cap<=dD->dF dA 58 #[aj a len cap] w fun e w'=>∃ Z,nX cs Z/\Dj w w' e Z
end Go.Proofs.YtafimeakbdmkjaaGreat