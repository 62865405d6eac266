/-
  Texts in one.
-/
import Derived.Test.YtafimeakbdmkjaaGreatZam
import Derived.Test.YtafimeakbdmkjaaGreatZak
import Derived.Test.YtafimeakbdmkjaaGreatZal
import Derived.Test.YtafimeakbdmkjaaGreatZaa
import Derived.Test.YtafimeakbdmkjaaGreatZab
import Derived.Test.YtafimeakbdmkjaaGreatZac
import Derived.Deep.CutRange
import Derived.Deep.CutBlock
import Derived.Defers
import Derived.Recover
import Derived.BigQuiet
import Derived.Stop.Asserts
namespace Go.Proofs.YtafimeakbdmkjaaGreat
set_option linter.unusedVariables false
set_option linter.unusedSimpArgs false
open Go.RowKit Go.Sort
set_option maxRecDepth 100000
set_option maxHeartbeats 12800000
section
def vF (x:Ac):Prop:=az7 x∧x.txt.length≤1000
theorem xR {k a b:Int} {t:List UInt8} (h1:eH k) (h2:eH a) (h3:eH b) (h4:t.length≤1000):vF ⟨k,a,b,t⟩:=⟨⟨h1,h2,h3⟩,h4⟩
def av9 (w X X':World) (p:Nat) (a:Option Addr) (len cap:Nat) (bs:Nat→Int) (e:Ending):Prop:=∃ x,e=.returned (nZ x)∧vF x∧Cc w X' p a len cap bs∧X.grownBy X' (some p)
theorem aw0 (w:World) (g:Nat) {a b c d:Value}:aO (fun x=>x=g) w ((((w.setCell ⟨g,0,none⟩ a).setCell ⟨g,1,none⟩ b).setCell ⟨g,2,none⟩ c).setCell ⟨g,3,none⟩ d) :=
 (((aO.set w g 0 a).trans (aO.set _ g 1 b) (fun _ _ h=>h)).trans (aO.set _ g 2 c) (fun _ _ h=>h)).trans (aO.set _ g 3 d) (fun _ _ h=>h)
theorem Bx.fa4 {w:World} {B:Nat} {T:TypeId} {cs:Array Value} (h:Bx w B T cs):w.frozen? ⟨B,0,none⟩=false∧w.frozen? ⟨B,1,none⟩=false∧w.frozen? ⟨B,2,none⟩=false∧w.frozen? ⟨B,3,none⟩=false:=⟨h.f 0,h.f 1,h.f 2,h.f 3⟩
def DA (w X Y:World) (p:Nat) (a:Option Addr) (len cap:Nat) (bs:Nat→Int) (o:Nat) (x:Ac):Prop:=SD w X Y p a len cap bs 38 o #[.int .i64 0,.int .i64 0,.int .i64 0,.string ⟨#[]⟩] (pR x) [] [] (fun _=>False)
section
variable {w X Y Y':World} {p:Nat} {a:Option Addr} {len cap:Nat} {bs:Nat→Int} {o:Nat} {x:Ac}
theorem DA.pU (h:DA w X Y p a len cap bs o x) (k:Int):DA w X (Y.setCell ⟨o,0,none⟩ (.int .i64 k)) p a len cap bs o { x with kind:=k }:=by
 have:=SD.set h 0 (.int .i64 k);simpa[DA,pR] using this
theorem DA.Ws (h:DA w X Y p a len cap bs o x) (k:Int):DA w X (Y.setCell ⟨o,1,none⟩ (.int .i64 k)) p a len cap bs o { x with a:=k }:=by
 have:=SD.set h 1 (.int .i64 k);simpa[DA,pR] using this
theorem DA.Wu (h:DA w X Y p a len cap bs o x) (t:List UInt8):DA w X (Y.setCell ⟨o,3,none⟩ (.string (sv t))) p a len cap bs o { x with txt:=t }:=by
 have:=SD.set h 3 (.string (sv t));simpa[DA,pR] using this
theorem DA.drawn (h:DA w X Y p a len cap bs o x) (hg:Y.grownBy Y' (some p)) (hc:Cc w Y' p a len cap bs):DA w X Y' p a len cap bs o x:=SD.drawn h hg hc
theorem DA.step (h:DA w X Y p a len cap bs o x) (hb:Below Y.heap.size Y Y'):DA w X Y' p a len cap bs o x:=SD.step h hb
theorem DA.cells (h:DA w X Y p a len cap bs o x):Y.cell? ⟨o,0,none⟩=some (.int .i64 x.kind)∧Y.cell? ⟨o,1,none⟩=some (.int .i64 x.a)∧Y.cell? ⟨o,2,none⟩=some (.int .i64 x.b)∧Y.cell? ⟨o,3,none⟩=some (.string (sv x.txt)):=Bx.a4 (SD.own h)
theorem DA.fr (h:DA w X Y p a len cap bs o x):Y.frozen? ⟨o,0,none⟩=false∧Y.frozen? ⟨o,1,none⟩=false∧Y.frozen? ⟨o,2,none⟩=false∧Y.frozen? ⟨o,3,none⟩=false:=Bx.fa4 (SD.own h)
theorem DA.cc (h:DA w X Y p a len cap bs o x):Cc w Y p a len cap bs:=SD.cc h
end
def FinA (w X Y:World) (p:Nat) (a:Option Addr) (len cap:Nat) (bs:Nat→Int):Prop:=∀ (x0 x1 x2 x3:Value),Cc w ((((Y.setCell ⟨X.heap.size,0,none⟩ x0).setCell ⟨X.heap.size,1,none⟩ x1).setCell ⟨X.heap.size,2,none⟩ x2).setCell ⟨X.heap.size,3,none⟩ x3) p a len cap bs∧X.grownBy ((((Y.setCell ⟨X.heap.size,0,none⟩ x0).setCell ⟨X.heap.size,1,none⟩ x1).setCell ⟨X.heap.size,2,none⟩ x2).setCell ⟨X.heap.size,3,none⟩ x3) (some p)
theorem DA.fin {w X Y:World} {p:Nat} {a:Option Addr} {len cap:Nat} {bs:Nat→Int} {o:Nat} {x:Ac} (h:DA w X Y p a len cap bs o x):FinA w X Y p a len cap bs:=fun x0 x1 x2 x3=>by
 obtain⟨_,_,h1,h2⟩:=SD.ans h (aw0 Y X.heap.size (a:=x0) (b:=x1) (c:=x2) (d:=x3));exact⟨h1,h2⟩
attribute [local irreducible] sv
theorem QB (N:Nat) (n:Int) (hN:n=(N:Int)) (hN1:1≤N) (Oo:N≤5) {w X:World} {p:Nat} {a:Option Addr} {len cap:Nat} {bs:Nat→Int} (h:Cc w X p a len cap bs) :
  Calls Tryz.prog 65 #[.pointer (some ⟨p,0,none⟩),.int .i64 n] X fun e X'=>av9 w X X' p a len cap bs e:=by
 subst hN;have BJ:=h.lt;have hwp:=h.hp;have Gn:Hid ((⟨#[]⟩:ByteArray)=sv []):=by rw[Hid];unfold sv;rfl
 have b0:=aF X (.cells #[.int .i64 0,.int .i64 0,.int .i64 0,.string ⟨#[]⟩] 38);have HR0:Hid (Bx (X.alloc (.cells #[.int .i64 0,.int .i64 0,.int .i64 0,.string ⟨#[]⟩] 38)) X.heap.size 38 #[.int .i64 0,.int .i64 0,.int .i64 0,.string ⟨#[]⟩]):=Bx.new X _ _;have su:Hid (Cc w (X.alloc (.cells #[.int .i64 0,.int .i64 0,.int .i64 0,.string ⟨#[]⟩] 38)) p a len cap bs):=h.step b0;have mP:Hid (X.grownBy (X.alloc (.cells #[.int .i64 0,.int .i64 0,.int .i64 0,.string ⟨#[]⟩] 38)) (some p)):=⟨b0.os,b0.tape,b0.output,b0.size,fun x hx _=>b0.block x hx⟩
 clear h b0;generalize xG:X.alloc (.cells #[.int .i64 0,.int .i64 0,.int .i64 0,.string ⟨#[]⟩] 38)=W0 at *;go_enter Tryz.func65,Tryz.ntmps65
 go_wp2_with fail
 refine (fQ N (N:Int) rfl su.out hN1 (by omega)).mono ?_
 rintro e W1 ⟨xa,rfl,hxa,c1,g1⟩;have xM:=aj c1;have kU:=aj (bf mP.out g1);have HR1:Hid (Bx W1 X.heap.size 38 #[.int .i64 0,.int .i64 0,.int .i64 0,.string ⟨#[]⟩]):=HR0.out.grown g1 (by simp;omega)
 clear c1 g1 HR0 su mP;go_wp2_with fail
 refine (fQ N (N:Int) rfl xM.out hN1 (by omega)).mono ?_
 rintro e W2 ⟨xb,rfl,hxb,c2,g2⟩;have HC2:=aj c2;have HG2:=aj (bf kU.out g2);have HR2:Hid (Bx W2 X.heap.size 38 #[.int .i64 0,.int .i64 0,.int .i64 0,.string ⟨#[]⟩]):=HR1.out.grown g2 (by simp;omega)
 clear c2 g2 HR1 xM kU;have hba:=aF W2 (.cells #[.int .i64 3,.int .i64 (xa:Int),.int .i64 (xb:Int),.string ⟨#[]⟩] 38);have hbx:=Bx.new W2 38 #[.int .i64 3,.int .i64 (xa:Int),.int .i64 (xb:Int),.string ⟨#[]⟩];have hrl:=HR2.out.lt
 have HM:Hid (DA w X (W2.alloc (.cells #[.int .i64 3,.int .i64 (xa:Int),.int .i64 (xb:Int),.string ⟨#[]⟩] 38)) p a len cap bs W2.heap.size ⟨3,(xa:Int),(xb:Int),[]⟩):=by
  refine⟨HC2.out.step hba,HR2.out.below hba,by rw[Gn.out] at hbx ⊢;exact hbx,⟨rfl,fun _ h=>h⟩,fun b h=>h.elim,BJ,by omega, ?_⟩
  exact bf HG2.out ⟨hba.os,hba.tape,hba.output,hba.size,fun x hx _=>hba.block x hx⟩
 clear hba hbx HR2 HC2 HG2 hrl;go_upto_region 2 with fail
 generalize W2.alloc (.cells #[.int .i64 3,.int .i64 (xa:Int),.int .i64 (xb:Int),.string ⟨#[]⟩] 38)=W4 at *;generalize W2.heap.size=o at *;go_wp2_with fail
 refine (fQ 16 16 rfl HM.out.cc (by omega) (by omega)).mono ?_
 rintro e W5 ⟨y,rfl,hy,c5,g5⟩;have dJ:=aj (HM.out.drawn g5 c5);clear c5 g5 HM
 go_upto_block 0 with fail
 go_cut [14] from 15 to 45 (fun _ wx=>∃ (k:Int) (t:List UInt8),1≤k∧k≤7∧t.length≤1000∧DA w X wx p a len cap bs o ⟨k,(xa:Int),(xb:Int),t⟩)
 case first =>
  have hys:y=0∨y=1∨y=2∨y=3∨y=4∨y=5∨y=6∨y=7∨y=8∨y=9∨y=10∨y=11∨y=12∨y=13∨y=14∨y=15:=by omega
  clear hy;rcases hys with rfl|rfl|rfl|rfl|rfl|rfl|rfl|rfl|rfl|rfl|rfl|rfl|rfl|rfl|rfl|rfl
  ·obtain⟨d0,d1,d2,d3⟩:=DA.cells dJ.out
   obtain⟨f0,f1,f2,f3⟩:=DA.fr dJ.out;simp only at d0 d1 d2 d3
   have gJ:=aj (dJ.out.pU 1);have hT:=zD 2 2 rfl (by omega) gJ.out.cc
   go_wp2_with fail
   refine hT.mono ?_;rintro e Y2 ⟨t,rfl,ht,c7,g7⟩;have M2:=gJ.out.drawn g7 c7;clear d0 d1 d2 d3 f0 f1 f2 f3 gJ c7 g7 hT;obtain⟨d0,d1,d2,d3⟩:=DA.cells M2;obtain⟨f0,f1,f2,f3⟩:=DA.fr M2;simp only at d0 d1 d2 d3
   have lT:=aj (M2.Wu t);clear M2;go_wp2;go_meet
   case rel=>exact⟨1,t,by omega,by omega,by omega,lT.out⟩
  ·obtain⟨d0,d1,d2,d3⟩:=DA.cells dJ.out
   obtain⟨f0,f1,f2,f3⟩:=DA.fr dJ.out;simp only at d0 d1 d2 d3
   have gJ:=aj (dJ.out.pU 1);have hT:=zD 2 2 rfl (by omega) gJ.out.cc
   go_wp2_with fail
   refine hT.mono ?_;rintro e Y2 ⟨t,rfl,ht,c7,g7⟩;have M2:=gJ.out.drawn g7 c7;clear d0 d1 d2 d3 f0 f1 f2 f3 gJ c7 g7 hT;obtain⟨d0,d1,d2,d3⟩:=DA.cells M2;obtain⟨f0,f1,f2,f3⟩:=DA.fr M2;simp only at d0 d1 d2 d3
   have lT:=aj (M2.Wu t);clear M2;go_wp2;go_meet
   case rel=>exact⟨1,t,by omega,by omega,by omega,lT.out⟩
  ·obtain⟨d0,d1,d2,d3⟩:=DA.cells dJ.out
   obtain⟨f0,f1,f2,f3⟩:=DA.fr dJ.out;simp only at d0 d1 d2 d3
   have gJ:=aj (dJ.out.pU 1);have hT:=zD 2 2 rfl (by omega) gJ.out.cc
   go_wp2_with fail
   refine hT.mono ?_;rintro e Y2 ⟨t,rfl,ht,c7,g7⟩;have M2:=gJ.out.drawn g7 c7;clear d0 d1 d2 d3 f0 f1 f2 f3 gJ c7 g7 hT;obtain⟨d0,d1,d2,d3⟩:=DA.cells M2;obtain⟨f0,f1,f2,f3⟩:=DA.fr M2;simp only at d0 d1 d2 d3
   have lT:=aj (M2.Wu t);clear M2;go_wp2;go_meet
   case rel=>exact⟨1,t,by omega,by omega,by omega,lT.out⟩
  ·obtain⟨d0,d1,d2,d3⟩:=DA.cells dJ.out
   obtain⟨f0,f1,f2,f3⟩:=DA.fr dJ.out;simp only at d0 d1 d2 d3
   have gJ:=aj (dJ.out.pU 7);go_wp2;go_meet
   case rel=>exact⟨7,[],by omega,by omega,by simp,gJ.out⟩
  ·obtain⟨d0,d1,d2,d3⟩:=DA.cells dJ.out
   obtain⟨f0,f1,f2,f3⟩:=DA.fr dJ.out;simp only at d0 d1 d2 d3
   have gJ:=aj (dJ.out.pU 7);go_wp2;go_meet
   case rel=>exact⟨7,[],by omega,by omega,by simp,gJ.out⟩
  ·obtain⟨d0,d1,d2,d3⟩:=DA.cells dJ.out
   obtain⟨f0,f1,f2,f3⟩:=DA.fr dJ.out;simp only at d0 d1 d2 d3
   have gJ:=aj (dJ.out.pU 7);go_wp2;go_meet
   case rel=>exact⟨7,[],by omega,by omega,by simp,gJ.out⟩
  ·obtain⟨d0,d1,d2,d3⟩:=DA.cells dJ.out
   obtain⟨f0,f1,f2,f3⟩:=DA.fr dJ.out;simp only at d0 d1 d2 d3
   have gJ:=aj (dJ.out.pU 4);go_wp2;go_meet
   case rel=>exact⟨4,[],by omega,by omega,by simp,gJ.out⟩
  ·obtain⟨d0,d1,d2,d3⟩:=DA.cells dJ.out
   obtain⟨f0,f1,f2,f3⟩:=DA.fr dJ.out;simp only at d0 d1 d2 d3
   have gJ:=aj (dJ.out.pU 4);go_wp2;go_meet
   case rel=>exact⟨4,[],by omega,by omega,by simp,gJ.out⟩
  ·obtain⟨d0,d1,d2,d3⟩:=DA.cells dJ.out
   obtain⟨f0,f1,f2,f3⟩:=DA.fr dJ.out;simp only at d0 d1 d2 d3
   have gJ:=aj (dJ.out.pU 4);go_wp2;go_meet
   case rel=>exact⟨4,[],by omega,by omega,by simp,gJ.out⟩
  ·obtain⟨d0,d1,d2,d3⟩:=DA.cells dJ.out
   obtain⟨f0,f1,f2,f3⟩:=DA.fr dJ.out;simp only at d0 d1 d2 d3
   have gJ:=aj (dJ.out.pU 2);go_wp2;go_meet
   case rel=>exact⟨2,[],by omega,by omega,by simp,gJ.out⟩
  ·have hO:=pF 3 dJ.out.cc (by omega)
   go_wp2_with fail
   refine hO.mono ?_;rintro e Y1 ⟨b,rfl,c7,g7⟩;have gJ:=aj (dJ.out.drawn g7 c7);clear c7 g7 hO
   cases b with
   | false =>
    go_wp2;go_meet
    case rel=>exact⟨3,[],by omega,by omega,by simp,gJ.out⟩
   | true =>
    obtain⟨d0,d1,d2,d3⟩:=DA.cells gJ.out;obtain⟨f0,f1,f2,f3⟩:=DA.fr gJ.out;simp only at d0 d1 d2 d3
    have lT:=aj (gJ.out.pU 5);go_wp2;go_meet
    case rel=>exact⟨5,[],by omega,by omega,by simp,lT.out⟩
  ·have hO:=pF 8 dJ.out.cc (by omega)
   go_wp2_with fail
   refine hO.mono ?_;rintro e Y1 ⟨b,rfl,c7,g7⟩;have gJ:=aj (dJ.out.drawn g7 c7);clear c7 g7 hO
   cases b with
   | false =>
    go_wp2;go_meet
    case rel=>exact⟨3,[],by omega,by omega,by simp,gJ.out⟩
   | true =>
    obtain⟨d0,d1,d2,d3⟩:=DA.cells gJ.out;obtain⟨f0,f1,f2,f3⟩:=DA.fr gJ.out;simp only at d0 d1 d2 d3
    have lT:=aj (gJ.out.pU 6);go_wp2;go_meet
    case rel=>exact⟨6,[],by omega,by omega,by simp,lT.out⟩
  ·go_wp2
   go_meet
   case rel=>exact⟨3,[],by omega,by omega,by simp,dJ.out⟩
  ·go_wp2
   go_meet
   case rel=>exact⟨3,[],by omega,by omega,by simp,dJ.out⟩
  ·go_wp2
   go_meet
   case rel=>exact⟨3,[],by omega,by omega,by simp,dJ.out⟩
  ·go_wp2
   go_meet
   case rel=>exact⟨3,[],by omega,by omega,by simp,dJ.out⟩
 case rest =>
  obtain⟨k,t,hk1,La,ht,hM⟩:=hcut;generalize wc=Y9 at *;have gJ:=aj hM;have HS:Hid (vF ⟨k,(xa:Int),(xb:Int),t⟩):=xR ⟨by omega,by omega⟩ ⟨by omega,by omega⟩ ⟨by omega,by omega⟩ ht
  have hO:=pF 50 gJ.out.cc (by omega)
  clear hM dJ;go_wp2_with fail
  refine hO.mono ?_;rintro e Y1 ⟨b,rfl,c7,g7⟩;have lT:=aj (gJ.out.drawn g7 c7);clear c7 g7 hO gJ
  cases b with
  | false =>
   obtain⟨d0,d1,d2,d3⟩:=DA.cells lT.out;simp only at d0 d1 d2 d3
   obtain⟨r0,r1,r2,r3⟩:=Bx.a4 (SD.res lT.out);obtain⟨f0,f1,f2,f3⟩:=Bx.fa4 (SD.res lT.out);have HA:=aj (DA.fin lT.out);have uP:=aj HS.out;go_wp2;refine bodyPost_ret (v:=nZ ⟨k,(xa:Int),(xb:Int),t⟩) (by simp[results,Tryz.results65,go_sem,nZ,pR, *]) rfl ?_
   exact⟨⟨k,(xa:Int),(xb:Int),t⟩,rfl,uP.out,HA.out _ _ _ _⟩
  | true =>
   have hB:=fQ 2 2 rfl lT.out.cc (by omega) (by omega)
   go_wp2_with fail
   refine hB.mono ?_;rintro e Y2 ⟨z,rfl,hz,c7,g7⟩;have lG:=aj (lT.out.drawn g7 c7);clear c7 g7 hB lT;have hzs:z=0∨z=1:=by omega
   clear hz;rcases hzs with rfl|rfl
   ·have hba:=aF Y2 (.cells #[.int .i64 0,.int .i64 8,.int .i64 (-1),.int .i64 4611686018427387904] 2)
    have hbx:=Bx.new Y2 2 #[.int .i64 0,.int .i64 8,.int .i64 (-1),.int .i64 4611686018427387904];have M0:=lG.out.step hba;have OB:=aj M0;have qW:=aj hbx;have hB:=fQ 4 4 rfl M0.cc (by omega) (by omega)
    have hb2:=hbx.lt;have hpl:=SD.hpo lG.out;have hso:=(SD.gr lG.out).size;clear hba hbx M0 lG;go_wp2_with fail
    generalize Y2.alloc (.cells #[.int .i64 0,.int .i64 8,.int .i64 (-1),.int .i64 4611686018427387904] 2)=Y3 at *;refine hB.mono ?_;rintro e Y4 ⟨j,rfl,hj,c7,g7⟩;have M4:=OB.out.drawn g7 c7;have qK:=qW.out.grown g7 (by simp;omega)
    obtain⟨d0,d1,d2,d3⟩:=DA.cells M4;obtain⟨f0,f1,f2,f3⟩:=DA.fr M4;simp only at d0 d1 d2 d3
    generalize Y2.heap.size=lb at *;have iR:=aj M4;have hjs:j=0∨j=1∨j=2∨j=3:=by omega
    clear c7 g7 hB OB qW hj M4;rcases hjs with rfl|rfl|rfl|rfl
    ·have l0:Y4.cell? ⟨lb,0,none⟩=some (.int .i64 0):=qK.at 0 rfl
     have gu:=aj (iR.out.pU 0);have yT:Hid (vF ⟨0,(xa:Int),(xb:Int),t⟩):=xR ⟨by decide,by decide⟩ ⟨by omega,by omega⟩ ⟨by omega,by omega⟩ ht
     clear qK;go_upto_region 30 with fail
     generalize Y4.setCell ⟨o,0,none⟩ (.int .i64 0)=Y9 at *;clear d0 d1 d2 d3 f0 f1 f2 f3 l0 iR;obtain⟨d0,d1,d2,d3⟩:=DA.cells gu.out;simp only at d0 d1 d2 d3
     obtain⟨r0,r1,r2,r3⟩:=Bx.a4 (SD.res gu.out);obtain⟨f0,f1,f2,f3⟩:=Bx.fa4 (SD.res gu.out);have HA:=aj (DA.fin gu.out);have uP:=aj yT.out;go_wp2;refine bodyPost_ret (v:=nZ ⟨0,(xa:Int),(xb:Int),t⟩) (by simp[results,Tryz.results65,go_sem,nZ,pR, *]) rfl ?_
     exact⟨⟨0,(xa:Int),(xb:Int),t⟩,rfl,uP.out,HA.out _ _ _ _⟩
    ·have l1:Y4.cell? ⟨lb,1,none⟩=some (.int .i64 8):=qK.at 1 rfl
     have gu:=aj (iR.out.pU 8);have yT:Hid (vF ⟨8,(xa:Int),(xb:Int),t⟩):=xR ⟨by decide,by decide⟩ ⟨by omega,by omega⟩ ⟨by omega,by omega⟩ ht
     clear qK;go_upto_region 30 with fail
     generalize Y4.setCell ⟨o,0,none⟩ (.int .i64 8)=Y9 at *;clear d0 d1 d2 d3 f0 f1 f2 f3 l1 iR;obtain⟨d0,d1,d2,d3⟩:=DA.cells gu.out;simp only at d0 d1 d2 d3
     obtain⟨r0,r1,r2,r3⟩:=Bx.a4 (SD.res gu.out);obtain⟨f0,f1,f2,f3⟩:=Bx.fa4 (SD.res gu.out);have HA:=aj (DA.fin gu.out);have uP:=aj yT.out;go_wp2;refine bodyPost_ret (v:=nZ ⟨8,(xa:Int),(xb:Int),t⟩) (by simp[results,Tryz.results65,go_sem,nZ,pR, *]) rfl ?_
     exact⟨⟨8,(xa:Int),(xb:Int),t⟩,rfl,uP.out,HA.out _ _ _ _⟩
    ·have l2:Y4.cell? ⟨lb,2,none⟩=some (.int .i64 (-1)):=qK.at 2 rfl
     have gu:=aj (iR.out.pU (-1));have yT:Hid (vF ⟨(-1),(xa:Int),(xb:Int),t⟩):=xR ⟨by decide,by decide⟩ ⟨by omega,by omega⟩ ⟨by omega,by omega⟩ ht
     clear qK;go_upto_region 30 with fail
     generalize Y4.setCell ⟨o,0,none⟩ (.int .i64 (-1))=Y9 at *;clear d0 d1 d2 d3 f0 f1 f2 f3 l2 iR;obtain⟨d0,d1,d2,d3⟩:=DA.cells gu.out;simp only at d0 d1 d2 d3
     obtain⟨r0,r1,r2,r3⟩:=Bx.a4 (SD.res gu.out);obtain⟨f0,f1,f2,f3⟩:=Bx.fa4 (SD.res gu.out);have HA:=aj (DA.fin gu.out);have uP:=aj yT.out;go_wp2;refine bodyPost_ret (v:=nZ ⟨(-1),(xa:Int),(xb:Int),t⟩) (by simp[results,Tryz.results65,go_sem,nZ,pR, *]) rfl ?_
     exact⟨⟨(-1),(xa:Int),(xb:Int),t⟩,rfl,uP.out,HA.out _ _ _ _⟩
    ·have l3:Y4.cell? ⟨lb,3,none⟩=some (.int .i64 4611686018427387904):=qK.at 3 rfl
     have gu:=aj (iR.out.pU 4611686018427387904);have yT:Hid (vF ⟨4611686018427387904,(xa:Int),(xb:Int),t⟩):=xR ⟨by decide,by decide⟩ ⟨by omega,by omega⟩ ⟨by omega,by omega⟩ ht
     clear qK;go_upto_region 30 with fail
     generalize Y4.setCell ⟨o,0,none⟩ (.int .i64 4611686018427387904)=Y9 at *;clear d0 d1 d2 d3 f0 f1 f2 f3 l3 iR;obtain⟨d0,d1,d2,d3⟩:=DA.cells gu.out;simp only at d0 d1 d2 d3
     obtain⟨r0,r1,r2,r3⟩:=Bx.a4 (SD.res gu.out);obtain⟨f0,f1,f2,f3⟩:=Bx.fa4 (SD.res gu.out);have HA:=aj (DA.fin gu.out);have uP:=aj yT.out;go_wp2;refine bodyPost_ret (v:=nZ ⟨4611686018427387904,(xa:Int),(xb:Int),t⟩) (by simp[results,Tryz.results65,go_sem,nZ,pR, *]) rfl ?_
     exact⟨⟨4611686018427387904,(xa:Int),(xb:Int),t⟩,rfl,uP.out,HA.out _ _ _ _⟩
   ·have hba:=aF Y2 (.cells #[.int .i64 (-1),.int .i64 5,.int .i64 4611686018427387904] 2)
    have hbx:=Bx.new Y2 2 #[.int .i64 (-1),.int .i64 5,.int .i64 4611686018427387904];have M0:=lG.out.step hba;have OB:=aj M0;have qW:=aj hbx;have hB:=fQ 3 3 rfl M0.cc (by omega) (by omega)
    have hb2:=hbx.lt;have hpl:=SD.hpo lG.out;have hso:=(SD.gr lG.out).size;clear hba hbx M0 lG;go_wp2_with fail
    generalize Y2.alloc (.cells #[.int .i64 (-1),.int .i64 5,.int .i64 4611686018427387904] 2)=Y3 at *;refine hB.mono ?_;rintro e Y4 ⟨j,rfl,hj,c7,g7⟩;have M4:=OB.out.drawn g7 c7;have qK:=qW.out.grown g7 (by simp;omega)
    obtain⟨d0,d1,d2,d3⟩:=DA.cells M4;obtain⟨f0,f1,f2,f3⟩:=DA.fr M4;simp only at d0 d1 d2 d3
    generalize Y2.heap.size=lb at *;have iR:=aj M4;have hjs:j=0∨j=1∨j=2:=by omega
    clear c7 g7 hB OB qW hj M4;rcases hjs with rfl|rfl|rfl
    ·have l0:Y4.cell? ⟨lb,0,none⟩=some (.int .i64 (-1)):=qK.at 0 rfl
     have gu:=aj (iR.out.Ws (-1));have yT:Hid (vF ⟨k,(-1),(xb:Int),t⟩):=xR ⟨by omega,by omega⟩ ⟨by decide,by decide⟩ ⟨by omega,by omega⟩ ht
     clear qK;go_upto_region 30 with fail
     generalize Y4.setCell ⟨o,1,none⟩ (.int .i64 (-1))=Y9 at *;clear d0 d1 d2 d3 f0 f1 f2 f3 l0 iR;obtain⟨d0,d1,d2,d3⟩:=DA.cells gu.out;simp only at d0 d1 d2 d3
     obtain⟨r0,r1,r2,r3⟩:=Bx.a4 (SD.res gu.out);obtain⟨f0,f1,f2,f3⟩:=Bx.fa4 (SD.res gu.out);have HA:=aj (DA.fin gu.out);have uP:=aj yT.out;go_wp2;refine bodyPost_ret (v:=nZ ⟨k,(-1),(xb:Int),t⟩) (by simp[results,Tryz.results65,go_sem,nZ,pR, *]) rfl ?_
     exact⟨⟨k,(-1),(xb:Int),t⟩,rfl,uP.out,HA.out _ _ _ _⟩
    ·have l1:Y4.cell? ⟨lb,1,none⟩=some (.int .i64 5):=qK.at 1 rfl
     have gu:=aj (iR.out.Ws 5);have yT:Hid (vF ⟨k,5,(xb:Int),t⟩):=xR ⟨by omega,by omega⟩ ⟨by decide,by decide⟩ ⟨by omega,by omega⟩ ht
     clear qK;go_upto_region 30 with fail
     generalize Y4.setCell ⟨o,1,none⟩ (.int .i64 5)=Y9 at *;clear d0 d1 d2 d3 f0 f1 f2 f3 l1 iR;obtain⟨d0,d1,d2,d3⟩:=DA.cells gu.out;simp only at d0 d1 d2 d3
     obtain⟨r0,r1,r2,r3⟩:=Bx.a4 (SD.res gu.out);obtain⟨f0,f1,f2,f3⟩:=Bx.fa4 (SD.res gu.out);have HA:=aj (DA.fin gu.out);have uP:=aj yT.out;go_wp2;refine bodyPost_ret (v:=nZ ⟨k,5,(xb:Int),t⟩) (by simp[results,Tryz.results65,go_sem,nZ,pR, *]) rfl ?_
     exact⟨⟨k,5,(xb:Int),t⟩,rfl,uP.out,HA.out _ _ _ _⟩
    ·have l2:Y4.cell? ⟨lb,2,none⟩=some (.int .i64 4611686018427387904):=qK.at 2 rfl
     have gu:=aj (iR.out.Ws 4611686018427387904);have yT:Hid (vF ⟨k,4611686018427387904,(xb:Int),t⟩):=xR ⟨by omega,by omega⟩ ⟨by decide,by decide⟩ ⟨by omega,by omega⟩ ht
     clear qK;go_upto_region 30 with fail
     generalize Y4.setCell ⟨o,1,none⟩ (.int .i64 4611686018427387904)=Y9 at *;clear d0 d1 d2 d3 f0 f1 f2 f3 l2 iR;obtain⟨d0,d1,d2,d3⟩:=DA.cells gu.out;simp only at d0 d1 d2 d3
     obtain⟨r0,r1,r2,r3⟩:=Bx.a4 (SD.res gu.out);obtain⟨f0,f1,f2,f3⟩:=Bx.fa4 (SD.res gu.out);have HA:=aj (DA.fin gu.out);have uP:=aj yT.out;go_wp2;refine bodyPost_ret (v:=nZ ⟨k,4611686018427387904,(xb:Int),t⟩) (by simp[results,Tryz.results65,go_sem,nZ,pR, *]) rfl ?_
     exact⟨⟨k,4611686018427387904,(xb:Int),t⟩,rfl,uP.out,HA.out _ _ _ _⟩
end
section
def ou (L:List Ac):List Value:=L.flatMap (fun x=>(pR x).toList)
theorem ab3 (L:List Ac):(ou L).length=L.length*4:=by
 induction L with
 | nil=>rfl
 | cons x L ih =>
  show ((pR x).toList++ou L).length=_
  rw[List.length_append,ih,List.length_cons]
  show 4+_=_
  omega
theorem ab4 (L M:List Ac):ou (L++M)=ou L++ou M:=by simp[ou]
theorem ab5 (L:List Ac):∀ u∈ou L,u.oneCell'=true:=by
 intro u hu;unfold ou at hu;obtain⟨x,_,hx⟩:=List.mem_flatMap.1 hu;simp only[pR,List.mem_cons,List.not_mem_nil,or_false] at hx;rcases hx with rfl|rfl|rfl|rfl<;>rfl
theorem Tryz.infoAc:(Tryz.prog.info? 38).map (fun i=>(i.zero,i.size,i.bytes))=some (some (.agg #[.int .i64 0,.int .i64 0,.int .i64 0,.string ⟨#[]⟩]),4,40):=by kernel_rfl
structure AL (w X Y:World) (p:Nat) (a:Option Addr) (len cap:Nat) (bs:Nat→Int) (oa:Option Addr) (c:Nat) (G:Option Nat) (L:List Ac):Prop where
 cc:Cc w Y p a len cap bs
 own:dR Y 4 oa L.length c (ou L) G
 lo:∀ g,G=some g→X.heap.size≤g
 hpo:p<X.heap.size
 gr:X.grownBy Y (some p)
 ok:∀ x∈L,vF x
section
variable {w X Y Y':World} {p:Nat} {a:Option Addr} {len cap:Nat} {bs:Nat→Int} {oa:Option Addr} {c:Nat} {G:Option Nat} {L:List Ac}
theorem AL.drawn (h:AL w X Y p a len cap bs oa c G L) (hg:Y.grownBy Y' (some p)) (hc:Cc w Y' p a len cap bs):AL w X Y' p a len cap bs oa c G L:=by
 have h1:=h.hpo;exact⟨hc,h.own.wrt (aO.iZ hg) (fun b hb e=>by cases e;have:=h.lo _ hb;omega),h.lo,h1,bf h.gr hg,h.ok⟩
theorem AL.step (h:AL w X Y p a len cap bs oa c G L) (hb:Below Y.heap.size Y Y'):AL w X Y' p a len cap bs oa c G L :=
 ⟨h.cc.step hb,h.own.frame hb.size (fun g hg=>hb.block g (h.own.lt hg)),h.lo,h.hpo,bf h.gr ⟨hb.os,hb.tape,hb.output,hb.size,fun x hx _=>hb.block x hx⟩,h.ok⟩
theorem AL.app (h:AL w X Y p a len cap bs oa c G L) (M:List Ac) (hok:∀ x∈M,vF x) (hl:L.length≤10000) (hm:M.length≤10) :
  ∀ Z,Same Z (Y.alloc (.cells (ou M).toArray 38))→∃ v' w4,(Builtin.append_ #[29,29] 29 #[.slice oa L.length c,.slice (some ⟨Y.heap.size,0,none⟩) M.length M.length]).run Tryz.prog Z=.ok v' w4 ∧
   ∃ zZ c' G',v'=.slice zZ (L.length+M.length) c'∧AL w X w4 p a len cap bs zZ c' G' (L++M):=by
 intro Z hZ;have h1:=h.hpo;have hw:=h.cc.hp;have nN:=(aF Y _).trans (hZ.below.mono (aF Y _).size);have hS:=h.step nN;obtain⟨i0,hi0,hz0,hz1,hz2⟩:=nT Tryz.infoAc;obtain⟨a',c',G',w4,k1,k2,k3,k4⟩:=jR (P:=Tryz.prog) Z 29 29 38 i0 _ 4 40 Tryz.underlying29 hi0 hz0 hz1 hz2 rfl (by omega) oa L.length c (ou L) G hS.own (some ⟨Y.heap.size,0,none⟩) M.length M.length (ou M) (ab3 M) (.inr ⟨_,rfl,World.news_of_block (cs:=(ou M).toArray) (t:=38) (fr:=(0,0)) (by rw[hZ.heap];exact heap_alloc_new Y _)⟩) (ab5 M) (by unfold maxLen;omega) (by omega)
 have hW:=aO.iZ k3;refine⟨_,w4,k1,a',c',G',rfl,hS.cc.wrt hW (fun e=>by have:=h.lo _ e;omega) (fun b e=>by have:=h.lo _ e;omega), ?_,fun g hg=>?_,h1,ku hS.gr hW (fun b e=>h.lo b e),fun x hx=>?_⟩
 ·rw[List.length_append,ab4]
  exact k2
 ·rcases k4 with e|e
  ·exact h.lo g (e ▸ hg)
  ·rw[e] at hg
   have:=Option.some.inj hg;have:=hS.gr.size;omega
 ·rcases List.mem_append.1 hx with h2|h2
  ·exact h.ok x h2
  ·exact hok x h2
end
def aw1 (w X X':World) (p:Nat) (a:Option Addr) (len cap:Nat) (bs:Nat→Int) (e:Ending) (q:Nat):Prop:=∃ (oa:Option Addr) (c:Nat) (G:Option Nat) (L:List Ac),e=.returned (.slice oa L.length c)∧AL w X X' p a len cap bs oa c G L∧L.length≤q
attribute [local irreducible] sv
theorem Fv (N:Nat) (n:Int) (hN:n=(N:Int)) (hN1:1≤N) (Oo:N≤5) {w X:World} {p:Nat} {a:Option Addr} {len cap:Nat} {bs:Nat→Int} (h:Cc w X p a len cap bs) :
  Calls Tryz.prog 31 #[.pointer (some ⟨p,0,none⟩),.int .i64 n] X fun e X'=>aw1 w X X' p a len cap bs e 325:=by
 subst hN;have BJ:=h.lt;have Gn:Hid ((⟨#[]⟩:ByteArray)=sv []):=by rw[Hid];unfold sv;rfl
 have b0:=aF X (.cells #[] 38);have HA0:Hid (AL w X (X.alloc (.cells #[] 38)) p a len cap bs (some ⟨X.heap.size,0,none⟩) 0 none []):=⟨h.step b0,dR.nil _ _ (jG _ _),fun g hg=>(by cases hg),BJ,⟨b0.os,b0.tape,b0.output,b0.size,fun x hx _=>b0.block x hx⟩,fun x hx=>absurd hx List.not_mem_nil⟩
 clear h b0;go_enter Tryz.func31,Tryz.ntmps31
 go_upto_region 2 with fail
 generalize X.alloc (.cells #[] 38)=W0 at *;go_wp2_with fail
 refine (fQ 26 26 rfl HA0.out.cc (by omega) (by omega)).mono ?_
 rintro e W1 ⟨K,rfl,hK,c1,g1⟩;have HA1:=aj (HA0.out.drawn g1 c1);clear c1 g1 HA0;go_wp2_with fail
 go_loopw [5,6] (fun v i wr=>∃ (k:Nat) (oa:Option Addr) (c:Nat) (G:Option Nat) (L:List Ac),k≤25∧i=.int .i64 (k:Int)∧v=.slice oa L.length c∧L.length≤13*(25-k)∧AL w X wr p a len cap bs oa c G L) (fun _ i _=>(intOf i).toNat)
 case atStart=>exact⟨K,_,0,none,[],by omega,rfl,rfl,by simp,HA1.out⟩
 case round =>
  obtain⟨k,oa,c,G,L,hk,rfl,rfl,hll,hA⟩:=hrel;have HA:=aj hA;clear hA HA1;by_cases hk0:0<k
  ·have k1:(0:Int)<(k:Int):=by omega
   have wk:wrap64 ((k:Int)-1)=((k-1:Nat):Int):=by unfold wrap64;omega
   have HF:Hid (∀ (Y:World) (zZ:Option Addr) (c':Nat) (G':Option Nat) (L':List Ac) (z:Value),z=.slice zZ L'.length c'→L'.length≤L.length+13→AL w X Y p a len cap bs zZ c' G' L'→∃ (k':Nat) (oa:Option Addr) (c:Nat) (G:Option Nat) (L:List Ac),k'≤25∧(Value.int .i64 ((k:Int)-1))=.int .i64 (k':Int)∧z=.slice oa L.length c∧L.length≤13*(25-k')∧AL w X Y p a len cap bs oa c G L):=fun Y zZ c' G' L' z e h1 h2=>⟨k-1,zZ,c',G',L',by omega,by congr 1;omega,e,by omega,h2⟩
   clear wk;have hO:=pF 3 HA.out.cc (by omega)
   go_wp2_with fail
   refine hO.mono ?_;rintro e Y1 ⟨b,rfl,c7,g7⟩;have HA1:=aj (HA.out.drawn g7 c7);clear c7 g7 hO HA
   cases b with
   | false =>
    have hD:=QB N (N:Int) rfl hN1 Oo HA1.out.cc;go_wp2_with fail
    refine hD.mono ?_;rintro e Y2 ⟨x,rfl,hx,c8,g8⟩;have HA2:=aj (HA1.out.drawn g8 c8);have BK:=HA2.out.app [x] (fun y hy=>by rw[List.mem_singleton.1 hy];exact hx) (by omega) (by simp)
    unfold nZ pR;have e1:ou [x]=[.int .i64 x.kind,.int .i64 x.a,.int .i64 x.b,.string (sv x.txt)]:=rfl;rw[e1] at BK;clear c8 g8 hD HA1 e1;go_wp2_with (at_builtin;refine aZ (by rfl) _ _ _ _ (by rfl) _ _ (by rfl) (by rfl) BK ⟨rfl,rfl,rfl,rfl⟩ ?_;rintro v1 w2 ⟨BL,c1,G1,rfl,q1⟩;have HQ:Hid (AL w X w2 p a len cap bs BL c1 G1 (L++[x])):=q1;clear q1 BK)
    have HE:Hid _:=HF.out w2 BL c1 G1 (L++[x]) (.slice BL (L.length+1) c1) (by simp) (by simp) HQ.out
    clear HF HQ;go_roundw
    case rel=>exact HE.out
    case measure=>simp[intOf];omega
   | true =>
    have hB:=fQ N (N:Int) rfl HA1.out.cc hN1 (by omega)
    go_wp2_with fail
    refine hB.mono ?_;rintro e Y2 ⟨xa,rfl,hxa,c8,g8⟩;have HA2:=aj (HA1.out.drawn g8 c8);clear c8 g8 hB HA1;have hT:=zD 2 2 rfl (by omega) HA2.out.cc
    go_wp2_with fail
    refine hT.mono ?_;rintro e Y3 ⟨t,rfl,ht,c8,g8⟩;have Zj:=aj (HA2.out.drawn g8 c8)
    obtain⟨M,uH,BM,TL⟩:∃ M:List Ac,M.length=3∧ou M=[.int .i64 1,.int .i64 (xa:Int),.int .i64 0,.string (sv t),.int .i64 4,.int .i64 (xa:Int),.int .i64 0,.string ⟨#[]⟩,.int .i64 7,.int .i64 (xa:Int),.int .i64 0,.string ⟨#[]⟩]∧∀ y∈M,vF y:=by
     have hxb:eH (xa:Int):=⟨by omega,by omega⟩
     have hk:∀ k:Int,0≤k→k≤7→eH k:=fun k h1 h2=>⟨by omega,by omega⟩
     refine⟨[⟨1,(xa:Int),0,t⟩,⟨4,(xa:Int),0,[]⟩,⟨7,(xa:Int),0,[]⟩],rfl,by rw[Gn.out];rfl,fun y hy=>?_⟩
     simp only[List.mem_cons,List.not_mem_nil,or_false] at hy;rcases hy with rfl|rfl|rfl
     ·exact xR (hk _ (by omega) (by omega)) hxb (hk _ (by omega) (by omega)) (by omega)
     ·exact xR (hk _ (by omega) (by omega)) hxb (hk _ (by omega) (by omega)) (by simp)
     ·exact xR (hk _ (by omega) (by omega)) hxb (hk _ (by omega) (by omega)) (by simp)
    have BK:=Zj.out.app M TL (by omega) (by omega)
    rw[uH,BM] at BK;have iQ:=aj uH;clear c8 g8 hT HA2 uH BM TL;go_upto_region 8 with (at_builtin;refine aZ (by rfl) _ _ _ _ (by rfl) _ _ (by rfl) (by rfl) BK ⟨rfl,rfl,rfl,rfl⟩ ?_;rintro v1 w2 ⟨BL,c1,G1,rfl,q1⟩;have HQ:Hid (AL w X w2 p a len cap bs BL c1 G1 (L++M)):=q1;clear q1 BK)
    obtain⟨L1,hL1⟩:∃ L1,Hid (L++M=L1):=⟨_,rfl⟩;have pY:Hid (AL w X w2 p a len cap bs BL c1 G1 L1):=by have:=HQ.out;rw[hL1.out] at this;exact this
    have ru:Hid (L1.length=L.length+3):=by rw[Hid,← hL1.out,List.length_append,iQ.out]
    clear HQ hL1 Zj iQ;rw[← ru.out];go_wp2_with fail
    go_loopw [5,8] (fun v i wq=>∃ (b:Nat) (oa:Option Addr) (c:Nat) (G:Option Nat) (L2:List Ac),b≤N∧i=.int .i64 (b:Int)∧v=.slice oa L2.length c∧L2.length≤L.length+3+2*b∧AL w X wq p a len cap bs oa c G L2) (fun _ i _=>N-(intOf i).toNat)
    case atStart=>exact⟨0,BL,c1,G1,L1,Nat.zero_le _,rfl,rfl,by rw[ru.out];omega,pY.out⟩
    case round =>
     obtain⟨b,ob,cb,Gb,L2,hbN,rfl,rfl,hl2,hA2⟩:=hrel;have HB:=aj hA2;clear hA2;by_cases hb:b<N
     ·have b1:(b:Int)<(N:Int):=by omega
      have b0:(0:Int)≤(b:Int):=by omega
      have HG:Hid (∀ (Y:World) (zZ:Option Addr) (c':Nat) (G':Option Nat) (L':List Ac) (z:Value),z=.slice zZ L'.length c'→L'.length≤L2.length+2→AL w X Y p a len cap bs zZ c' G' L'→∃ (b':Nat) (oa:Option Addr) (c:Nat) (G:Option Nat) (L2:List Ac),b'≤N∧(Value.int .i64 ((b:Int)+1))=.int .i64 (b':Int)∧z=.slice oa L2.length c∧L2.length≤L.length+3+2*b'∧AL w X Y p a len cap bs oa c G L2):=fun Y zZ c' G' L' z e h1 h2=>⟨b+1,zZ,c',G',L',by omega,by push_cast;rfl,e,by omega,h2⟩
      clear HF pY;by_cases hx:b=xa
      ·have n1:((b:Int) != (xa:Int))=false:=by rw[hx];exact bne_self_eq_false _
       have HE:Hid _:=HG.out _ ob cb Gb L2 (.slice ob L2.length cb) rfl (by omega) HB.out
       clear HG HB hx;go_wp2;go_roundw
       case rel=>exact HE.out
       case measure=>simp[intOf];omega
      ·have n1:((b:Int) != (xa:Int))=true:=bne_iff_ne.2 (by omega)
       have hO:=pF 6 HB.out.cc (by omega)
       clear hx;go_wp2_with fail
       refine hO.mono ?_;rintro e Y6 ⟨u,rfl,c9,g9⟩;have vg:=aj (HB.out.drawn g9 c9);clear hO c9 g9 HB n1
       cases u with
       | true =>
        have HE:Hid _:=HG.out _ ob cb Gb L2 (.slice ob L2.length cb) rfl (by omega) vg.out
        clear HG vg;go_wp2;go_roundw
        case rel=>exact HE.out
        case measure=>simp[intOf];omega
       | false =>
        obtain⟨M,hM2,BM,TL⟩:∃ M:List Ac,M.length=2∧ou M=[.int .i64 3,.int .i64 (xa:Int),.int .i64 (b:Int),.string ⟨#[]⟩,.int .i64 4,.int .i64 (b:Int),.int .i64 0,.string ⟨#[]⟩]∧∀ y∈M,vF y:=by
         have hk:∀ k:Int,0≤k→k≤7→eH k:=fun k h1 h2=>⟨by omega,by omega⟩
         refine⟨[⟨3,(xa:Int),(b:Int),[]⟩,⟨4,(b:Int),0,[]⟩],rfl,by rw[Gn.out];rfl,fun y hy=>?_⟩
         simp only[List.mem_cons,List.not_mem_nil,or_false] at hy;rcases hy with rfl|rfl
         ·exact xR (hk _ (by omega) (by omega)) (hk _ (by omega) (by omega)) (hk _ (by omega) (by omega)) (by simp)
         ·exact xR (hk _ (by omega) (by omega)) (hk _ (by omega) (by omega)) (hk _ (by omega) (by omega)) (by simp)
        have BK:=vg.out.app M TL (by omega) (by omega)
        rw[hM2,BM] at BK;have eF:=aj hM2;clear hM2 BM TL;go_wp2_with (at_builtin;refine aZ (by rfl) _ _ _ _ (by rfl) _ _ (by rfl) (by rfl) BK ⟨rfl,rfl,rfl,rfl⟩ ?_;rintro v1 w2 ⟨BL,c1,G1,rfl,q1⟩;have HQ:Hid (AL w X w2 p a len cap bs BL c1 G1 (L2++M)):=q1;clear q1 BK)
        have HE:Hid _:=HG.out w2 BL c1 G1 (L2++M) (.slice BL (L2.length+2) c1) (by rw[List.length_append,eF.out]) (by rw[List.length_append,eF.out];exact Nat.le_refl _) HQ.out
        clear HG vg HQ;go_roundw
        case rel=>exact HE.out
        case measure=>simp[intOf];omega
     ·have b1:¬ ((b:Int)<(N:Int)):=by omega
      have HE:Hid _:=HF.out _ ob cb Gb L2 (.slice ob L2.length cb) rfl (by omega) HB.out
      clear HF HB pY;go_wp2;go_roundw
      case rel=>exact HE.out
      case measure=>simp[intOf];omega
  ·have k1:¬ ((0:Int)<(k:Int)):=by omega
   go_wp2;go_ret
   exact⟨oa,c,G,L,rfl,HA.out,by omega⟩
end
def Gu (e:Ending):Prop:=∃ T v,e=.panicked [{ v:=.iface T v,recovered:=false }]
theorem qx (w:World):Calls Tryz.prog 86 #[.bool true] w fun e w'=>e=.returned (.tuple #[])∧w'=w:=by
 have hnot:∀ (x:Bool) (w:World),(Op.unary .not (.bool x)).run Tryz.prog w=.ok (.bool (!x)) w:=fun _ _=>rfl
 go_enter Tryz.func86,Tryz.ntmps86
 go_wp2
 first|go_end0|go_ret
 exact⟨rfl,rfl⟩
theorem kT (w:World):Calls Tryz.prog 86 #[.bool false] w fun e w'=>Gu e∧w'=w:=by
 go_enter Tryz.func86,Tryz.ntmps86
 go_wp2;exact⟨rfl,⟨_,_,rfl⟩,rfl⟩
theorem aw2 (p:Addr) (x:Value) (u:TypeId) (pv:Value) (older:List PanicEntry) (w:World) (hc:w.cell? p=some x) (hz:w.frozen? p=false) :
  CallsD Tryz.prog 85 #[.pointer (some p)] (.panicking ({ v:=.iface u pv,recovered:=false }::older)) w fun e u' w' =>
   e=.returned (.tuple #[])∧u'=.panicking ({ v:=.iface u pv,recovered:=true }::older)∧w'=w.setCell p (.bool false):=by
 refine callsD_of_wpS Tryz.func85 rfl fun c₀ cs hu=>?_
 apply wpS_region
 simp[wpOpsS,go_sem,recoverD,hu,Tryz.ntmps85,hc,hz,bodyPostS,results,Tryz.results85]
theorem aw3 (p:Addr) (x:Value) (w:World) (hc:w.cell? p=some x) (hz:w.frozen? p=false) :
  CallsD Tryz.prog 85 #[.pointer (some p)] .returning w fun e u' w'=>e=.returned (.tuple #[])∧u'=.returning∧w'=w.setCell p (.bool true):=by
 refine callsD_of_wpS Tryz.func85 rfl fun c₀ cs hu=>?_
 apply wpS_region
 simp[wpOpsS,go_sem,recoverD,hu,Tryz.ntmps85,hc,hz,bodyPostS,results,Tryz.results85]
 cases c₀
 simp_all
theorem Lj (F:Nat) (C D:Array Value) (w:World) (Q:Bool→World→Prop) (hE:∀ (args:Array Value) (w:World),(callFunc F args).run Tryz.prog w=.ok (.enter F args) w)
  (h:Calls Tryz.prog F (C++D) (w.alloc (.cells #[.bool false] 4)) fun e w'=>(e=.returned (.tuple #[])∧Q true w')∨(Gu e∧Q false w')) (hq:∀ b w',Q b w'→Bx w' w.heap.size 4 #[.bool false]) :
  Calls Tryz.prog 46 #[.func (.func F) C D] w fun e w'=>∃ b X,e=.returned (.bool b)∧Q b X∧aO (fun x=>x=w.heap.size) X w':=by
 have hmf:∀ (fn:Fn) (first cap:Array Value) (w:World),(Instr.makeFunc fn first cap).run Tryz.prog w=.ok (.func fn first cap) w:=fun _ _ _ _=>rfl
 have HQ:=aj hq;clear hq
 go_enter_defers Tryz.func46,Tryz.ntmps46
 go_wp2_with fail
 refine h.mono ?_;rintro e w1 (⟨rfl,hQ⟩|⟨⟨T,v,rfl⟩,hQ⟩)
 ·have hx:=HQ.out _ _ hQ
  have c0:=hx.at 0 (v:=.bool false) rfl;have f0:=hx.f 0;have pY:=aj hQ;clear hQ h hx;go_wp2;refine leaves_cons (f:=85) (args:=#[.pointer (some ⟨w.heap.size,0,none⟩)]) (by simp) (by simp[go_sem]) ?_
  refine (aw3 ⟨w.heap.size,0,none⟩ (.bool true) _ (World.cell?_setCell_same _ _ _ c0) (by rw[World.frozen?_setCell];exact f0)).mono ?_
  rintro e u' w'' ⟨rfl,rfl,rfl⟩;have hc:((w1.setCell ⟨w.heap.size,0,none⟩ (.bool true)).setCell ⟨w.heap.size,0,none⟩ (.bool true)).cell? ⟨w.heap.size,0,none⟩=some (.bool true):=World.cell?_setCell_same _ _ _ (World.cell?_setCell_same _ _ _ c0);have hW:=(aO.set w1 w.heap.size 0 (.bool true)).trans (aO.set (w1.setCell ⟨w.heap.size,0,none⟩ (.bool true)) w.heap.size 0 (.bool true)) (fun _ _ h=>h)
  generalize (w1.setCell ⟨w.heap.size,0,none⟩ (.bool true)).setCell ⟨w.heap.size,0,none⟩ (.bool true)=W2 at *;refine⟨.bool true,by simp[results,Tryz.results46,go_sem,hc],true,w1,rfl,pY.out,hW⟩
 ·have hx:=HQ.out _ _ hQ
  have c0:=hx.at 0 (v:=.bool false) rfl;have f0:=hx.f 0;have pY:=aj hQ;clear hQ h hx;simp only
  refine leaves_cons (f:=85) (args:=#[.pointer (some ⟨w.heap.size,0,none⟩)]) (by simp) (by simp[go_sem]) ?_
  refine (aw2 ⟨w.heap.size,0,none⟩ (.bool false) T v [] _ c0 f0).mono ?_;rintro e u' w'' ⟨rfl,rfl,rfl⟩;have hc:(w1.setCell ⟨w.heap.size,0,none⟩ (.bool false)).cell? ⟨w.heap.size,0,none⟩=some (.bool false):=World.cell?_setCell_same _ _ _ c0;have hW:=aO.set w1 w.heap.size 0 (.bool false);generalize w1.setCell ⟨w.heap.size,0,none⟩ (.bool false)=W2 at *;refine⟨.bool false,by simp[results,Tryz.results46,go_sem,hc],false,w1,rfl,pY.out,hW⟩
theorem iI (n last:Int) (w:World):Calls Tryz.prog 87 #[.int .i64 n,.int .i64 last] w fun e w'=>e=.returned (.bool (inB n 0 last))∧w'=w:=by
 by_cases h0:(0:Int)≤n
 ·have H:Hid (inB n 0 last=decide (n≤last)):=by rw[Hid,inB];simp[h0]
  go_enter Tryz.func87,Tryz.ntmps87
  go_wp2;go_ret
  exact⟨aH (by rw[H.out]),rfl⟩
 ·have H:Hid (inB n 0 last=false):=by rw[Hid,inB];simp[h0]
  go_enter Tryz.func87,Tryz.ntmps87
  go_wp2;go_ret
  exact⟨aH (by rw[H.out]),rfl⟩
theorem Ll (a:Option Addr) (len cap:Nat) (B:Int) (xs:List Int) (w:World) (hv:Vec w a len xs) (hm:len≤maxLen) :
  Calls Tryz.prog 89 #[.slice a len cap,.int .i64 (B-1)] w fun e w'=>e=.returned (.bool (decide (vI B xs)))∧w'=w:=by
 unfold maxLen at hm;have HL:=aj hv.1;have hc:=hv.2.2;clear hv;go_enter Tryz.func89,Tryz.ntmps89
 go_wp2
 go_loop [9] (fun i=>∃ k:Nat,k≤len∧i=.int .i64 k∧(∀ j,j<k→0≤el xs j∧el xs j≤B-1)∧∀ j,j+1<k→el xs j<el xs (j+1)) (fun i=>len-(intOf i).toNat)
 case atStart=>exact⟨0,Nat.zero_le _,rfl,fun j hj=>by omega,fun j hj=>by omega⟩
 case round =>
  obtain⟨k,hk,rfl,hin,uY⟩:=hrel;have HI:=aj hin;have HR:=aj uY;clear hin uY;by_cases hlt:k<len
  ·rcases hc with h0|⟨b,off,rfl,hc⟩
   ·omega
   have hck:=hc k hlt;have k0:(0:Int)≤(k:Int):=by omega
   have k1:(k:Int)<(len:Int):=by omega
   cases e4:inB (el xs k) 0 (B-1) with
   | false =>
    have HF : Hid (decide (vI B xs) = false) := decide_eq_false (fun h => by
     have:=h.1 k (by rw[HL.out];exact hlt)
     rw[dP.2 this] at e4
     cases e4)
    go_wp2_with (go_at_call 87;refine (iI _ _ _).mono ?_;rintro e w' ⟨rfl,hw'⟩;rw[hw'];clear hw')
    go_ret
    exact⟨aH (by rw[HF.out]),rfl⟩
   | true =>
    have HX:=aj (dP.1 e4);by_cases hk0:0<k
    ·obtain⟨q,rfl⟩:∃ q,k=q+1:=⟨k-1,by omega⟩
     have hcq:=hc q (by omega)
     have hg:decide (((q+1:Nat):Int)>0)=true:=decide_eq_true (by omega)
     have g0:(0:Int)<((q+1:Nat):Int):=by omega
     have hq:wrap64 (((q+1:Nat):Int)-1)=(q:Int):=by unfold wrap64;omega
     have q0:(0:Int)≤(q:Int):=by omega
     have q1:(q:Int)<(len:Int):=by omega
     by_cases hx:el xs q<el xs (q+1)
     ·have hd:decide (el xs (q+1)≤el xs q)=false:=by simp;omega
      have HY:=aj hx;clear hx;go_wp2_with (go_at_call 87;refine (iI _ _ _).mono ?_;rintro e w' ⟨rfl,hw'⟩;rw[hw'];clear hw')
      go_round
      case rel => exact ⟨q + 1 + 1,by omega,by go_num,fun j hj => by
       rcases Nat.lt_succ_iff_lt_or_eq.1 hj with h|h
       ·exact HI.out j h
       ·rw[h];exact HX.out,fun j hj=>by
       rcases Nat.lt_succ_iff_lt_or_eq.1 hj with h|h
       ·exact HR.out j h
       ·have:j=q:=by omega
        rw[this];exact HY.out⟩
      case measure=>simp[intOf];omega
     ·have hd:decide (el xs (q+1)≤el xs q)=true:=by simp;omega
      have HF:Hid (decide (vI B xs)=false):=decide_eq_false (fun h=>hx (h.2 q (by rw[HL.out];omega)))
      clear hx;go_wp2_with (go_at_call 87;refine (iI _ _ _).mono ?_;rintro e w' ⟨rfl,hw'⟩;rw[hw'];clear hw')
      go_ret
      exact⟨aH (by rw[HF.out]),rfl⟩
    ·obtain rfl:k=0:=by omega
     rw[Nat.add_zero] at hck;go_wp2_with (go_at_call 87;refine (iI _ _ _).mono ?_;rintro e w' ⟨rfl,hw'⟩;rw[hw'];clear hw')
     go_round
     case rel => exact ⟨1,by omega,by go_num,fun j hj => by
      obtain rfl:j=0:=by omega
      exact HX.out,fun j hj=>by omega⟩
     case measure=>simp[intOf];omega
  ·have hkl:k=len:=by omega
   have HF:Hid (decide (vI B xs)=true):=decide_eq_true ⟨fun j hj=>HI.out j (by rw[HL.out] at hj;omega),fun j hj=>HR.out j (by rw[HL.out] at hj;omega)⟩
   subst hkl;clear hc;go_wp2;go_ret
   exact⟨aH (by rw[HF.out]),rfl⟩
def Fz (xs:List Int) (x z:Int):Prop:=(∃ k:Nat,k<xs.length∧z=(k:Int)∧el xs k=x∧∀ j,j<k→el xs j≠x)∨(z=-1∧∀ j,j<xs.length→el xs j≠x)
theorem Fz.mem {xs:List Int} {x z:Int} (h:Fz xs x z):decide (0≤z)=decide (x∈xs):=by
 rcases h with ⟨k,hk,rfl,rfl,_⟩|⟨rfl,h⟩
 ·rw[decide_eq_true (au4 hk),decide_eq_true (by omega)]
 ·rw[decide_eq_false (by omega),decide_eq_false (fun hx=>by obtain⟨i,hi,e⟩:=au5 hx;exact h i hi e)]
theorem TM (a:Option Addr) (cap:Nat) (xs:List Int) (x:Int) (w:World) (hv:Vec w a xs.length xs) (hm:xs.length≤maxLen) :
  Calls Tryz.prog 127 #[.slice a xs.length cap,.int .i64 x] w fun e w'=>(∃ z:Int,e=.returned (.int .i64 z)∧Fz xs x z)∧w'=w:=by
 unfold maxLen at hm;have hc:=hv.2.2;clear hv;go_enter Tryz.func127,Tryz.ntmps127
 go_wp2
 go_loop [8] (fun i=>∃ k:Nat,k≤xs.length∧i=.int .i64 k∧∀ j,j<k→el xs j≠x) (fun i=>xs.length-(intOf i).toNat)
 case atStart=>exact⟨0,Nat.zero_le _,rfl,fun j hj=>by omega⟩
 case round =>
  obtain⟨k,hk,rfl,hall⟩:=hrel;have HA:=aj hall;clear hall;by_cases hlt:k<xs.length
  ·rcases hc with h0|⟨b,off,rfl,hc⟩
   ·omega
   have hck:=hc k hlt;clear hc;have k0:(0:Int)≤(k:Int):=by omega
   have k1:(k:Int)<(xs.length:Int):=by omega
   by_cases hx:el xs k=x
   ·have HX:Hid (Fz xs x (k:Int)):=.inl ⟨k,hlt,rfl,hx,HA.out⟩
    have hq:(x==el xs k)=true:=by simp[hx]
    clear hx;generalize el xs k=E at *;go_wp2;go_ret
    exact⟨⟨_,rfl,HX.out⟩,rfl⟩
   ·have HX:Hid (∀ j,j<k+1→el xs j≠x):=fun j hj=>by
     by_cases e:j=k
     ·rw[e];exact hx
     ·exact HA.out j (by omega)
    have hq:(x==el xs k)=false:=by simp[Ne.symm hx]
    clear hx;generalize el xs k=E at *;go_wp2
    go_round
    case rel=>exact⟨k+1,by omega,by go_num,HX.out⟩
    case measure=>simp[intOf];omega
  ·have k1:¬ ((k:Int)<(xs.length:Int)):=by omega
   obtain rfl:k=xs.length:=by omega
   clear hc;go_wp2;go_ret
   exact⟨⟨_,rfl,.inr ⟨rfl,HA.out⟩⟩,rfl⟩
theorem oV (a:Option Addr) (cap:Nat) (xs:List Int) (x:Int) (w:World) (hv:Vec w a xs.length xs) (hm:xs.length≤maxLen) :
  Calls Tryz.prog 88 #[.slice a xs.length cap,.int .i64 x] w fun e w'=>e=.returned (.bool (decide (x∈xs)))∧w'=w:=by
 have hI:=TM a cap xs x w hv hm;clear hv;go_enter Tryz.func88,Tryz.ntmps88
 go_wp2_with (go_at_call 127;refine hI.mono ?_;rintro e w' ⟨⟨z,rfl,hz⟩,hw'⟩;rw[hw'];clear hw';have HZ:Hid (Fz xs x z):=hz;clear hz)
 go_ret
 exact⟨aH (by rw[← HZ.out.mem]),rfl⟩
section
theorem qL (n:Int) (w:World):Calls Tryz.prog 52 #[.int .i64 n] w fun e w'=>e=.returned (.bool (inB n 1 5))∧w'=w:=by
 by_cases h0:(1:Int)≤n
 ·have H:Hid (inB n 1 5=decide (n≤5)):=by rw[Hid,inB];simp[h0]
  go_enter Tryz.func52,Tryz.ntmps52
  go_wp2;go_ret
  exact⟨aH (by rw[H.out]),rfl⟩
 ·have H:Hid (inB n 1 5=false):=by rw[Hid,inB];simp[h0]
  go_enter Tryz.func52,Tryz.ntmps52
  go_wp2;go_ret
  exact⟨aH (by rw[H.out]),rfl⟩
def wR (T:List (List UInt8)):Bool:=decide (T.length≤12)&&T.all (fun t=>decide (t.length≤20))
theorem Wx {T:List (List UInt8)} {k:Nat} (hk:k<T.length) (h:¬ (T.getD k []).length≤20):wR T=false:=by
 have:T.all (fun t=>decide (t.length≤20))=false:=by
  rw[List.all_eq_false];refine⟨T[k],List.getElem_mem hk, ?_⟩;rw[List.getD_eq_getElem?_getD,List.getElem?_eq_getElem hk] at h;simpa using h
 rw[wR,this];simp
theorem ab6 {T:List (List UInt8)} (h0:T.length≤12) (h:∀ k,k<T.length→(T.getD k []).length≤20):wR T=true:=by
 have:T.all (fun t=>decide (t.length≤20))=true:=by
  rw[List.all_eq_true];intro t ht;obtain⟨j,hj,rfl⟩:=List.mem_iff_getElem.1 ht;have:=h j hj;rw[List.getD_eq_getElem?_getD,List.getElem?_eq_getElem hj] at this;simpa using this
 rw[wR,decide_eq_true h0,this]
 rfl
attribute [local irreducible] sv
theorem TN (a:Option Addr) (cap:Nat) (T:List (List UInt8)) (w:World) (hv:qO w a T) (hm:T.length≤maxLen) :
  Calls Tryz.prog 94 #[.slice a T.length cap] w fun e w'=>e=.returned (.bool (wR T))∧w'=w:=by
 unfold maxLen at hm;by_cases h12:T.length≤12
 ·have g12:¬ ((12:Int)<(T.length:Int)):=by omega
  have H12:=aj h12;have HV:=aj hv;clear hv h12;go_enter Tryz.func94,Tryz.ntmps94
  go_wp2
  go_loop [10] (fun i=>∃ k:Nat,k≤T.length∧i=.int .i64 k∧∀ j,j<k→(T.getD j []).length≤20) (fun i=>T.length-(intOf i).toNat)
  case atStart=>exact⟨0,Nat.zero_le _,rfl,fun j hj=>by omega⟩
  case round =>
   obtain⟨k,hk,rfl,hall⟩:=hrel;have HA:=aj hall;clear hall;by_cases hlt:k<T.length
   ·rcases HV.out with h0|⟨b,off,rfl,hc⟩
    ·omega
    have hck:=hc k hlt;have k1:(k:Int)<(T.length:Int):=by omega
    have k0:(0:Int)≤(k:Int):=by omega
    clear hc;by_cases h20:(T.getD k []).length≤20
    ·have g20:¬ ((20:Int)<((T.getD k []).length:Int)):=by omega
     have HN:Hid (∀ j,j<k+1→(T.getD j []).length≤20):=fun j hj=>by
      rcases Nat.lt_succ_iff_lt_or_eq.1 hj with h1|h1
      ·exact HA.out j h1
      ·rw[h1];exact h20
     generalize T.getD k []=t at *;have hz:=vO t;clear h20;go_wp2
     go_round
     case rel=>exact⟨k+1,by omega,by go_num,HN.out⟩
     case measure=>simp[intOf];omega
    ·have g20:(20:Int)<((T.getD k []).length:Int):=by omega
     have HZ:=aj (Wx (k:=k) hlt h20);generalize T.getD k []=t at *;have hz:=vO t;clear h20;go_wp2;go_ret
     exact⟨aH (by rw[HZ.out]),rfl⟩
   ·have k1:¬ ((k:Int)<(T.length:Int)):=by omega
    have HZ:Hid (wR T=true):=ab6 H12.out (fun j hj=>HA.out j (by omega))
    go_wp2;go_ret
    exact⟨aH (by rw[HZ.out]),rfl⟩
 ·have g12:(12:Int)<(T.length:Int):=by omega
  have HZ:Hid (wR T=false):=by rw[Hid,wR,decide_eq_false h12];rfl
  clear hv h12;go_enter Tryz.func94,Tryz.ntmps94
  go_wp2;go_ret
  exact⟨aH (by rw[HZ.out]),rfl⟩
theorem az8 {x m:Int}:∀ {xs:List Int},hiL x xs≤m↔x≤m∧∀ y∈xs,y≤m:=by
 intro xs
 induction xs generalizing x with
 | nil=>simp[hiL]
 | cons y ys ih =>
  show hiL (max x y) ys≤m↔_
  rw[ih];simp only[List.mem_cons]
  constructor
  ·rintro⟨h1,h2⟩
   exact⟨by omega,fun z hz=>by rcases hz with rfl|hz;omega;exact h2 z hz⟩
  ·rintro⟨h1,h2⟩
   exact⟨by have:=h2 y (.inl rfl);omega,fun z hz=>h2 z (.inr hz)⟩
theorem aw4 {v:List Int} {n:Int} (h1:(v.length:Int)=n) (h2:okB v=true):jc v n=decide (hiL (el v 0) v.tail≤12):=by
 have hl:=(ji h2).1;rw[jc,h2,decide_eq_true h1,Bool.true_and,Bool.true_and,Bool.eq_iff_iff,decide_eq_true_eq,az8,List.all_eq_true]
 cases v with
 | nil=>simp at hl
 | cons x xs =>
  simp only[decide_eq_true_eq,List.mem_cons,List.tail_cons]
  constructor
  ·intro h
   exact⟨h _ (.inl rfl),fun y hy=>h y (.inr hy)⟩
  ·rintro⟨h,h'⟩ y hy
   rcases hy with rfl|hy
   ·exact h
   ·exact h' y hy
theorem Ik (a:Option Addr) (cap:Nat) (v:List Int) (n:Int) (w:World) (hv:Vec w a v.length v) (hcap:v.length≤cap) (hm:cap≤maxLen) :
  Calls Tryz.prog 95 #[.slice a v.length cap,.int .i64 n] w fun e w'=>e=.returned (.bool (jc v n))∧∃ m,w'=w.drewN m:=by
 have hV:=sK a v.length cap v w hv hcap hm;have hml:=Nat.le_trans hcap hm;unfold maxLen at hml;by_cases hl:(v.length:Int)=n
 ·have e1:((v.length:Int)==n)=true:=by simpa using hl
  cases hb:okB v with
  | false =>
   rw[hb] at hV;have HZ:Hid (jc v n=false):=by rw[Hid,jc,hb];rfl
   clear hb hl hv;go_enter Tryz.func95,Tryz.ntmps95
   go_wp2_with (go_at_call 130;refine hV.mono ?_;rintro e w' ⟨rfl,n1,rfl⟩)
   go_ret
   exact⟨aH (by rw[HZ.out]),_,rfl⟩
  | true =>
   rw[hb] at hV;have HZ:=aj (aw4 hl hb);have h18:=ji hb;clear hb hl;obtain⟨_,hf,hcs⟩:=hv
   have hG:Hid (∀ n,Calls Tryz.prog 131 #[.slice a v.length cap] (w.drewN n) fun e w'=>e=.returned (.int .i64 (hiL (el v 0) v.tail))∧∃ m,w'=(w.drewN n).drewN m):=by
    intro n;rcases hcs with h0|⟨b,off,rfl,hc⟩
    ·omega
    ·exact nG b off v.length cap v _ rfl hf (fun k hk=>by rw[World.cell?_drewN];exact hc k hk) (by omega) hcap hm
   clear hcs hf h18;generalize hiL (el v 0) v.tail=G at *;go_enter Tryz.func95,Tryz.ntmps95
   go_wp2_with (first|(go_at_call 130;refine hV.mono ?_;rintro e w' ⟨rfl,n1,rfl⟩)|(go_at_call 131;refine (hG.out _).mono ?_;rintro e w' ⟨rfl,n2,rfl⟩))
   go_ret
   exact⟨aH (by rw[HZ.out]),_,rfl⟩
 ·have e1:((v.length:Int)==n)=false:=by simpa using hl
  have HZ:Hid (jc v n=false):=by rw[Hid,jc,decide_eq_false hl];simp
  clear hl hv hV;go_enter Tryz.func95,Tryz.ntmps95
  go_wp2;go_ret
  exact⟨aH (by rw[HZ.out]),0,rfl⟩
theorem OC (n:Int) (l:List Int):decide (vI n l)=jv l n:=by
 rw[Bool.eq_iff_iff,decide_eq_true_eq,jv,Bool.and_eq_true,List.all_eq_true,vI,qE,decide_eq_true_eq]
 constructor
 ·rintro⟨h1,h2⟩
  refine⟨fun x hx=>?_,h2⟩
  obtain⟨j,hj,rfl⟩:=List.mem_iff_getElem.1 hx;have:=h1 j hj;rw[o8 hj] at this;exact dP.2 this
 ·rintro⟨h1,h2⟩
  exact⟨fun i hi=>dP.1 (h1 _ (iF hi)),h2⟩
theorem Lm (a a':Option Addr) (cap cap':Nat) (S T:List (List UInt8)) (w:World) (hv:qO w a S) (hv':qO w a' T) (hm:S.length≤maxLen) (hl:S.length=T.length) :
  Calls Tryz.prog 175 #[.slice a S.length cap,.slice a' T.length cap'] w fun e w'=>e=.returned (.bool (decide (S=T)))∧∃ n,w'=w.drewN n:=by
 unfold maxLen at hm;have hne:((S.length:Int) != (T.length:Int))=false:=by simp[hl]
 have HL:=aj hl;have HV:=aj hv;have HV':=aj hv';clear hl hv hv';go_enter Tryz.func175,Tryz.ntmps175
 go_wp2
 go_loopw [13] (fun i wr=>∃ k:Nat,k≤S.length∧i=.int .i64 k∧(∀ j,j<k→S.getD j []=T.getD j [])∧∃ n,wr=w.drewN n) (fun i _=>S.length-(intOf i).toNat)
 case atStart=>exact⟨0,Nat.zero_le _,rfl,fun j hj=>by omega,0,rfl⟩
 case round =>
  obtain⟨k,hk,rfl,hall,n,rfl⟩:=hrel;have HA:=aj hall;clear hall;by_cases hlt:k<S.length
  ·have hlq:k<T.length:=by rw[← HL.out];exact hlt
   rcases HV.out with h0|⟨b,off,rfl,hc⟩
   ·omega
   rcases HV'.out with h0|⟨b2,off2,rfl,hc2⟩
   ·omega
   have hck:=hc k hlt;have az9:=hc2 k hlq;have k1:(k:Int)<(S.length:Int):=by omega
   have k2:(k:Int)<(T.length:Int):=by omega
   have k0:(0:Int)≤(k:Int):=by omega
   clear hc hc2;by_cases he:S.getD k []=T.getD k []
   ·have HN:Hid (∀ j,j<k+1→S.getD j []=T.getD j []):=fun j hj=>by
     rcases Nat.lt_succ_iff_lt_or_eq.1 hj with h1|h1
     ·exact HA.out j h1
     ·rw[h1];exact he
    rw[← he] at az9;generalize S.getD k []=t at *;have ns:((sv t).toList==(sv t).toList)=true:=by simp
    clear he;go_wp2_with fail
    go_quiet (fail)
    go_wp2;go_roundw
    case rel=>exact⟨k+1,by omega,by go_num,HN.out,_,rfl⟩
    case measure=>simp[intOf];omega
   ·have HZ:Hid (decide (S=T)=false):=decide_eq_false (fun h=>he (by rw[h]))
    have ns:((sv (S.getD k [])).toList==(sv (T.getD k [])).toList)=false:=by rw[NH,NH];simpa using he
    generalize S.getD k []=t at *;generalize T.getD k []=t2 at *;clear he;go_wp2_with fail
    go_quiet (fail)
    go_wp2;go_ret
    exact⟨aH (by rw[HZ.out]),_,World.drewN_drewN _ _ _⟩
  ·have k1:¬ ((k:Int)<(S.length:Int)):=by omega
   have HZ : Hid (decide (S = T) = true) := decide_eq_true (List.ext_getElem HL.out (fun i h1 h2 => by
    have:=HA.out i (by omega)
    rwa [List.getD_eq_getElem?_getD,List.getElem?_eq_getElem h1,List.getD_eq_getElem?_getD,List.getElem?_eq_getElem h2] at this))
   go_wp2;go_ret
   exact⟨aH (by rw[HZ.out]),_,rfl⟩
theorem ab7 {w:World} {a:Option Addr} {cap:Nat} {T:List (List UInt8)} (hv:Dh w a cap T) {j:Nat} (hj:j≤T.length) :
  ∃ a' c',(∀ X,(Instr.slice 42 (.slice a T.length cap) none (some (.int .i64 (j:Int))) none).run Tryz.prog X=.ok (.slice a' j c') X)∧qO w a' (T.take j):=by
 obtain⟨i0,hi0,hz0,hz1,hz2⟩:=pW Tryz.info9
 have hcap:T.length≤cap:=by
  rcases hv with ⟨rfl,rfl,_⟩|⟨b,off,_,h,_⟩
  ·exact Nat.le_refl _
  ·exact h
 have hs:∀ X,(Instr.slice 42 (.slice a T.length cap) none (some (.int .i64 (j:Int))) none).run Tryz.prog X=.ok (sliced a 0 j cap 1) X:=fun X=>by
  rw[run_slice_h X 42 a T.length cap (by kernel_rfl) .i64 (j:Int) (by omega) (by omega)]
  rw[show Tryz.prog.elem 42=9 by kernel_rfl]
  rw[run_sizeOf X hi0,show Tryz.prog.cellsOf 9=1 by kernel_rfl]
  simp[Result.andThen]
 have hs2:∀ X,(Instr.slice 42 (.slice a T.length cap) none (some (.int .i64 (j:Int))) none).run Tryz.prog X=.ok (.slice a j cap) X:=fun X=>by
  rw[hs X]
  have e:(if cap=0 then a else a.map (·.add (0*1)))=a:=by
   split
   ·rfl
   ·rcases hv with ⟨rfl,rfl,_⟩|⟨b,off,rfl,_⟩
    ·omega
    ·simp[Addr.add]
  simp only[sliced,e,Nat.sub_zero]
 refine⟨_,_,hs2,hv.NM.take j⟩
def zH (T S:List (List UInt8)):Bool:=decide (S.length≤T.length)&&decide (T.take S.length=S)
theorem Wy (a b:Option Addr) (cap c:Nat) (T S:List (List UInt8)) (w:World) (hv:Dh w a cap T) (hu:qO w b S) (hm:T.length≤maxLen) (hm2:S.length≤maxLen) :
  Calls Tryz.prog 222 #[.slice a T.length cap,.slice b S.length c] w fun e w'=>e=.returned (.bool (zH T S))∧∃ n,w'=w.drewN n:=by
 by_cases hl:S.length≤T.length
 ·have k1:(S.length:Int)≤(T.length:Int):=by omega
  obtain⟨a',c',hs,ht⟩:=ab7 hv hl
  have hE:Calls Tryz.prog 175 #[.slice b S.length c,.slice a' S.length c'] w fun e w'=>e=.returned (.bool (decide (S=T.take S.length)))∧∃ n,w'=w.drewN n:=by
   have:=Lm b a' c c' S (T.take S.length) w hu ht hm2 (by rw[List.length_take];omega)
   rw[List.length_take,Nat.min_eq_left hl] at this;exact this
  have HZ:Hid (zH T S=decide (S=T.take S.length)):=by
   rw[Hid,zH,decide_eq_true hl,Bool.true_and];exact decide_eq_decide.2 eq_comm
  generalize decide (S=T.take S.length)=Q at *;unfold maxLen at hm hm2;clear hv hu ht hl;go_enter Tryz.func222,Tryz.ntmps222
  go_wp2_with (go_at_call 175;refine hE.mono ?_;rintro e w' ⟨rfl,n1,rfl⟩)
  go_ret
  exact⟨aH (by rw[HZ.out]),_,rfl⟩
 ·have k1:¬ ((S.length:Int)≤(T.length:Int)):=by omega
  have HZ:Hid (zH T S=false):=by rw[Hid,zH,decide_eq_false hl,Bool.false_and]
  unfold maxLen at hm hm2;clear hv hu hl;go_enter Tryz.func222,Tryz.ntmps222
  go_wp2;go_ret
  exact⟨aH (by rw[HZ.out]),0,rfl⟩
theorem Lp (a b:Option Addr) (c d:Nat) (l o:List Int) (w:World) (hv:Vec w a l.length l) (hu:Vec w b o.length o) (hm:l.length≤maxLen) (hm2:o.length≤maxLen) :
  Calls Tryz.prog 192 #[.slice b o.length d,.slice a l.length c] w fun e w'=>e=.returned (.bool (o.all (fun x=>decide (x∈l))))∧w'=w:=by
 have hH:=fun x=>oV a c l x w hv hm
 have HU:=aj hu;unfold maxLen at hm hm2;clear hu hv;go_enter Tryz.func192,Tryz.ntmps192
 go_wp2
 go_loop [9] (fun i=>∃ k:Nat,k≤o.length∧i=.int .i64 k∧∀ j,j<k→el o j∈l) (fun i=>o.length-(intOf i).toNat)
 case atStart=>exact⟨0,Nat.zero_le _,rfl,fun j hj=>by omega⟩
 case round =>
  obtain⟨k,hk,rfl,hall⟩:=hrel;have HA:=aj hall;clear hall;by_cases hlt:k<o.length
  ·rcases HU.out.2.2 with h0|⟨b',off,rfl,hc⟩
   ·omega
   have hck:=hc k hlt;have k1:(k:Int)<(o.length:Int):=by omega
   have k0:(0:Int)≤(k:Int):=by omega
   have hI:=hH (el o k);clear hc hH;by_cases hb:el o k∈l
   ·rw[decide_eq_true hb] at hI
    have HN:Hid (∀ j,j<k+1→el o j∈l):=fun j hj=>by
     rcases Nat.lt_succ_iff_lt_or_eq.1 hj with h1|h1
     ·exact HA.out j h1
     ·rw[h1];exact hb
    generalize el o k=x at *;clear hb;go_wp2_with (go_at_call 88;refine hI.mono ?_;rintro e w' ⟨rfl,hw'⟩;rw[hw'];clear hw')
    go_round
    case rel=>exact⟨k+1,by omega,by go_num,HN.out⟩
    case measure=>simp[intOf];omega
   ·rw[decide_eq_false hb] at hI
    have HZ:=aj (ED hlt hb);generalize el o k=x at *;clear hb;go_wp2_with (go_at_call 88;refine hI.mono ?_;rintro e w' ⟨rfl,hw'⟩;rw[hw'];clear hw')
    go_ret
    exact⟨aH (by rw[HZ.out]),rfl⟩
  ·have k1:¬ ((k:Int)<(o.length:Int)):=by omega
   have HZ:Hid (o.all (fun x=>decide (x∈l))=true):=GU (fun j hj=>HA.out j (by omega))
   go_wp2;go_ret
   exact⟨aH (by rw[HZ.out]),rfl⟩
end
def yU (A:Ra) (r:Rw):Value:=if r.aB then .iface 170 (bV A r) else if r.wed then .iface 171 (bV A r) else .iface 172 (bV A r)
def wS (r:Rw):Bool:=if r.aB then r.wed else decide (r.aC=0)&&decide (r.aA=[])
def lsB (r:Rw) (n:Int):Bool:=!r.aB||(inB r.aC 0 (n-1)&&jc r.aA n)
theorem ab8 (r:Rw) (n:Int):FY r n=(wS r&&lsB r n):=by
 unfold FY wS lsB
 cases r.aB<;>simp
theorem WA (A:Ra) (r:Rw) (w:World) (hm:r.aA.length≤maxLen) :
  Calls Tryz.prog 96 #[bV A r] w fun e w'=>∃ s,e=.returned (.tuple #[s,.bool (wS r)])∧(wS r=true→s=yU A r)∧Below w.heap.size w w':=by
 have hB0:=aF w (.cells (bD A r) 44);have hx:=Bx.new w 44 (bD A r);generalize hW:w.alloc (.cells (bD A r) 44)=W at *;obtain⟨ver,txt,got,ak,wed,aB,aC,aA⟩:=r;obtain⟨ta,tc,ga,gc,sa,sc,ma,mc⟩:=A;have hw0:w.alloc (.cells #[.int .i64 ver,.slice ta txt.length tc,.slice ga got.length gc,.slice sa ak.length sc,.bool wed,.bool aB,.int .i64 aC,.slice ma aA.length mc] 44)=W:=hW;obtain⟨⟨c0,c1,c2,c3⟩,c4,c5,c6,c7⟩:=Bx.r8 hx;simp only at c0 c1 c2 c3 c4 c5 c6 c7 hm
 have HB0:Hid (Below w.heap.size w W):=hB0;unfold maxLen at hm;unfold bV bD;clear hx hW hB0;simp only
 cases aB with
 | true =>
  have HZ:Hid (wS ⟨ver,txt,got,ak,wed,true,aC,aA⟩=wed):=by rw[Hid,wS];rfl
  go_enter Tryz.func96,Tryz.ntmps96
  go_wp2_with fail
  go_quiet (fail)
  go_wp2;refine bodyPost_ret (v:=.tuple #[.iface 170 (.agg #[.int .i64 ver,.slice ta txt.length tc,.slice ga got.length gc,.slice sa ak.length sc,.bool wed,.bool true,.int .i64 aC,.slice ma aA.length mc]),.bool wed]) (by simp[results,Tryz.results96,go_sem, *]) rfl ?_
  exact⟨yU ⟨ta,tc,ga,gc,sa,sc,ma,mc⟩ ⟨ver,txt,got,ak,wed,true,aC,aA⟩,by rw[HZ.out];rfl,fun _=>rfl,bg HB0.out⟩
 | false =>
  by_cases hy:aC=0
  ·have e1:(aC != 0)=false:=by simpa using hy
   by_cases ht:aA=[]
   ·have g1:¬ ((0:Int)<(aA.length:Int)):=by rw[ht];simp
    have HZ:Hid (wS ⟨ver,txt,got,ak,wed,false,aC,aA⟩=true):=by rw[Hid,wS];simp[hy,ht]
    clear hy ht
    cases wed with
    | true =>
     go_enter Tryz.func96,Tryz.ntmps96
     go_wp2;refine bodyPost_ret (v:=.tuple #[.iface 171 (.agg #[.int .i64 ver,.slice ta txt.length tc,.slice ga got.length gc,.slice sa ak.length sc,.bool true,.bool false,.int .i64 aC,.slice ma aA.length mc]),.bool true]) (by simp[results,Tryz.results96,go_sem, *]) rfl ?_
     exact⟨yU ⟨ta,tc,ga,gc,sa,sc,ma,mc⟩ ⟨ver,txt,got,ak,true,false,aC,aA⟩,by rw[HZ.out];rfl,fun _=>rfl,HB0.out⟩
    | false =>
     go_enter Tryz.func96,Tryz.ntmps96
     go_wp2;refine bodyPost_ret (v:=.tuple #[.iface 172 (.agg #[.int .i64 ver,.slice ta txt.length tc,.slice ga got.length gc,.slice sa ak.length sc,.bool false,.bool false,.int .i64 aC,.slice ma aA.length mc]),.bool true]) (by simp[results,Tryz.results96,go_sem, *]) rfl ?_
     exact⟨yU ⟨ta,tc,ga,gc,sa,sc,ma,mc⟩ ⟨ver,txt,got,ak,false,false,aC,aA⟩,by rw[HZ.out];rfl,fun _=>rfl,HB0.out⟩
   ·have g1:(0:Int)<(aA.length:Int):=by
     cases aA with
     | nil=>exact absurd rfl ht
     | cons x xs=>simp only[List.length_cons];omega
    have HZ:Hid (wS ⟨ver,txt,got,ak,wed,false,aC,aA⟩=false):=by rw[Hid,wS];simp[ht]
    clear hy ht;go_enter Tryz.func96,Tryz.ntmps96
    go_wp2;refine bodyPost_ret (v:=.tuple #[.nilIface,.bool false]) (by simp[results,Tryz.results96,go_sem, *]) rfl ?_
    exact⟨.nilIface,by rw[HZ.out],fun h=>(by rw[HZ.out] at h;cases h),HB0.out⟩
  ·have e1:(aC != 0)=true:=by simpa using hy
   have HZ:Hid (wS ⟨ver,txt,got,ak,wed,false,aC,aA⟩=false):=by rw[Hid,wS];simp[hy]
   clear hy;go_enter Tryz.func96,Tryz.ntmps96
   go_wp2;refine bodyPost_ret (v:=.tuple #[.nilIface,.bool false]) (by simp[results,Tryz.results96,go_sem, *]) rfl ?_
   exact⟨.nilIface,by rw[HZ.out],fun h=>(by rw[HZ.out] at h;cases h),HB0.out⟩
theorem ab9 (v:Value) (w:World):(Instr.typeAssert (.iface 170 v) 84 174 true).run Tryz.prog w=.ok (.tuple #[.iface 170 v,.bool true]) w:=by kernel_rfl
theorem ac0 (v:Value) (w:World):(Instr.typeAssert (.iface 171 v) 84 174 true).run Tryz.prog w=.ok (.tuple #[.nilIface,.bool false]) w:=run_typeAssert_lacksB Tryz.underlying174 (by kernel_rfl) (by kernel_rfl) v 84 w
theorem ac1 (v:Value) (w:World):(Instr.typeAssert (.iface 172 v) 84 174 true).run Tryz.prog w=.ok (.tuple #[.nilIface,.bool false]) w:=run_typeAssert_lacksB Tryz.underlying174 (by kernel_rfl) (by kernel_rfl) v 84 w
theorem ac2 (v : Value) (w : World) : (Go.method 326 170 v "loop.example/g00266/impl.end").run Tryz.prog w = .ok (219, v) w := by kernel_rfl
theorem ac3 (v : Value) (w : World) : (Go.method 326 170 v "loop.example/g00266/impl.mayBecome").run Tryz.prog w = .ok (220, v) w := by kernel_rfl
theorem ac5 (v : Value) (w : World) : (Go.method 326 171 v "loop.example/g00266/impl.mayBecome").run Tryz.prog w = .ok (225, v) w := by kernel_rfl
theorem ac6 (v : Value) (w : World) : (Go.method 326 172 v "loop.example/g00266/impl.mayBecome").run Tryz.prog w = .ok (226, v) w := by kernel_rfl
theorem WB (A:Ra) (r:Rw) (w:World) :
  Calls Tryz.prog 219 #[bV A r] w fun e w'=>e=.returned (.tuple #[.int .i64 r.aC,.slice A.ma r.aA.length A.mc])∧Below w.heap.size w w':=by
 have hB0:=aF w (.cells (bD A r) 170);have hx:=Bx.new w 170 (bD A r);generalize hW:w.alloc (.cells (bD A r) 170)=W at *;obtain⟨ver,txt,got,ak,wed,aB,aC,aA⟩:=r;obtain⟨ta,tc,ga,gc,sa,sc,ma,mc⟩:=A;have hw0:w.alloc (.cells #[.int .i64 ver,.slice ta txt.length tc,.slice ga got.length gc,.slice sa ak.length sc,.bool wed,.bool aB,.int .i64 aC,.slice ma aA.length mc] 170)=W:=hW;obtain⟨⟨c0,c1,c2,c3⟩,c4,c5,c6,c7⟩:=Bx.r8 hx;simp only at c0 c1 c2 c3 c4 c5 c6 c7
 have HB0:Hid (Below w.heap.size w W):=hB0;unfold bV bD;clear hx hW hB0;simp only
 go_enter Tryz.func219,Tryz.ntmps219
 go_wp2_with fail
 go_quiet (fail)
 go_wp2;refine bodyPost_ret (v:=.tuple #[.int .i64 aC,.slice ma aA.length mc]) (by simp[results,Tryz.results219,go_sem, *]) rfl ?_
 exact⟨rfl,bg HB0.out⟩
theorem WC (A:Ra) (r:Rw) (n:Int) (w:World) (hv:iM w A r) (hn:1≤n∧n≤5) :
  Calls Tryz.prog 97 #[yU A r,.int .i64 n] w fun e w'=>e=.returned (.bool (lsB r n))∧Below w.heap.size w w':=by
 have hwn:wrap64 (n-1)=n-1:=by unfold wrap64;omega
 clear hn
 cases e1:r.aB with
 | false =>
  have HZ:Hid (lsB r n=true):=by rw[Hid,lsB,e1];rfl
  unfold yU;rw[e1];clear e1 hv
  cases e2:r.wed with
  | false =>
   clear e2;generalize bV A r=v;have ha:=ac1 v;simp only[Bool.false_eq_true,if_false]
   go_enter Tryz.func97,Tryz.ntmps97
   go_wp2;go_ret
   exact⟨aH (by rw[HZ.out]),Below.refl _ _⟩
  | true =>
   clear e2;generalize bV A r=v;have ha:=ac0 v;simp only[Bool.false_eq_true,if_false,if_true]
   go_enter Tryz.func97,Tryz.ntmps97
   go_wp2;go_ret
   exact⟨aH (by rw[HZ.out]),Below.refl _ _⟩
 | true =>
  have hE:=fun X=>WB A r X
  have HC:Hid (∀ X,Below w.heap.size w X→Calls Tryz.prog 95 #[.slice A.ma r.aA.length A.mc,.int .i64 n] X fun e w'=>e=.returned (.bool (jc r.aA n))∧∃ m,w'=X.drewN m):=fun X h=>Ik A.ma A.mc r.aA n X (hv.below h).aA.vec hv.aA.le hv.aA.mx
  have HZ:Hid (lsB r n=(inB r.aC 0 (n-1)&&jc r.aA n)):=by rw[Hid,lsB,e1];rfl
  unfold yU;rw[e1];clear e1 hv;generalize bV A r=v at *;generalize r.aC=Y at *;generalize r.aA.length=L at *;generalize jc r.aA n=Q at *;obtain⟨ta,tc,ga,gc,sa,sc,ma,mc⟩:=A;simp only at hE HC
  have ha:=ab9 v;have hm:=ac2 v;simp only[if_true]
  cases e2:inB Y 0 (n-1) with
  | false =>
   rw[e2] at HZ;go_enter Tryz.func97,Tryz.ntmps97
   go_wp2_with (first|(go_at_call 219;refine (hE _).mono ?_;rintro e w1 ⟨rfl,hb1⟩)|(go_at_call 87;refine (iI _ _ _).mono ?_;rintro e w' ⟨rfl,hw'⟩;rw[hw',e2];clear hw'))
   go_ret
   exact⟨aH (by rw[HZ.out];rfl),hb1⟩
  | true =>
   rw[e2] at HZ;go_enter Tryz.func97,Tryz.ntmps97
   go_wp2_with (first|(go_at_call 219;refine (hE _).mono ?_;rintro e w1 ⟨rfl,hb1⟩)|(go_at_call 87;refine (iI _ _ _).mono ?_;rintro e w' ⟨rfl,hw'⟩;rw[hw',e2];clear hw')|(go_at_call 95;refine (HC.out _ hb1).mono ?_;rintro e w' ⟨rfl,m1,rfl⟩))
   go_ret
   exact⟨aH (by rw[HZ.out];rfl),bg hb1⟩
end Go.Proofs.YtafimeakbdmkjaaGreat