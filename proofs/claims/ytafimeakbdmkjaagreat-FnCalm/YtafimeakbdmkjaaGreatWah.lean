/-
  Texts in one.
-/
import Derived.Test.YtafimeakbdmkjaaGreatWag
import Derived.Test.YtafimeakbdmkjaaGreatWac
import Derived.Test.YtafimeakbdmkjaaGreatWae
import Derived.Test.YtafimeakbdmkjaaGreatWad
import Derived.Test.YtafimeakbdmkjaaGreatWaa
import Derived.Test.YtafimeakbdmkjaaGreatWab
import Derived.BigQuiet
import Derived.Stop.Asserts
import Derived.Shelf.Strconv.Clone
import Derived.Shelf.SlGeneric
import Derived.Lib.SliceRun
namespace Go.Proofs.YtafimeakbdmkjaaGreat
open Bool renaming and_eq_true->aU2,false->aC,true->aB
open Go renaming Calls->ba3,Value->aJ,World->aI,bodyPost_ret->aY1,maxLen->ba2,wpQuiet_nil->aZ2
open Go.Addr.mk renaming injEq->aX6
open Go.Ending renaming returned->aK
open Go.Instr renaming typeAssert->aU4
open Go.IntKind renaming i64->aA
open Go.Obj renaming cells->aH
open Go.Proofs.Tryz renaming prog->aZ8
open Go.Region renaming ready->aY9,wanted->aY0
open Go.RowKit renaming Hid->aG,intOf->ba4
open Go.RowKit.Below renaming refl->aZ5
open Go.Value renaming agg->aP,bool->aF,int->ah,pointer->aO,slice->aj
open Go.World renaming cell?_of_block->bT,cell?_setCell_other->bg,size_alloc->aU1
open List renaming all_eq_true->aU3,drop_succ_cons->cZ,drop_zero->aX0,getD->ba0,length_append->dB,length_cons->aU6,length_take->aU5,mem_cons->aX5,mem_iff_getElem->bU,mem_of_getElem?->bW,mem_range->aX1,range->aZ6,take_length->aV2,take_succ_cons->dA,take_succ_eq_append_getElem->aS,take_zero->aX2
open Nat renaming le_refl->aZ0,le_trans->aY2,lt_succ_iff_lt_or_eq->bD,zero_le->aZ1
open Option renaming none->ak,some->au
open Option.some renaming inj->aV4
set_option linter.unusedVariables false
set_option linter.unusedSimpArgs false
open Go.RowKit Go.Sort
set_option maxRecDepth 100000
set_option maxHeartbeats 12800000
variable {r r':Rw} {n:Int} {X1 w w':aI} {A:Ga} {g j k off:Nat} {a:Option Addr} {T:TypeId} {x0 x1 x2 x3:aJ} {cl:eF} {Ar:Ra} {f fr:Fp}
def Em (A:Ra) (r:Rw):aJ:=if r.dV then .iface 170 (iK A r) else if r.wed then .iface 171 (iK A r) else .iface 172 (iK A r)
def AV (r:Rw):Bool:=if r.dV then r.wed else decide (r.dW=0)&&decide (r.dU=[])
def lsB (r:Rw) (n:Int):Bool:=!r.dV||(inB r.dW 0 (n-1)&&lZ r.dU n)
theorem aq6 (r:Rw) (n:Int):J7 r n=(AV r&&lsB r n):=by
 unfold J7 AV lsB
 cases r.dV<;>simp
theorem ac2 (A:Ra) (r:Rw) (w:aI) (hm:r.dU.length<=ba2) :
  ba3 aZ8 96 #[iK A r] w fun e w'=>∃ s,e=aK (.tuple #[s,aF (AV r)])/\(AV r=aB->s=Em A r)/\Below w.heap.size w w':=by
 have hB0:=dX w (aH (fP A r) 44);have hx:=Bx.new w 44 (fP A r);generalize hW:w.alloc (aH (fP A r) 44)=W at *;obtain⟨ver,txt,got,dQ,wed,dV,dW,dU⟩:=r;obtain⟨ta,tc,ga,gc,sa,sc,ma,mc⟩:=A;have hw0:w.alloc (aH #[ah aA ver,aj ta txt.length tc,aj ga got.length gc,aj sa dQ.length sc,aF wed,aF dV,ah aA dW,aj ma dU.length mc] 44)=W:=hW;obtain⟨⟨c0,c1,c2,c3⟩,c4,c5,c6,c7⟩:=Bx.r8 hx;simp only at c0 c1 c2 c3 c4 c5 c6 c7 hm
 have HB0:aG (Below w.heap.size w W):=hB0;unfold ba2 at hm;unfold iK fP;clear hx hW hB0;simp only
 cases dV with
 | true =>
  have HZ:aG (AV ⟨ver,txt,got,dQ,wed,aB,dW,dU⟩=wed):=by rw[aG,AV];rfl
  go_enter Tryz.func96,Tryz.ntmps96
  go_wp2_with fail
  go_quiet (fail)
  go_wp2;refine aY1 (v:=.tuple #[.iface 170 (aP #[ah aA ver,aj ta txt.length tc,aj ga got.length gc,aj sa dQ.length sc,aF wed,aF aB,ah aA dW,aj ma dU.length mc]),aF wed]) (by simp[results,Tryz.results96,go_sem, *]) rfl ?_
  exact⟨Em ⟨ta,tc,ga,gc,sa,sc,ma,mc⟩ ⟨ver,txt,got,dQ,wed,aB,dW,dU⟩,by rw[HZ.out];rfl,fun _=>rfl,fO HB0.out⟩
 | false =>
  by_cases hy:dW=0
  ·have e1:(dW != 0)=aC:=by simpa using hy
   by_cases ht:dU=[]
   ·have g1:¬ ((0:Int)<dU.length):=by rw[ht];simp
    have HZ:aG (AV ⟨ver,txt,got,dQ,wed,aC,dW,dU⟩=aB):=by rw[aG,AV];simp[hy,ht]
    clear hy ht
    cases wed with
    | true =>
     go_enter Tryz.func96,Tryz.ntmps96
     go_wp2;refine aY1 (v:=.tuple #[.iface 171 (aP #[ah aA ver,aj ta txt.length tc,aj ga got.length gc,aj sa dQ.length sc,aF aB,aF aC,ah aA dW,aj ma dU.length mc]),aF aB]) (by simp[results,Tryz.results96,go_sem, *]) rfl ?_
     exact⟨Em ⟨ta,tc,ga,gc,sa,sc,ma,mc⟩ ⟨ver,txt,got,dQ,aB,aC,dW,dU⟩,by rw[HZ.out];rfl,fun _=>rfl,HB0.out⟩
    | false =>
     go_enter Tryz.func96,Tryz.ntmps96
     go_wp2;refine aY1 (v:=.tuple #[.iface 172 (aP #[ah aA ver,aj ta txt.length tc,aj ga got.length gc,aj sa dQ.length sc,aF aC,aF aC,ah aA dW,aj ma dU.length mc]),aF aB]) (by simp[results,Tryz.results96,go_sem, *]) rfl ?_
     exact⟨Em ⟨ta,tc,ga,gc,sa,sc,ma,mc⟩ ⟨ver,txt,got,dQ,aC,aC,dW,dU⟩,by rw[HZ.out];rfl,fun _=>rfl,HB0.out⟩
   ·have g1:(0:Int)<dU.length:=by
     cases dU with
     | nil=>exact absurd rfl ht
     | cons x xs=>simp only[aU6];omega
    have HZ:aG (AV ⟨ver,txt,got,dQ,wed,aC,dW,dU⟩=aC):=by rw[aG,AV];simp[ht]
    clear hy ht;go_enter Tryz.func96,Tryz.ntmps96
    go_wp2;refine aY1 (v:=.tuple #[.nilIface,aF aC]) (by simp[results,Tryz.results96,go_sem, *]) rfl ?_
    exact⟨.nilIface,by rw[HZ.out],fun h=>(by rw[HZ.out] at h;cases h),HB0.out⟩
  ·have e1:(dW != 0)=aB:=by simpa using hy
   have HZ:aG (AV ⟨ver,txt,got,dQ,wed,aC,dW,dU⟩=aC):=by rw[aG,AV];simp[hy]
   clear hy;go_enter Tryz.func96,Tryz.ntmps96
   go_wp2;refine aY1 (v:=.tuple #[.nilIface,aF aC]) (by simp[results,Tryz.results96,go_sem, *]) rfl ?_
   exact⟨.nilIface,by rw[HZ.out],fun h=>(by rw[HZ.out] at h;cases h),HB0.out⟩
theorem aq7 (v:aJ) (w:aI):(aU4 (.iface 170 v) 84 174 aB).run aZ8 w=.ok (.tuple #[.iface 170 v,aF aB]) w:=by kernel_rfl
theorem aq8 (v:aJ) (w:aI):(aU4 (.iface 171 v) 84 174 aB).run aZ8 w=.ok (.tuple #[.nilIface,aF aC]) w:=run_typeAssert_lacksB Tryz.underlying174 (by kernel_rfl) (by kernel_rfl) v 84 w
theorem aq9 (v:aJ) (w:aI):(aU4 (.iface 172 v) 84 174 aB).run aZ8 w=.ok (.tuple #[.nilIface,aF aC]) w:=run_typeAssert_lacksB Tryz.underlying174 (by kernel_rfl) (by kernel_rfl) v 84 w
theorem ar0 (v : Value) (w : World) : (Go.method 326 170 v "loop.example/g00266/impl.end").run Tryz.prog w = .ok (219, v) w := by kernel_rfl
theorem ac3 (A:Ra) (r:Rw) (w:aI) :
  ba3 aZ8 219 #[iK A r] w fun e w'=>e=aK (.tuple #[ah aA r.dW,aj A.ma r.dU.length A.mc])/\Below w.heap.size w w':=by
 have hB0:=dX w (aH (fP A r) 170);have hx:=Bx.new w 170 (fP A r);generalize hW:w.alloc (aH (fP A r) 170)=W at *;obtain⟨ver,txt,got,dQ,wed,dV,dW,dU⟩:=r;obtain⟨ta,tc,ga,gc,sa,sc,ma,mc⟩:=A;have hw0:w.alloc (aH #[ah aA ver,aj ta txt.length tc,aj ga got.length gc,aj sa dQ.length sc,aF wed,aF dV,ah aA dW,aj ma dU.length mc] 170)=W:=hW;obtain⟨⟨c0,c1,c2,c3⟩,c4,c5,c6,c7⟩:=Bx.r8 hx;simp only at c0 c1 c2 c3 c4 c5 c6 c7
 have HB0:aG (Below w.heap.size w W):=hB0;unfold iK fP;clear hx hW hB0;simp only
 go_enter Tryz.func219,Tryz.ntmps219
 go_wp2_with fail
 go_quiet (fail)
 go_wp2;refine aY1 (v:=.tuple #[ah aA dW,aj ma dU.length mc]) (by simp[results,Tryz.results219,go_sem, *]) rfl ?_
 exact⟨rfl,fO HB0.out⟩
theorem ac5 (A:Ra) (r:Rw) (n:Int) (w:aI) (hv:qo w A r) (hn:1<=n/\n<=5) :
  ba3 aZ8 97 #[Em A r,ah aA n] w fun e w'=>e=aK (aF (lsB r n))/\Below w.heap.size w w':=by
 have hwn:wrap64 (n-1)=n-1:=by unfold wrap64;omega
 clear hn
 cases e1:r.dV with
 | false =>
  have HZ:aG (lsB r n=aB):=by rw[aG,lsB,e1];rfl
  unfold Em;rw[e1];clear e1 hv
  cases e2:r.wed with
  | false =>
   clear e2;generalize iK A r=v;have ha:=aq9 v;simp only[Bool.false_eq_true,if_false]
   go_enter Tryz.func97,Tryz.ntmps97
   go_wp2;go_ret
   exact⟨dZ (by rw[HZ.out]),aZ5 _ _⟩
  | true =>
   clear e2;generalize iK A r=v;have ha:=aq8 v;simp only[Bool.false_eq_true,if_false,if_true]
   go_enter Tryz.func97,Tryz.ntmps97
   go_wp2;go_ret
   exact⟨dZ (by rw[HZ.out]),aZ5 _ _⟩
 | true =>
  have hE:=fun X=>ac3 A r X
  have HC:aG (∀ X,Below w.heap.size w X->ba3 aZ8 95 #[aj A.ma r.dU.length A.mc,ah aA n] X fun e w'=>e=aK (aF (lZ r.dU n))/\∃ m,w'=X.drewN m):=fun X h=>ML A.ma A.mc r.dU n X (hv.below h).dU.vec hv.dU.le hv.dU.mx
  have HZ:aG (lsB r n=(inB r.dW 0 (n-1)&&lZ r.dU n)):=by rw[aG,lsB,e1];rfl
  unfold Em;rw[e1];clear e1 hv;generalize iK A r=v at *;generalize r.dW=Y at *;generalize r.dU.length=L at *;generalize lZ r.dU n=Q at *;obtain⟨ta,tc,ga,gc,sa,sc,ma,mc⟩:=A;simp only at hE HC
  have ha:=aq7 v;have hm:=ar0 v;simp only[if_true]
  cases e2:inB Y 0 (n-1) with
  | false =>
   rw[e2] at HZ;go_enter Tryz.func97,Tryz.ntmps97
   go_wp2_with (first|(go_at_call 219;refine (hE _).mono ?_;rintro e w1 ⟨rfl,hb1⟩)|(go_at_call 87;refine (lq _ _ _).mono ?_;rintro e w' ⟨rfl,hw'⟩;rw[hw',e2];clear hw'))
   go_ret
   exact⟨dZ (by rw[HZ.out];rfl),hb1⟩
  | true =>
   rw[e2] at HZ;go_enter Tryz.func97,Tryz.ntmps97
   go_wp2_with (first|(go_at_call 219;refine (hE _).mono ?_;rintro e w1 ⟨rfl,hb1⟩)|(go_at_call 87;refine (lq _ _ _).mono ?_;rintro e w' ⟨rfl,hw'⟩;rw[hw',e2];clear hw')|(go_at_call 95;refine (HC.out _ hb1).mono ?_;rintro e w' ⟨rfl,m1,rfl⟩))
   go_ret
   exact⟨dZ (by rw[HZ.out];rfl),fO hb1⟩
theorem ar1 (h:AU r.txt=aC):gu r n=aC:=by
 rw[AU,Bool.and_eq_false_iff] at h;rw[gu];rcases h with h|h<;>simp[h]
theorem XU (h1:inB n 1 5=aB) (h2:inB r.ver 0 1000000=aB) (h3:AU r.txt=aB) (h4:lZ r.got n=aB) (h5:mX r.dQ n=aB):gu r n=(AV r&&lsB r n):=by
 rw[AU,aU2] at h3;rw[<- aq6,gu,h1,h2,h3.1,h3.2,h4,h5]
 rfl
theorem ac6 (A:Ra) (r:Rw) (n:Int) (w:aI) (hv:qo w A r) :
  ba3 aZ8 50 #[iK A r,ah aA n] w fun e w'=>∃ s,e=aK (.tuple #[s,aF (gu r n)])/\(gu r n=aB->s=Em A r)/\Below w.heap.size w w':=by
 have hB0:=dX w (aH (fP A r) 44);have hx:=Bx.new w 44 (fP A r);have h0:=hv.below hB0;generalize hW:w.alloc (aH (fP A r) 44)=W at *;have hS:=h0.rws;have hTx:=XT A.ta A.tc r.txt W h0.txt.RP hS.mt;have XV:=ML A.ga A.gc r.got n W h0.got.vec h0.got.le h0.got.mx
 have Gq:∀ m,ba3 aZ8 89 #[aj A.sa r.dQ.length A.sc,ah aA (n-1)] (W.drewN m) fun e w'=>e=aK (aF (mX r.dQ n))/\w'=W.drewN m:=fun m=>by
  have:=Qc A.sa r.dQ.length A.sc n r.dQ (W.drewN m) (h0.below (fO (aZ5 _ _))).dQ.vec hS.ms;rw[Ti] at this;exact this
 have uH:=fun X=>ac2 A r X hS.mm
 have Jv:∀ X,Below W.heap.size W X->1<=n/\n<=5->ba3 aZ8 97 #[Em A r,ah aA n] X fun e w'=>e=aK (aF (lsB r n))/\Below X.heap.size X w':=fun X h hn=>ac5 A r n X (h0.below h) hn
 have HZn:aG (inB n 1 5=aC->gu r n=aC):=fun h=>V4 h
 have HZv:aG (inB r.ver 0 1000000=aC->gu r n=aC):=fun h=>V5 h
 have HZt:aG (AU r.txt=aC->gu r n=aC):=fun h=>ar1 h
 have HZg:aG (lZ r.got n=aC->gu r n=aC):=fun h=>IL h
 have HZs:aG (mX r.dQ n=aC->gu r n=aC):=fun h=>V7 h
 have HZe:aG (inB n 1 5=aB->inB r.ver 0 1000000=aB->AU r.txt=aB->lZ r.got n=aB->mX r.dQ n=aB->gu r n=(AV r&&lsB r n)):=fun a b c d e=>XU a b c d e
 have HB0:aG (Below w.heap.size w W):=hB0;have HSt:aG (∀ s:aJ,s=Em A r->s=Em A r):=fun _ h=>h
 generalize hq:gu r n=Q at *;clear hq;generalize Em A r=V at *;generalize AV r=fl at *;generalize lsB r n=ls at *;generalize AU r.txt=tb at *;generalize lZ r.got n=sg at *;generalize mX r.dQ n=sb at *;obtain⟨ver,txt,got,dQ,wed,dV,dW,dU⟩:=r;obtain⟨ta,tc,ga,gc,sa,sc,ma,mc⟩:=A;have hw0:w.alloc (aH #[ah aA ver,aj ta txt.length tc,aj ga got.length gc,aj sa dQ.length sc,aF wed,aF dV,ah aA dW,aj ma dU.length mc] 44)=W:=hW;obtain⟨⟨c0,c1,c2,c3⟩,c4,c5,c6,c7⟩:=Bx.r8 hx;simp only[iK,fP] at c0 c1 c2 c3 c4 c5 c6 c7 hTx XV Gq uH HZv HZe;unfold iK fP;clear hv h0 hx hW hB0 hS;simp only
 cases e1:inB n 1 5 with
 | false =>
  have HZ:aG (Q=aC):=HZn.out e1;go_enter Tryz.func50,Tryz.ntmps50
  go_wp2_with (first|(go_at_call 52;refine (vK _ _).mono ?_;rintro e w' ⟨rfl,hw'⟩;rw[hw',e1];clear hw'))
  refine aY1 (v:=.tuple #[.nilIface,aF aC]) (by simp[results,Tryz.results50,go_sem, *]) rfl ?_
  exact⟨.nilIface,by rw[HZ.out],fun h=>(by rw[HZ.out] at h;cases h),HB0.out⟩
 | true =>
 have jy:=iQ.1 e1;have hwn:wrap64 (n-1)=n-1:=by unfold wrap64;omega
 have aP1:=fun X h=>Jv X h jy
 have Ci:aG (inB n 1 5=aB):=e1
 have hRl:∀ X,ba3 aZ8 52 #[ah aA n] X fun e w'=>e=aK (aF aB)/\w'=X:=fun X=>by
  have:=vK n X;rw[e1] at this;exact this
 clear e1 Jv jy
 cases e2:inB ver 0 1000000 with
 | false =>
  have HZ:aG (Q=aC):=HZv.out e2;go_enter Tryz.func50,Tryz.ntmps50
  go_wp2_with (first|(go_at_call 52;refine fV (hRl _) ?_)|(go_at_call 87;refine (lq _ _ _).mono ?_;rintro e w' ⟨rfl,hw'⟩;rw[hw',e2];clear hw'))
  refine aY1 (v:=.tuple #[.nilIface,aF aC]) (by simp[results,Tryz.results50,go_sem, *]) rfl ?_
  exact⟨.nilIface,by rw[HZ.out],fun h=>(by rw[HZ.out] at h;cases h),HB0.out⟩
 | true =>
 have xq:aG (inB ver 0 1000000=aB):=e2
 have MN:∀ X,ba3 aZ8 87 #[ah aA ver,ah aA 1000000] X fun e w'=>e=aK (aF aB)/\w'=X:=fun X=>by
  have:=lq ver 1000000 X;rw[e2] at this;exact this
 clear e2
 cases tb with
 | false =>
  have HZ:aG (Q=aC):=HZt.out rfl;go_enter Tryz.func50,Tryz.ntmps50
  go_wp2_with (first|(go_at_call 52;refine fV (hRl _) ?_)|(go_at_call 87;refine fV (MN _) ?_)|(go_at_call 94;refine fV hTx ?_))
  refine aY1 (v:=.tuple #[.nilIface,aF aC]) (by simp[results,Tryz.results50,go_sem, *]) rfl ?_
  exact⟨.nilIface,by rw[HZ.out],fun h=>(by rw[HZ.out] at h;cases h),HB0.out⟩
 | true =>
 cases sg with
 | false =>
  have HZ:aG (Q=aC):=HZg.out rfl;go_enter Tryz.func50,Tryz.ntmps50
  go_wp2_with (first|(go_at_call 52;refine fV (hRl _) ?_)|(go_at_call 87;refine fV (MN _) ?_)|(go_at_call 94;refine fV hTx ?_)|(go_at_call 95;refine XV.mono ?_;rintro e w' ⟨rfl,m1,rfl⟩))
  refine aY1 (v:=.tuple #[.nilIface,aF aC]) (by simp[results,Tryz.results50,go_sem, *]) rfl ?_
  exact⟨.nilIface,by rw[HZ.out],fun h=>(by rw[HZ.out] at h;cases h),fO HB0.out⟩
 | true =>
 cases sb with
 | false =>
  have HZ:aG (Q=aC):=HZs.out rfl;go_enter Tryz.func50,Tryz.ntmps50
  go_wp2_with (first|(go_at_call 52;refine fV (hRl _) ?_)|(go_at_call 87;refine fV (MN _) ?_)|(go_at_call 94;refine fV hTx ?_)|(go_at_call 95;refine XV.mono ?_;rintro e w' ⟨rfl,m1,rfl⟩)|(go_at_call 89;refine fV (Gq _) ?_))
  refine aY1 (v:=.tuple #[.nilIface,aF aC]) (by simp[results,Tryz.results50,go_sem, *]) rfl ?_
  exact⟨.nilIface,by rw[HZ.out],fun h=>(by rw[HZ.out] at h;cases h),fO HB0.out⟩
 | true =>
 have HE:aG (Q=(fl&&ls)):=HZe.out Ci.out xq.out rfl rfl rfl;clear HZn HZv HZt HZg HZs HZe Ci xq
 cases fl with
 | false =>
  have HZ:aG (Q=aC):=by rw[aG,HE.out];rfl
  go_enter Tryz.func50,Tryz.ntmps50
  go_wp2_with (first|(go_at_call 52;refine fV (hRl _) ?_)|(go_at_call 87;refine fV (MN _) ?_)|(go_at_call 94;refine fV hTx ?_)|(go_at_call 95;refine XV.mono ?_;rintro e w' ⟨rfl,m1,rfl⟩)|(go_at_call 89;refine fV (Gq _) ?_)|(go_at_call 96;refine (uH _).mono ?_;rintro e w1 ⟨s1,rfl,hs1,hb1⟩;have HB1:aG (Below w.heap.size w w1):=((fO HB0.out).trans (hb1.mono (fO HB0.out).size));clear hb1 hs1))
  refine aY1 (v:=.tuple #[s1,aF aC]) (by simp[results,Tryz.results50,go_sem, *]) rfl ?_
  exact⟨s1,by rw[HZ.out],fun h=>(by rw[HZ.out] at h;cases h),HB1.out⟩
 | true =>
  have HZ:aG (Q=ls):=by rw[aG,HE.out];rfl
  have hF2:∀ X,ba3 aZ8 96 #[aP #[ah aA ver,aj ta txt.length tc,aj ga got.length gc,aj sa dQ.length sc,aF wed,aF dV,ah aA dW,aj ma dU.length mc]] X fun e w'=>e=aK (.tuple #[V,aF aB])/\Below X.heap.size X w':=fun X=>(uH X).mono (fun e w' ⟨s,h1,h2,h3⟩=>⟨by rw[h1,h2 rfl],h3⟩)
  clear uH;have HRf:aG (∀ m,Below W.heap.size W (W.drewN m)):=fun m=>fO (aZ5 _ _)
  go_enter Tryz.func50,Tryz.ntmps50
  go_wp2_with (first|(go_at_call 52;refine fV (hRl _) ?_)|(go_at_call 87;refine fV (MN _) ?_)|(go_at_call 94;refine fV hTx ?_)|(go_at_call 95;refine XV.mono ?_;rintro e w' ⟨rfl,m1,rfl⟩)|(go_at_call 89;refine fV (Gq _) ?_)|(go_at_call 96;refine (hF2 _).mono ?_;rintro e w1 ⟨rfl,hb1⟩;have HB1:aG (Below w.heap.size w w1):=((fO HB0.out).trans (hb1.mono (fO HB0.out).size));have hE3:=aP1 w1 ((HRf.out m1).trans (hb1.mono (HRf.out m1).size));clear hb1)|(go_at_call 97;refine hE3.mono ?_;rintro e w2 ⟨rfl,hb2⟩;have HB2:aG (Below w.heap.size w w2):=(eP HB1.out hb2);clear hb2))
  refine aY1 (v:=.tuple #[V,aF ls]) (by simp[results,Tryz.results50,go_sem, *]) rfl ?_
  exact⟨V,by rw[HZ.out],fun _=>rfl,HB2.out⟩
theorem Ir (A:Ra) (r:Rw) (n:Int) (w:aI) (hv:qo w A r) :
  ba3 aZ8 51 #[iK A r,ah aA n] w fun e w'=>e=aK (aF (gu r n))/\Below w.heap.size w w':=by
 have hB0:=dX w (aH (fP A r) 44);have hx:=Bx.new w 44 (fP A r);have h0:=hv.below hB0;generalize hW:w.alloc (aH (fP A r) 44)=W at *;have hSt:ba3 aZ8 50 #[iK A r,ah aA n] W fun e w'=>∃ s,e=aK (.tuple #[s,aF (gu r n)])/\Below W.heap.size W w':=(ac6 A r n W h0).mono (fun e w' ⟨s,h1,_,h2⟩=>⟨s,h1,h2⟩)
 have HB0:aG (Below w.heap.size w W):=hB0;generalize gu r n=Q at *;obtain⟨ver,txt,got,dQ,wed,dV,dW,dU⟩:=r;obtain⟨ta,tc,ga,gc,sa,sc,ma,mc⟩:=A;have hw0:w.alloc (aH #[ah aA ver,aj ta txt.length tc,aj ga got.length gc,aj sa dQ.length sc,aF wed,aF dV,ah aA dW,aj ma dU.length mc] 44)=W:=hW;obtain⟨⟨c0,c1,c2,c3⟩,c4,c5,c6,c7⟩:=Bx.r8 hx;simp only[iK,fP] at c0 c1 c2 c3 c4 c5 c6 c7 hSt;unfold iK fP;clear hv h0 hx hW hB0;simp only
 go_enter Tryz.func51,Tryz.ntmps51
 go_wp2_with (go_at_call 50;refine hSt.mono ?_;rintro e w1 ⟨s1,rfl,hb1⟩;have HB1:aG (Below w.heap.size w w1):=(eP HB0.out hb1);clear hb1)
 go_ret
 exact⟨rfl,HB1.out⟩
theorem XW:Wi:=fun A r n w hv _=>Ir A r n w hv
theorem aL1 (A B:Ra) (r s:Rw) (T:TypeId) (w:aI):∃ W,(w.alloc (aH (fP A r) T)).alloc (aH (fP B s) 44)=W/\Bx W w.heap.size T (fP A r)/\Bx W (w.heap.size+1) 44 (fP B s)/\Below w.heap.size w W:=by
 refine⟨_,rfl,(Bx.new w _ _).alloc _, ?_,(dX w _).trans ((dX _ _).mono (dX w _).size)⟩;have:=Bx.new (w.alloc (aH (fP A r) T)) 44 (fP B s);simpa using this
theorem ac7 (A B:Ra) (r s:Rw) (w:aI) :
  ba3 aZ8 178 #[iK A r,iK B s] w fun e w'=>e=aK (aF (decide (s.ver<r.ver)))/\Below w.heap.size w w':=by
 have hB0:Below w.heap.size w ((w.alloc (aH (fP A r) 44)).alloc (aH (fP B s) 44)):=(dX w _).trans ((dX _ _).mono (dX w _).size);have hx:Bx ((w.alloc (aH (fP A r) 44)).alloc (aH (fP B s) 44)) w.heap.size 44 (fP A r):=(Bx.new w _ _).alloc _
 have hy:Bx ((w.alloc (aH (fP A r) 44)).alloc (aH (fP B s) 44)) (w.heap.size+1) 44 (fP B s):=by
  have:=Bx.new (w.alloc (aH (fP A r) 44)) 44 (fP B s);simpa using this
 have c0:=hx.at 0 (v:=ah aA r.ver) rfl;have d0:=hy.at 0 (v:=ah aA s.ver) rfl;have HB:=dP hB0;unfold iK;unfold fP at *;clear hx hy hB0;by_cases h:s.ver<r.ver
 ·have HZ:aG (decide (s.ver<r.ver)=aB):=decide_eq_true h
  go_enter Tryz.func178,Tryz.ntmps178
  go_wp2;go_ret
  exact⟨dZ (by rw[HZ.out]),HB.out⟩
 ·have HZ:aG (decide (s.ver<r.ver)=aC):=decide_eq_false h
  go_enter Tryz.func178,Tryz.ntmps178
  go_wp2;go_ret
  exact⟨dZ (by rw[HZ.out]),HB.out⟩
theorem AX (m:Mb):gZ m=((inB m.n 1 5&&(inB m.id 0 (m.n-1)&&decide ((m.rows.length:Int)=m.n)))&&(m.rows.all (fun r=>gu r m.n)&&((decide (el m.own.got m.i=(m.own.txt.length:Int))&&decide (m.id∉m.own.dQ))&&(mX m.dR 60&&(if m.done=aB then m.own.dV else (aZ6 m.dR.length).all (fun i=>decide (el m.dR i=(i:Int)))))))):=by
 have hel:(∀ i,i<m.dR.length->inB (el m.dR i) 0 59=aB)↔∀ x∈m.dR,inB x 0 59=aB:=by
  constructor
  ·intro h x hx
   obtain⟨j,hj,rfl⟩:=bU.1 hx;have:=h j hj;simpa[el,hj] using this
  ·intro h i hi
   exact h _ (kM hi)
 rw[Bool.eq_iff_iff];unfold gZ EK mX;simp only[aU2,aU3,decide_eq_true_eq,aX1,Bool.or_eq_true,Bool.not_eq_true']
 rw[show (60:Int)-1=59 from rfl]
 constructor
 ·rintro⟨h1,h2,h3,h4,h5,h6,h7,h8,h9,h10⟩
  refine⟨⟨h1,h2,h3⟩,h6,⟨h8,h9⟩,⟨hel.1 (fun i hi=>(h7 i hi).1),h5⟩, ?_⟩
  split
  ·rename_i hd
   rcases h10 with h|h
   ·rw[hd] at h;cases h
   ·exact h
  ·rename_i hd
   simp only[aU3,aX1,decide_eq_true_eq]
   exact fun i hi=>((h7 i hi).2).resolve_left hd
 ·rintro⟨⟨h1,h2,h3⟩,h6,⟨h8,h9⟩,⟨h7,h5⟩,h10⟩
  refine⟨h1,h2,h3, ?_,h5,h6,fun i hi=>⟨hel.2 h7 i hi, ?_⟩,h8,h9, ?_⟩
  ·refine Bv (k:=60) (lK.1 h5) (fun x hx=>?_)
   have:=iQ.1 (h7 x hx);omega
  ·by_cases hd:m.done=aB
   ·exact .inl hd
   ·rw[if_neg hd] at h10
    simp only[aU3,aX1,decide_eq_true_eq] at h10;exact .inr (h10 i hi)
  ·by_cases hd:m.done=aB
   ·rw[if_pos hd] at h10;exact .inr h10
   ·exact .inl (by simpa using hd)
theorem ug.below {A: Ma} {m: Mb} (h:ug w A m) (hb:Below w.heap.size w w'):ug w' A m:=by
 obtain⟨f,hf⟩:=h.own;exact⟨⟨f,gy hf hb⟩,h.fit,h.i64,h.sz⟩
theorem JC {F:Rw->Nat} {r:Rw}:∀ {R:List Rw},r∈R->F r<=(R.map F).sum
 | x::R,h=>by
  rw[List.map_cons,List.sum_cons];rcases aX5.1 h with h|h
  ·rw[h];omega
  ·have:=JC (F:=F) h;omega
theorem ac8 {m: Mb} (h:r∈m.rows):kK r<=sN m:=by
 have:=JC (F:=kK) h;unfold sN Il G9;rw[aV2];omega
theorem ug.row {A: Ma} {m: Mb} (h:ug w A m) (hk:k<m.rows.length):∃ g off Ak,A.ra=au ⟨g,off,ak⟩/\C8 w g (off+k*8) (ah aA (dO m.rows k).ver) (aj Ak.ta (dO m.rows k).txt.length Ak.tc) (aj Ak.ga (dO m.rows k).got.length Ak.gc) (aj Ak.sa (dO m.rows k).dQ.length Ak.sc) (aF (dO m.rows k).wed) (aF (dO m.rows k).dV) (ah aA (dO m.rows k).dW) (aj Ak.ma (dO m.rows k).dU.length Ak.mc)/\qo w Ak (dO m.rows k):=by
 obtain⟨f,hf⟩:=h.own;obtain⟨f1,f2,o1,o2,_,_⟩:=aq0 hf;obtain⟨g,off,f3,hra,_,_,⟨vs,hpc,hov,_⟩,_⟩:=yE jW (by omega) o1 (iZ hk)
 obtain⟨Ak,rfl,hl⟩:=wQ hov;have mQ:(fP Ak (dO m.rows k)).toList.length=8:=rfl;have c:=hpc.cell;have hfit:=h.fit.1 _ (oM hk);have hs:=ac8 (oM hk);exact⟨g,off,Ak,hra,⟨⟨c 0 (by rw[mQ];omega),c 1 (by rw[mQ];omega),c 2 (by rw[mQ];omega),c 3 (by rw[mQ];omega)⟩,c 4 (by rw[mQ];omega),c 5 (by rw[mQ];omega),c 6 (by rw[mQ];omega),c 7 (by rw[mQ];omega)⟩,zV (uV hl (lo:=0) (fun b _=>aZ1 b)) hfit (h.i64.2.2 _ (oM hk)) (aY2 hs h.sz)⟩
theorem ug.MP {A: Ma} {m: Mb} (h:ug w A m):wO w A m:=by
 obtain⟨f,hf⟩:=h.own;exact aA3 (yC hf) h.fit
def yx (s:List Int):Bool:=(aZ6 s.length).all (fun i=>decide (el s i=(i:Int)))
theorem ar2 (a:Option Addr) (cap:Nat) (xs:List Int) (w:aI) (hv:Vec w a xs.length xs) (hm:xs.length<=ba2) :
  ba3 aZ8 90 #[aj a xs.length cap] w fun e w'=>e=aK (aF (yx xs))/\w'=w:=by
 obtain⟨_,_,hc⟩:=hv;unfold ba2 at hm
 have HT:aG ((∀ j,j<xs.length->el xs j=(j:Int))->yx xs=aB):=fun h=>by
  simp only[aG,yx,aU3,aX1,decide_eq_true_eq]
  exact h
 have HF:aG (∀ k,k<xs.length->el xs k≠(k:Int)->yx xs=aC):=fun k hk h=>by
  rw[Bool.eq_false_iff];intro hq;simp only[yx,aU3,aX1,decide_eq_true_eq] at hq;exact h (hq k hk)
 generalize yx xs=Q at *;go_enter Tryz.func90,Tryz.ntmps90
 go_wp2
 go_loopw [7] (fun i wr=>∃ k:Nat,k<=xs.length/\i=ah aA k/\(∀ j,j<k->el xs j=(j:Int))/\wr=w) (fun i _=>xs.length-(ba4 i).toNat)
 case atStart=>exact⟨0,aZ1 _,rfl,fun j hj=>by omega,rfl⟩
 case round =>
  obtain⟨k,hk,rfl,hall,rfl⟩:=hrel;have HA:=dP hall;clear hall;by_cases hlt:k<xs.length
  ·rcases hc with h0|⟨b,off,rfl,hc⟩
   ·omega
   have hck:=hc k hlt;have k1:(k:Int)<xs.length:=by omega
   have k0:(0:Int)<=k:=by omega
   by_cases he:el xs k=(k:Int)
   ·have HK:aG (∀ j,j<k+1->el xs j=(j:Int)):=fun j hj=>by
     by_cases e:j=k
     ·subst e;exact he
     ·exact HA.out j (by omega)
    have e1:((el xs k) != (k:Int))=aC:=by simp[he]
    clear he hc;generalize el xs k=x at *;go_wp2;go_roundw
    case rel=>exact⟨k+1,by omega,by go_num,HK.out,by first|rfl|trivial⟩
    case measure=>simp[ba4];omega
   ·have HK:aG (Q=aC):=HF.out k hlt he
    have e1:((el xs k) != (k:Int))=aB:=by simp[he]
    clear he hc;generalize el xs k=x at *;go_wp2;go_ret
    exact⟨dZ (by rw[HK.out]),by first|rfl|trivial⟩
  ·have k1:¬ ((k:Int)<xs.length):=by omega
   obtain rfl:k=xs.length:=by omega
   have HK:=dP (HT.out HA.out);clear hc;go_wp2;go_ret
   exact⟨dZ (by rw[HK.out]),by first|rfl|trivial⟩
theorem Qd {m: Mb} (h:(inB m.n 1 5&&(inB m.id 0 (m.n-1)&&decide ((m.rows.length:Int)=m.n)))=aC):gZ m=aC:=by rw[AX,h];rfl
theorem aD9 {m: Mb} (hk:k<m.rows.length) (h:gu (dO m.rows k) m.n=aC):gZ m=aC:=by
 have:m.rows.all (fun r=>gu r m.n)=aC:=by
  rw[Bool.eq_false_iff];intro hq;rw[aU3.1 hq _ (oM hk)] at h
  cases h
 rw[AX,this];simp
theorem aE0 {m: Mb} (h:(decide (el m.own.got m.i=(m.own.txt.length:Int))&&decide (m.id∉m.own.dQ))=aC):gZ m=aC:=by rw[AX,h];simp
theorem aE1 {m: Mb} (h:mX m.dR 60=aC):gZ m=aC:=by rw[AX,h];simp
theorem aE2 {m: Mb} (h1:(inB m.n 1 5&&(inB m.id 0 (m.n-1)&&decide ((m.rows.length:Int)=m.n)))=aB) (h2:∀ k,k<m.rows.length->gu (dO m.rows k) m.n=aB) (h3:(decide (el m.own.got m.i=(m.own.txt.length:Int))&&decide (m.id∉m.own.dQ))=aB) (h4:mX m.dR 60=aB):gZ m=(if m.done=aB then m.own.dV else yx m.dR):=by
 have:m.rows.all (fun r=>gu r m.n)=aB:=by
  rw[aU3];intro r hr;obtain⟨k,hk,rfl⟩:=bU.1 hr;have:=h2 k hk;simpa[dO,ba0,hk] using this
 rw[AX,h1,this,h3,h4]
 rfl
theorem Tj (A:Ma) (m:Mb) (w:aI) (hv:ug w A m) :
  ba3 aZ8 48 #[iL A m] w fun e w'=>((gZ m=aB/\e=aK (.tuple #[]))\/(gZ m=aC/\Gu e))/\Below w.heap.size w w':=by
 have fU:=iq;have hb0:=dX w (aH (ig A m) 47);have hx0:=Bx.new w 47 (ig A m);have h0:=hv.below hb0;unfold iL ig at *;generalize rV:w.alloc (aH #[ah aA m.id,ah aA m.n,aj A.ra m.rows.length A.rc,aj A.sa m.dR.length A.sc,aF m.done] 47)=W at *;have HB0:=dP hb0;have HP:=dP h0;have HX:=dP hx0;obtain⟨c0,c1,c2,c3,c4⟩:=Bx.r5 hx0;have hsl:=h0.MP.ms;have hrl:=h0.MP.mr;unfold ba2 at hsl hrl;clear hb0 h0 hx0 hv
 cases e1:inB m.n 1 5 with
 | false =>
  have HZ:aG (gZ m=aC):=Qd (by rw[e1];rfl)
  go_enter Tryz.func48,Tryz.ntmps48
  go_wp2_with (first|(go_at_call 52;refine (vK _ _).mono ?_;rintro e w' ⟨rfl,hw'⟩;rw[hw',e1];clear hw')|(go_at_call 86;refine (oZ _).mono ?_;rintro e w' ⟨⟨T,v,rfl⟩,hw'⟩;rw[hw'];clear hw'))
  exact⟨rfl,.inr ⟨HZ.out,_,_,rfl⟩,HB0.out⟩
 | true =>
 have jy:=iQ.1 e1;have hwn:wrap64 (m.n-1)=m.n-1:=by unfold wrap64;omega
 cases e2:inB m.id 0 (m.n-1) with
 | false =>
  have HZ:aG (gZ m=aC):=Qd (by rw[e1,e2];rfl)
  go_enter Tryz.func48,Tryz.ntmps48
  go_wp2_with (first|(go_at_call 52;refine (vK _ _).mono ?_;rintro e w' ⟨rfl,hw'⟩;rw[hw',e1];clear hw')|(go_at_call 87;refine (lq _ _ _).mono ?_;rintro e w' ⟨rfl,hw'⟩;rw[hw',e2];clear hw')|(go_at_call 86;refine (oZ _).mono ?_;rintro e w' ⟨⟨T,v,rfl⟩,hw'⟩;rw[hw'];clear hw'))
  exact⟨rfl,.inr ⟨HZ.out,_,_,rfl⟩,HB0.out⟩
 | true =>
 have hid:=iQ.1 e2;by_cases e3:(m.rows.length:Int)=m.n
 case neg =>
  have HZ:aG (gZ m=aC):=Qd (by rw[e1,e2,decide_eq_false e3];rfl)
  have e3':((m.rows.length:Int)==m.n)=aC:=by simpa using e3
  go_enter Tryz.func48,Tryz.ntmps48
  go_wp2_with (first|(go_at_call 52;refine (vK _ _).mono ?_;rintro e w' ⟨rfl,hw'⟩;rw[hw',e1];clear hw')|(go_at_call 87;refine (lq _ _ _).mono ?_;rintro e w' ⟨rfl,hw'⟩;rw[hw',e2];clear hw')|(go_at_call 86;refine (oZ _).mono ?_;rintro e w' ⟨⟨T,v,rfl⟩,hw'⟩;rw[hw'];clear hw'))
  exact⟨rfl,.inr ⟨HZ.out,_,_,rfl⟩,HB0.out⟩
 have H1:aG ((inB m.n 1 5&&(inB m.id 0 (m.n-1)&&decide ((m.rows.length:Int)=m.n)))=aB):=by rw[aG,e1,e2,decide_eq_true e3];rfl
 have e3':((m.rows.length:Int)==m.n)=aB:=by simpa using e3
 have hRl:∀ X,ba3 aZ8 52 #[ah aA m.n] X fun e w'=>e=aK (aF aB)/\w'=X:=fun X=>by
  have:=vK m.n X;rw[e1] at this;exact this
 have MN:∀ X,ba3 aZ8 87 #[ah aA m.id,ah aA (m.n-1)] X fun e w'=>e=aK (aF aB)/\w'=X:=fun X=>by
  have:=lq m.id (m.n-1) X;rw[e2] at this;exact this
 have HI:aG (∃ i:Nat,m.id=(i:Int)/\i<m.rows.length/\m.i=i):=⟨m.id.toNat,by omega,by omega,rfl⟩
 have HN:aG (∃ n:Nat,m.n=(n:Int)/\m.rows.length=n/\1<=n/\n<=5):=⟨m.n.toNat,by omega,by omega,by omega,by omega⟩
 clear e1 e2 e3 hid;go_enter Tryz.func48,Tryz.ntmps48
 go_wp2_with (first|(go_at_call 52;refine fV (hRl _) ?_)|(go_at_call 87;refine fV (MN _) ?_)|(go_at_call 86;refine fV (vF _) ?_))
 clear hRl MN c0 c1 c2 c3 c4
 go_loopw [28] (fun v wr=>∃ k:Nat,k<=m.rows.length/\v=ah aA (k:Int)/\(∀ j,j<k->gu (dO m.rows j) m.n=aB)/\Below W.heap.size W wr) (fun v _=>m.rows.length-(ba4 v).toNat)
 case atStart=>exact⟨0,aZ1 _,rfl,fun j hj=>by omega,aZ5 _ _⟩
 case round =>
  obtain⟨k,hk,rfl,hall,hbr⟩:=hrel;have HA:=dP hall;have Qe:=dP hbr;obtain⟨c0,c1,c2,c3,c4⟩:=Bx.r5 (HX.out.below hbr);by_cases hlt:k<m.rows.length
  ·obtain⟨g,off,Ak,hra,⟨⟨d0,d1,d2,d3⟩,d4,d5,d6,d7⟩,nD⟩:=(HP.out.below hbr).row hlt
   have HZ:aG (gu (dO m.rows k) m.n=aC->gZ m=aC):=fun h=>aD9 hlt h
   rw[hra] at *;have k0:(0:Int)<=k:=by omega
   have k1:(k:Int)<m.rows.length:=by omega
   have HK:aG (gu (dO m.rows k) m.n=aB->∀ j,j<k+1->gu (dO m.rows j) m.n=aB):=fun h j hj=>by
    by_cases e:j=k
    ·subst e;exact h
    ·exact HA.out j (by omega)
   generalize dO m.rows k=r at *;have hbl:=dX wr (aH #[ah aA r.ver,aj Ak.ta r.txt.length Ak.tc,aj Ak.ga r.got.length Ak.gc,aj Ak.sa r.dQ.length Ak.sc,aF r.wed,aF r.dV,ah aA r.dW,aj Ak.ma r.dU.length Ak.mc] 44);have hxr:=Bx.new wr 44 #[ah aA r.ver,aj Ak.ta r.txt.length Ak.tc,aj Ak.ga r.got.length Ak.gc,aj Ak.sa r.dQ.length Ak.sc,aF r.wed,aF r.dV,ah aA r.dW,aj Ak.ma r.dU.length Ak.mc];have He:=Ir Ak r m.n _ (nD.below hbl);unfold iK fP at He;have mZ:=dP (eP Qe.out hbl);have c1':=fM hbl c1;obtain⟨⟨x0,x1,x2,x3⟩,x4,x5,x6,x7⟩:=Bx.r8 hxr;clear nD hall hbl hxr;go_upto_region 5 with fail
   generalize wr.alloc (aH #[ah aA r.ver,aj Ak.ta r.txt.length Ak.tc,aj Ak.ga r.got.length Ak.gc,aj Ak.sa r.dQ.length Ak.sc,aF r.wed,aF r.dV,ah aA r.dW,aj Ak.ma r.dU.length Ak.mc] 44)=W5 at *;clear c0 c1 c2 c3 c4 d0 d1 d2 d3 d4 d5 d6 d7
   cases hb:gu r m.n with
   | false =>
    have HZ1:=dP (HZ.out hb);rw[hb] at He;go_wp2_with (first|(go_at_call 51;refine He.mono ?_;rintro e w1 ⟨rfl,hb1⟩;have HB1:aG (Below w.heap.size w w1):=(eP HB0.out mZ.out).trans (hb1.mono (eP HB0.out mZ.out).size);clear hb1)|(go_at_call 86;refine (oZ _).mono ?_;rintro e w' ⟨⟨T,v,rfl⟩,hw'⟩;rw[hw'];clear hw'))
    exact⟨rfl,.inr ⟨HZ1.out,_,_,rfl⟩,HB1.out⟩
   | true =>
    have HK1:=HK.out hb;have HK2:=dP HK1;rw[hb] at He;clear HK HK1;go_wp2_with (first|(go_at_call 51;refine He.mono ?_;rintro e w1 ⟨rfl,hb1⟩;have HB1:aG (Below W.heap.size W w1):=eP mZ.out hb1;clear hb1)|(go_at_call 86;refine fV (vF _) ?_))
    go_roundw
    case rel=>exact⟨k+1,by omega,by go_num,HK2.out,HB1.out⟩
    case measure=>simp[ba4];omega
  ·have k1:¬ ((k:Int)<m.rows.length):=by omega
   obtain rfl:k=m.rows.length:=by omega
   have H2:=dP HA.out;obtain⟨i,hi,hil,Qg⟩:=HI.out;obtain⟨n,hn,hln,hn1,aS2⟩:=HN.out;obtain⟨g,off,Ak,hra,⟨⟨d0,d1,d2,d3⟩,d4,d5,d6,d7⟩,nD⟩:=(HP.out.below hbr).row hil
   have hgl:i<(dO m.rows i).got.length:=by
    have:=qh.1 (by rw[<- hn];exact HA.out i hil:gu (dO m.rows i) (n:Int)=aB)
    rw[this.gl];omega
   have Vl:aG (m.own=dO m.rows i):=by rw[aG,Mb.own,Qg]
   have i0:(0:Int)<=i:=by omega
   have i1:(i:Int)<m.rows.length:=by omega
   have i2:(i:Int)<((dO m.rows i).got.length:Int):=by omega
   have hsu:∀ X,Below W.heap.size W X->ba3 aZ8 89 #[aj A.sa m.dR.length A.sc,ah aA 59] X fun e w'=>e=aK (aF (mX m.dR 60))/\w'=X:=fun X hX=>by
    have:=Qc A.sa m.dR.length A.sc 60 m.dR X (HP.out.MP.dR.below hX (aZ0 _)) HP.out.MP.ms;rw[Ti] at this;exact this
   have hcf:∀ X,Below W.heap.size W X->ba3 aZ8 90 #[aj A.sa m.dR.length A.sc] X fun e w'=>e=aK (aF (yx m.dR))/\w'=X:=fun X hX=>ar2 A.sa A.sc m.dR X (HP.out.MP.dR.below hX (aZ0 _)) HP.out.MP.ms
   have H3:aG ((decide (el (dO m.rows i).got i=((dO m.rows i).txt.length:Int))&&decide ((i:Int)∉(dO m.rows i).dQ))=aC->gZ m=aC):=fun h=>aE0 (by rw[Vl.out,Qg,hi];exact h)
   have H4:aG (mX m.dR 60=aC->gZ m=aC):=aE1
   have H5:aG ((decide (el (dO m.rows i).got i=((dO m.rows i).txt.length:Int))&&decide ((i:Int)∉(dO m.rows i).dQ))=aB->mX m.dR 60=aB->gZ m=(if m.done=aB then (dO m.rows i).dV else yx m.dR)):=fun h1 h2=>by
    have:=aE2 H1.out H2.out (by rw[Vl.out,Qg,hi];exact h1) h2
    rw[Vl.out] at this;exact this
   have hgc:∀ X,Below wr.heap.size wr X->∃ gb go,Ak.ga=au ⟨gb,go,ak⟩/\X.cell? ⟨gb,go+i,ak⟩=au (ah aA (el (dO m.rows i).got i)):=fun X hX=>by
    rcases (nD.below hX).got.vec.2.2 with h|⟨gb,go,e,h⟩
    ·omega
    ·exact⟨gb,go,e,h i hgl⟩
   have aE3:∀ X,Below wr.heap.size wr X->ba3 aZ8 88 #[aj Ak.sa (dO m.rows i).dQ.length Ak.sc,ah aA (i:Int)] X fun e w'=>e=aK (aF (decide ((i:Int)∈(dO m.rows i).dQ)))/\w'=X:=fun X hX=>uh Ak.sa Ak.sc (dO m.rows i).dQ (i:Int) X (nD.below hX).dQ.vec (nD.below hX).rws.ms
   rw[hi] at c0;rw[hra] at c2;generalize hOK:gZ m=OK at *;have iE:=dP hOK;clear hOK;generalize dO m.rows i=r at *;generalize hge:el r.got i=gi at *;generalize mX m.dR 60=sb at *;generalize yx m.dR=fb at *;have hbl:=dX wr (aH #[ah aA r.ver,aj Ak.ta r.txt.length Ak.tc,aj Ak.ga r.got.length Ak.gc,aj Ak.sa r.dQ.length Ak.sc,aF r.wed,aF r.dV,ah aA r.dW,aj Ak.ma r.dU.length Ak.mc] 44);have hxr:=Bx.new wr 44 #[ah aA r.ver,aj Ak.ta r.txt.length Ak.tc,aj Ak.ga r.got.length Ak.gc,aj Ak.sa r.dQ.length Ak.sc,aF r.wed,aF r.dV,ah aA r.dW,aj Ak.ma r.dU.length Ak.mc];have qV:=dP hxr;have mZ:=dP (eP Qe.out hbl);have HBl:=dP hbl;have HMX:aG (∀ X,Below W.heap.size W X->Bx X w.heap.size 47 #[ah aA m.id,ah aA m.n,aj A.ra m.rows.length A.rc,aj A.sa m.dR.length A.sc,aF m.done]):=fun X h=>HX.out.below h
   clear nD hall hbl hxr HP HA hbr H1 H2 Vl;have hwl:=HX.out.lt;have hwr2:=Qe.out.size;go_upto_region 8 with fail
   generalize wr.alloc (aH #[ah aA r.ver,aj Ak.ta r.txt.length Ak.tc,aj Ak.ga r.got.length Ak.gc,aj Ak.sa r.dQ.length Ak.sc,aF r.wed,aF r.dV,ah aA r.dW,aj Ak.ma r.dU.length Ak.mc] 44)=W5 at *;clear c0 c1 c2 c3 c4 d0 d1 d2 d3 d4 d5 d6 d7 hra;have facts:∀ X,Below W5.heap.size W5 X->Below W.heap.size W X/\Below w.heap.size w X:=fun X h=>⟨eP mZ.out h,(eP HB0.out mZ.out).trans (h.mono (eP HB0.out mZ.out).size)⟩
   have HFa:=dP facts;obtain⟨⟨x0,x1,x2,x3⟩,x4,x5,x6,x7⟩:=Bx.r8 qV.out;obtain⟨c0,c1,c2,c3,c4⟩:=Bx.r5 (HMX.out _ mZ.out);rw[hi] at c0;obtain⟨gb,go,hga,XY⟩:=hgc _ HBl.out;rw[hga] at x2;have T:∀ {x v},W5.cell? x=au v->∀ q:Bk W5,q.w.cell? x=au v:=fun h q=>fM q.h h
   have y0:=T c0;have y1:=T x1;have y2:=T x2;have y3:=T x3;have y4:=T XY;have MQ:∀ q:Bk W5,ba3 aZ8 88 #[aj Ak.sa r.dQ.length Ak.sc,ah aA (i:Int)] q.w fun e w'=>e=aK (aF (decide ((i:Int)∈r.dQ)))/\Below q.w.heap.size q.w w':=fun q=>(aE3 q.w (eP HBl.out q.h)).mono (fun e w' h=>⟨h.1,by rw[h.2];exact aZ5 _ _⟩)
   have HL:=dP hln;clear T x0 x1 x2 x3 x4 x5 x6 x7 c0 c1 c2 c3 c4 facts aE3 hgc hga XY hln hi Qg;by_cases e7:gi=(r.txt.length:Int)
   case neg =>
    have HZ:aG (OK=aC):=H3.out (by rw[decide_eq_false e7];rfl)
    have e7':(gi==(r.txt.length:Int))=aC:=by simpa using e7
    clear e7 H3 H4 H5;refine gJ (C:=fun w'=>∃ p:Bk W5,w'=p.w) 18 fU (by kernel_rfl) ⟨⟨W5.drewN 1,fO (aZ5 _ _)⟩,rfl⟩ ?_
    simp only[dA,aX2]
    repeat (go_big_quiet_step ((first|(go_at_call 88;exact eY _ (MQ _))|rfl)))
    refine aZ2 (iI fun wE eH=>?_)
    simp only[cZ,aX0]
    have FD:aG (Below w.heap.size w wE):=(HFa.out _ eH).2;clear y0 y1 y2 y3 y4 eH;go_wp2_with (go_at_call 86;refine (oZ _).mono ?_;rintro e w' ⟨⟨T,v,rfl⟩,hw'⟩;rw[hw'];clear hw')
    exact⟨rfl,.inr ⟨iE.out.trans HZ.out,_,_,rfl⟩,FD.out⟩
   have e7':(gi==(r.txt.length:Int))=aB:=by simpa using e7
   by_cases e8:(i:Int)∈r.dQ
   ·have HZ:aG (OK=aC):=H3.out (by rw[decide_eq_true e7,decide_eq_false (by simpa using e8)];rfl)
    rw[decide_eq_true e8] at MQ;clear e7 H3 H4 H5 e8;refine gJ (C:=fun w'=>∃ p:Bk W5,w'=p.w) 18 fU (by kernel_rfl) ⟨⟨W5.drewN 1,fO (aZ5 _ _)⟩,rfl⟩ ?_
    simp only[dA,aX2]
    repeat (go_big_quiet_step ((first|(go_at_call 88;exact eY _ (MQ _))|rfl)))
    refine aZ2 (iI fun wE eH=>?_)
    simp only[cZ,aX0]
    have FD:aG (Below w.heap.size w wE):=(HFa.out _ eH).2;clear y0 y1 y2 y3 y4 eH;go_wp2_with (go_at_call 86;refine (oZ _).mono ?_;rintro e w' ⟨⟨T,v,rfl⟩,hw'⟩;rw[hw'];clear hw')
    exact⟨rfl,.inr ⟨iE.out.trans HZ.out,_,_,rfl⟩,FD.out⟩
   have HZ5:aG (sb=aB->OK=(if m.done=aB then r.dV else fb)):=H5.out (by rw[decide_eq_true e7,decide_eq_true e8];rfl)
   rw[decide_eq_false e8] at MQ;clear e7 H3 H5 e8;refine gJ (C:=fun w'=>∃ p:Bk W5,w'=p.w) 18 fU (by kernel_rfl) ⟨⟨W5.drewN 1,fO (aZ5 _ _)⟩,rfl⟩ ?_
   simp only[dA,aX2]
   repeat (go_big_quiet_step ((first|(go_at_call 88;exact eY _ (MQ _))|rfl)))
   refine aZ2 (iI fun wE eH=>?_)
   simp only[cZ,aX0]
   have FD:aG (Below w.heap.size w wE):=(HFa.out _ eH).2;have hBW:=(HFa.out _ eH).1;have Qh:=hsu _ hBW;have aE4:=hcf _ hBW;obtain⟨c0,c1,c2,c3,c4⟩:=Bx.r5 (HMX.out _ hBW);obtain⟨⟨x0,x1,x2,x3⟩,x4,x5,x6,x7⟩:=Bx.r8 (qV.out.below eH);clear y0 y1 y2 y3 y4 eH hBW MQ hsu hcf
   cases sb with
   | false =>
    have HZ:=dP (H4.out rfl);go_wp2_with (first|(go_at_call 89;refine fV Qh ?_)|(go_at_call 86;first|(refine fV (vF _) ?_)|(refine (oZ _).mono ?_;rintro e w' ⟨⟨T,v,rfl⟩,hw'⟩;rw[hw'];clear hw')))
    exact⟨rfl,.inr ⟨iE.out.trans HZ.out,_,_,rfl⟩,FD.out⟩
   | true =>
    have HZ:=HZ5.out rfl;have HZ6:=dP HZ;clear HZ HZ5 H4
    cases hd:m.done with
    | true =>
     rw[hd] at c4
     cases hr:r.dV with
     | true =>
      have HZ:aG (OK=aB):=by rw[aG,HZ6.out,hd,hr];rfl
      rw[hr] at x5;clear hd hr;go_wp2_with (first|(go_at_call 89;refine fV Qh ?_)|(go_at_call 86;refine fV (vF _) ?_))
      first|go_end0|go_ret
      exact⟨.inl ⟨iE.out.trans HZ.out,rfl⟩,FD.out⟩
     | false =>
      have HZ:aG (OK=aC):=by rw[aG,HZ6.out,hd,hr];rfl
      rw[hr] at x5;clear hd hr;go_wp2_with (first|(go_at_call 89;refine fV Qh ?_)|(go_at_call 86;first|(refine fV (vF _) ?_)|(refine (oZ _).mono ?_;rintro e w' ⟨⟨T,v,rfl⟩,hw'⟩;rw[hw'];clear hw')))
      exact⟨rfl,.inr ⟨iE.out.trans HZ.out,_,_,rfl⟩,FD.out⟩
    | false =>
     rw[hd] at c4
     cases fb with
     | true =>
      have HZ:aG (OK=aB):=by rw[aG,HZ6.out,hd];rfl
      clear hd;go_wp2_with (first|(go_at_call 89;refine fV Qh ?_)|(go_at_call 90;refine fV aE4 ?_)|(go_at_call 86;refine fV (vF _) ?_))
      first|go_end0|go_ret
      exact⟨.inl ⟨iE.out.trans HZ.out,rfl⟩,FD.out⟩
     | false =>
      have HZ:aG (OK=aC):=by rw[aG,HZ6.out,hd];rfl
      clear hd;go_wp2_with (first|(go_at_call 89;refine fV Qh ?_)|(go_at_call 90;refine fV aE4 ?_)|(go_at_call 86;first|(refine fV (vF _) ?_)|(refine (oZ _).mono ?_;rintro e w' ⟨⟨T,v,rfl⟩,hw'⟩;rw[hw'];clear hw')))
      exact⟨rfl,.inr ⟨iE.out.trans HZ.out,_,_,rfl⟩,FD.out⟩
theorem Qi (A:Ma) (m:Mb) (w:aI) (hv:ug w A m) :
  ba3 aZ8 53 #[iL A m] w fun e w'=>e=aK (aF (gZ m))/\Below w.heap.size w w':=by
 have hmf:∀ (fn:Fn) (first cap:Array aJ) (w:aI),(Instr.makeFunc fn first cap).run aZ8 w=.ok (.func fn first cap) w:=fun _ _ _ _=>rfl
 have hb0:=dX w (aH (ig A m) 47);have hx0:=Bx.new w 47 (ig A m);have h0:=hv.below hb0;have hb1:=dX (w.alloc (aH (ig A m) 47)) (aH #[aF aC] 4)
 have hT := Iq 48 #[iL A m] #[] (w.alloc (aH (ig A m) 47)) (fun b X => b = gZ m /\ Below ((w.alloc (aH (ig A m) 47)).alloc (aH #[aF aC] 4)).heap.size ((w.alloc (aH (ig A m) 47)).alloc (aH #[aF aC] 4)) X) (fun _ _ => enters_of Tryz.func48 (by kernel_rfl) rfl _ _) ((Tj A m _ (h0.below hb1)).mono (fun e w' ⟨h1,h2⟩ => by
  rcases h1 with ⟨h,h1⟩|⟨h,h1⟩
  ·exact .inl ⟨h1,h.symm,h2⟩
  ·exact .inr ⟨h1,h.symm,h2⟩)) (fun b X h=>(Bx.new _ _ _).below h.2)
 have hF:∀ e w',(∃ b X,e=Ending.returned (aF b)/\(b=gZ m/\Below ((w.alloc (aH (ig A m) 47)).alloc (aH #[aF aC] 4)).heap.size ((w.alloc (aH (ig A m) 47)).alloc (aH #[aF aC] 4)) X)/\eU (fun x=>x=(w.alloc (aH (ig A m) 47)).heap.size) X w')->e=aK (aF (gZ m))/\Below w.heap.size w w':=by
  rintro e w' ⟨b,X,rfl,⟨rfl,h1⟩,h2⟩;have hs:=hb0.size;have hbX:=(eP hb0 hb1).trans (h1.mono (eP hb0 hb1).size);exact⟨rfl,h2.below hbX hbX.size (fun b e=>by omega)⟩
 have hT2:=hT.mono hF;obtain⟨c0,c1,c2,c3,c4⟩:=Bx.r5 hx0;clear hF hT hb1 h0 hx0 hb0 hv;unfold iL ig at *;generalize gZ m=OK at *;generalize rV:w.alloc (aH #[ah aA m.id,ah aA m.n,aj A.ra m.rows.length A.rc,aj A.sa m.dR.length A.sc,aF m.done] 47)=W at *;go_enter Tryz.func53,Tryz.ntmps53
 go_wp2_with (go_at_call 46;refine hT2.mono ?_;rintro e w1 ⟨rfl,hb1⟩;have HB1:aG (Below w.heap.size w w1):=hb1;clear hb1)
 go_ret
 exact⟨rfl,HB1.out⟩
def nR (n:Int) (xs:List Int):Bool:=(aZ6 xs.length).all (fun i=>inB (el xs i) 0 (n-1)&&decide (el xs i∉xs.take i))
theorem Qj (n f t:Int):nR n [f,t]=(inB f 0 (n-1)&&(inB t 0 (n-1)&&decide (f≠t))):=by
 have e:aZ6 [f,t].length=[0,1]:=rfl;rw[nR,e];simp[el,eq_comm]
theorem ac9 (n f:Int):nR n [f]=inB f 0 (n-1):=by
 have e:aZ6 [f].length=[0]:=rfl;rw[nR,e];simp[el]
theorem ar4 {n c: Nat} (ha:a≠ak) (hj:j<=n) (hc:n<=c) (hm:c<=ba2) (X:aI) :
  (Instr.slice 41 (aj a n c) ak (au (ah aA (j:Int))) ak).run aZ8 X=.ok (aj a j c) X:=by
 obtain⟨i0,hi0,hz0,hz1,hz2⟩:=ku Tryz.info2n;unfold ba2 at hm
 have hs:(Instr.slice 41 (aj a n c) ak (au (ah aA (j:Int))) ak).run aZ8 X=.ok (sliced a 0 j c 1) X:=by
  rw[run_slice_h X 41 a n c (by kernel_rfl) aA (j:Int) (by omega) (by omega)]
  rw[show Tryz.prog.elem 41=2 by kernel_rfl]
  rw[run_sizeOf X hi0,show Tryz.prog.cellsOf 2=1 by kernel_rfl]
  simp[Result.andThen]
 rw[hs]
 have e:(if c=0 then a else a.map (·.add (0*1)))=a:=by
  split
  ·rfl
  ·cases a with
   | none=>exact absurd rfl ha
   | some p=>simp[Addr.add]
 simp only[sliced,e,Nat.sub_zero]
theorem KD (n:Int) (b off c:Nat) (xs:List Int) (w:aI) (hv:Vec w (au ⟨b,off,ak⟩) xs.length xs) (hl:xs.length<=100) (hc:xs.length<=c) (hm:c<=ba2) (hn:-1000000<=n/\n<=1000000) :
  ba3 aZ8 54 #[ah aA n,aj (au ⟨b,off,ak⟩) xs.length c] w fun e w'=>e=aK (aF (nR n xs))/\w'=w:=by
 have HV:=dP hv;have hw:wrap64 (n-1)=n-1:=by unfold wrap64;omega
 have hsl:=fun (j:Nat) (hj:j<=xs.length) (X:aI)=>ar4 (a:=au ⟨b,off,ak⟩) (n:=xs.length) (c:=c) (j:=j) (by simp) hj hc hm X
 have CB:=dP hsl
 have HC:aG (∀ j,j<xs.length->ba3 aZ8 88 #[aj (au ⟨b,off,ak⟩) j c,ah aA (el xs j)] w fun e w'=>e=aK (aF (decide (el xs j∈xs.take j)))/\w'=w):=fun j hj=>by
  have e:(xs.take j).length=j:=by rw[aU5];omega
  have hvt:Vec w (au ⟨b,off,ak⟩) (xs.take j).length (xs.take j):=by
   refine⟨rfl,fun x hx=>hv.2.1 x (List.mem_of_mem_take hx),.inr ⟨b,off,rfl,fun k hk=>?_⟩⟩
   rcases hv.2.2 with h0|⟨b',o',ee,hcell⟩
   ·omega
   ·cases ee
    rw[hcell k (by omega)]
    simp[el,ba0,show k<j by omega]
  have:=uh (au ⟨b,off,ak⟩) c (xs.take j) (el xs j) w hvt (by unfold ba2;omega)
  rw[e] at this;exact this
 clear hv hsl;go_enter Tryz.func54,Tryz.ntmps54
 go_wp2
 go_loop [9] (fun i=>∃ k:Nat,k<=xs.length/\i=ah aA (k:Int)/\aG (∀ j,j<k->(inB (el xs j) 0 (n-1)&&decide (el xs j∉xs.take j))=aB)) (fun i=>xs.length-(ba4 i).toNat)
 case atStart=>exact⟨0,aZ1 _,rfl,fun j hj=>by omega⟩
 case round =>
  obtain⟨k,hk,rfl,HA⟩:=hrel;by_cases hlt:k<xs.length
  ·rcases HV.out.2.2 with h0|⟨b',o',ee,hcell⟩
   ·omega
   cases ee
   have hck:=hcell k hlt;have k1:(k:Int)<xs.length:=by omega
   have k0:(0:Int)<=k:=by omega
   have hT:=CB.out k hk;have JD:=HC.out k hlt;have hI:∀ z,z=n-1->ba3 aZ8 87 #[ah aA (el xs k),ah aA z] w fun e w'=>e=aK (aF (inB (el xs k) 0 (n-1)))/\w'=w:=fun z hz=>by rw[hz];exact lq _ _ w
   have HF:aG ((inB (el xs k) 0 (n-1)&&decide (el xs k∉xs.take k))=aC->nR n xs=aC):=fun h=>by
    rw[nR,List.all_eq_false];exact⟨k,aX1.2 hlt,by rw[h];decide⟩
   have HT:aG ((inB (el xs k) 0 (n-1)&&decide (el xs k∉xs.take k))=aB->∀ j,j<k+1->(inB (el xs j) 0 (n-1)&&decide (el xs j∉xs.take j))=aB):=fun h j hj=>by
    rcases bD.1 hj with h1|h1
    ·exact HA.out j h1
    ·rw[h1];exact h
   clear hcell;have hd:decide (el xs k∉xs.take k)=!decide (el xs k∈xs.take k):=by simp
   rw[hd] at HF HT;clear hd;generalize decide (el xs k∈xs.take k)=q at *;generalize inB (el xs k) 0 (n-1)=p at *;generalize el xs k=x at *
   cases p with
   | false =>
    have HZ:=dP (HF.out rfl);clear HF HT;go_wp2_with (go_at_call 87;refine fV (hI _ (by first|rfl|exact hw)) ?_)
    go_ret
    exact⟨dZ (by rw[HZ.out]),rfl⟩
   | true =>
    cases q with
    | true =>
     have HZ:=dP (HF.out rfl);clear HF HT;go_wp2_with (first|(go_at_call 87;refine fV (hI _ (by first|rfl|exact hw)) ?_)|(go_at_call 88;refine fV JD ?_))
     go_ret
     exact⟨dZ (by rw[HZ.out]),rfl⟩
    | false =>
     have HZ:aG _:=HT.out rfl;clear HF HT;go_wp2_with (first|(go_at_call 87;refine fV (hI _ (by first|rfl|exact hw)) ?_)|(go_at_call 88;refine fV JD ?_))
     go_round
     case rel=>exact⟨k+1,by omega,by go_num,HZ⟩
     case measure=>simp[ba4];omega
  ·have k1:¬ ((k:Int)<xs.length):=by omega
   have HZ:aG (nR n xs=aB):=by
    rw[aG,nR,aU3];intro j hj;exact HA.out j (by have:=aX1.1 hj;omega)
   go_wp2;go_ret
   exact⟨dZ (by rw[HZ.out]),rfl⟩
theorem wu.below {g: Gr} (h:wu w A g) (hb:Below w.heap.size w w'):wu w' A g:=by
 obtain⟨f,hf⟩:=h.own;exact⟨⟨f,gy hf hb⟩,h.fit,h.i64,h.sz⟩
theorem wu.grs {g: Gr} (h:wu w A g):zh w A g:=by
 obtain⟨f,hf⟩:=h.own;exact OH (yC hf) h.fit
theorem AY {g: Gr} (hk:k<g.mem.length):dY g k∈g.mem:=bW (sG hk)
theorem FH {g: Gr} (hk:k<g.dS.length):eX g k∈g.dS:=bW (lI hk)
theorem Qk {g: Gr} {m: Mb} (h:m∈g.mem):sN m<=AQ g:=by
 obtain⟨k,hk,rfl⟩:=bU.1 h;have h1:=aa9 (R:=g.mem) hk;have h2:=ab1 (R:=g.mem) (show k+1<=g.mem.length by omega)
 have e:XL g.mem k=g.mem[k]:=by simp[XL,ba0,hk]
 rw[e] at h1;unfold AQ P7;omega
theorem ad1 {g: Gr} {x: Ml} (h:x∈g.dS):kK x.row<=AQ g:=by
 obtain⟨k,hk,rfl⟩:=bU.1 h;have h1:=ab2 (R:=g.dS) hk;have h2:=ab3 (R:=g.dS) (show k+1<=g.dS.length by omega)
 have e:XM g.dS k=g.dS[k]:=by simp[XM,ba0,hk]
 rw[e] at h1;have h3:Fj g.dS[k]=kK g.dS[k].row:=rfl;unfold AQ P8;omega
theorem wu.member {g: Gr} (h:wu w A g) (hk:k<g.mem.length):∃ b off Ak,A.ma=au ⟨b,off,ak⟩/\C5 w b (off+k*5) (ah aA (dY g k).id) (ah aA (dY g k).n) (aj Ak.ra (dY g k).rows.length Ak.rc) (aj Ak.sa (dY g k).dR.length Ak.sc) (aF (dY g k).done)/\ug w Ak (dY g k):=by
 obtain⟨f,hf⟩:=h.own;obtain⟨u1,vU,f1,f2,e,o1,_,_,_⟩:=hf
 cases e
 obtain⟨b,off,f3,hra,_,_,⟨vs,hpc,hov,_⟩,_⟩:=yE uF (by omega) o1 (sG hk)
 obtain⟨Ak,rfl,hl⟩:=I5 hov;have hl5:(ig Ak (dY g k)).toList.length=5:=rfl;have c:=hpc.cell;exact⟨b,off,Ak,hra,⟨c 0 (by rw[hl5];omega),c 1 (by rw[hl5];omega),c 2 (by rw[hl5];omega),c 3 (by rw[hl5];omega),c 4 (by rw[hl5];omega)⟩,⟨f3,hl⟩,h.fit.1 _ (AY hk),h.i64.1 _ (AY hk),aY2 (Qk (AY hk)) h.sz⟩
theorem wu.letter {g: Gr} (h:wu w A g) (hk:k<g.dS.length):∃ b off Ak,A.la=au ⟨b,off,ak⟩/\w.cell? ⟨b,off+k*10,ak⟩=au (ah aA (eX g k).fr)/\w.cell? ⟨b,off+k*10+1,ak⟩=au (ah aA (eX g k).to)/\C8 w b (off+k*10+2) (ah aA (eX g k).row.ver) (aj Ak.ta (eX g k).row.txt.length Ak.tc) (aj Ak.ga (eX g k).row.got.length Ak.gc) (aj Ak.sa (eX g k).row.dQ.length Ak.sc) (aF (eX g k).row.wed) (aF (eX g k).row.dV) (ah aA (eX g k).row.dW) (aj Ak.ma (eX g k).row.dU.length Ak.mc)/\qo w Ak (eX g k).row:=by
 obtain⟨f,hf⟩:=h.own;obtain⟨u1,vU,f1,f2,e,_,hf2,_,_⟩:=hf
 cases e
 obtain⟨u2,xu,f4,f5,e,_,hf3,_,_⟩:=hf2
 cases e
 obtain⟨u3,EJ,f6,f7,e,o3,_,_,_⟩:=hf3
 cases e
 obtain⟨b,off,f3,hra,_,_,⟨vs,hpc,hov,_⟩,_⟩:=yE ng (by omega) o3 (lI hk)
 obtain⟨us0,rfl,hq0⟩:=qM hov;obtain⟨us9,rfl,hq1⟩:=qM hq0;obtain⟨Ak,rfl,hl⟩:=wQ hq1;have mQ:(fP Ak (eX g k).row).toList.length=8:=rfl;have c:=hpc.cell
 have c':∀ j,j<8->w.cell? ⟨b,off+k*10+2+j,ak⟩=(fP Ak (eX g k).row).toList[j]?:=fun j hj=>by
  have:=c (j+2) (by simp[mQ];omega)
  rw[show off+k*10+(j+2)=off+k*10+2+j by omega] at this
  rw[this];simp[mQ,hj]
 have hx:=FH hk;refine⟨b,off,Ak,hra,c 0 (by simp),c 1 (by simp),⟨⟨c' 0 (by omega),c' 1 (by omega),c' 2 (by omega),c' 3 (by omega)⟩,c' 4 (by omega),c' 5 (by omega),c' 6 (by omega),c' 7 (by omega)⟩,zV (uV hl (lo:=0) (fun b _=>aZ1 b)) (h.fit.2 _ hx) (h.i64.2 _ hx).2.2 (aY2 (ad1 hx) h.sz)⟩
theorem Bx.AZ {B: Nat} {x4 x5 x6 x7 x8 x9: aJ} (h:Bx w B T #[x0,x1,x2,x3,x4,x5,x6,x7,x8,x9]):(w.cell? ⟨B,0,ak⟩=au x0/\w.cell? ⟨B,1,ak⟩=au x1/\w.cell? ⟨B,2,ak⟩=au x2/\w.cell? ⟨B,3,ak⟩=au x3/\w.cell? ⟨B,4,ak⟩=au x4)/\w.cell? ⟨B,5,ak⟩=au x5/\w.cell? ⟨B,6,ak⟩=au x6/\w.cell? ⟨B,7,ak⟩=au x7/\w.cell? ⟨B,8,ak⟩=au x8/\w.cell? ⟨B,9,ak⟩=au x9 :=
 ⟨⟨h.at 0 rfl,h.at 1 rfl,h.at 2 rfl,h.at 3 rfl,h.at 4 rfl⟩,h.at 5 rfl,h.at 6 rfl,h.at 7 rfl,h.at 8 rfl,h.at 9 rfl⟩
theorem Vm (x:Ml) (n:Int):qj x n=(nR n [x.fr,x.to]&&gu x.row n):=by
 rw[Qj,qj]
 cases inB x.fr 0 (n-1)<;>cases inB x.to 0 (n-1)<;>simp
theorem ad2 (w:aI) (x y:Int) (hx:jo x) (hy:jo y):Vec (w.alloc (aH #[ah aA x,ah aA y] 2)) (au ⟨w.heap.size,0,ak⟩) [x,y].length [x,y]:=by
 refine⟨rfl,fun z hz=>?_,.inr ⟨w.heap.size,0,rfl,fun k hk=>?_⟩⟩
 ·rcases aX5.1 hz with h|h
  ·rw[h];exact hx
  ·rw[List.mem_singleton.1 h];exact hy
 ·have hb:=Bx.new w 2 #[ah aA x,ah aA y]
  match k,hk with
  | 0,_=>exact hb.at 0 rfl
  | 1,_=>exact hb.at 1 rfl
theorem ad3 (A:Ga) (g:Gr) (w:aI) (hv:wu w A g) :
  ba3 aZ8 18 #[jc A g] w fun e w'=>e=aK (aF (jQ g))/\Below w.heap.size w w':=by
 have hb0:=dX w (aH #[aj A.ma g.mem.length A.mc,aj A.ua g.up.length A.uc,aj A.la g.dS.length A.lc] 28);have hx0:=Bx.new w 28 #[aj A.ma g.mem.length A.mc,aj A.ua g.up.length A.uc,aj A.la g.dS.length A.lc];have HV:=dP (hv.below hb0);have HX:=dP hx0;have HB0:=dP hb0;have hI:=vK (g.mem.length:Int) (w.alloc (aH #[aj A.ma g.mem.length A.mc,aj A.ua g.up.length A.uc,aj A.la g.dS.length A.lc] 28));have hgs:=hv.grs;have hlm:=hgs.lm;have WJ:=hgs.lu;have hll:=hgs.ll;unfold ba2 at hlm WJ hll;obtain⟨c0,c1,c2⟩:=Bx.g3 hx0;unfold jc jH;clear hv hb0 hx0 hgs;by_cases hn:inB (g.mem.length:Int) 1 5=aB;rotate_left
 ·have hn':inB (g.mem.length:Int) 1 5=aC:=by simpa using hn
  have HZ:aG (jQ g=aC):=by
   by_cases h1:1<=g.mem.length
   ·exact WM (fun h2=>hn (iQ.2 ⟨by omega,by omega⟩))
   ·exact WL h1
  rw[hn'] at hI;clear hn hn';go_enter Tryz.func18,Tryz.ntmps18
  go_upto_region 1 with fail
  generalize w.alloc (aH #[aj A.ma g.mem.length A.mc,aj A.ua g.up.length A.uc,aj A.la g.dS.length A.lc] 28)=W0 at *;go_wp2_with (go_at_call 52;refine fV hI ?_)
  go_ret
  exact⟨dZ (by rw[HZ.out]),HB0.out⟩
 rw[hn] at hI;have jy:=iQ.1 hn;clear hn;by_cases hu:g.up.length=g.mem.length;rotate_left
 ·have HZ:aG (jQ g=aC):=WO hu
  have e1:((g.up.length:Int) != (g.mem.length:Int))=aB:=by simp;omega
  clear hu;go_enter Tryz.func18,Tryz.ntmps18
  go_upto_region 1 with fail
  generalize w.alloc (aH #[aj A.ma g.mem.length A.mc,aj A.ua g.up.length A.uc,aj A.la g.dS.length A.lc] 28)=W0 at *;go_wp2_with (go_at_call 52;refine fV hI ?_)
  go_ret
  exact⟨dZ (by rw[HZ.out]),HB0.out⟩
 have e1:((g.up.length:Int) != (g.mem.length:Int))=aC:=by simp;omega
 have HU:=dP hu;clear hu;by_cases hm:g.dS.length<=200;rotate_left
 ·have HZ:aG (jQ g=aC):=WQ hm
  have e2:(g.dS.length:Int)>200:=by omega
  clear hm;go_enter Tryz.func18,Tryz.ntmps18
  go_upto_region 1 with fail
  generalize w.alloc (aH #[aj A.ma g.mem.length A.mc,aj A.ua g.up.length A.uc,aj A.la g.dS.length A.lc] 28)=W0 at *;go_wp2_with (go_at_call 52;refine fV hI ?_)
  go_ret
  exact⟨dZ (by rw[HZ.out]),HB0.out⟩
 have e2:¬ (g.dS.length:Int)>200:=by omega
 go_enter Tryz.func18,Tryz.ntmps18
 go_upto_region 1 with fail
 generalize w.alloc (aH #[aj A.ma g.mem.length A.mc,aj A.ua g.up.length A.uc,aj A.la g.dS.length A.lc] 28)=W0 at *;go_wp2_with (go_at_call 52;refine fV hI ?_)
 clear c0 c1 c2 hI e1 e2
 go_loopw [32] (fun v wr=>∃ k:Nat,k<=g.mem.length/\v=ah aA (k:Int)/\aG (∀ j,j<k->oW g j=aB)/\Below W0.heap.size W0 wr) (fun v _=>g.mem.length-(ba4 v).toNat)
 case atStart=>exact⟨0,aZ1 _,rfl,fun j hj=>by omega,aZ5 _ _⟩
 case round =>
  obtain⟨k,hk,rfl,HA,hb⟩:=hrel;have HB:=dP hb;by_cases hlt:k<g.mem.length
  ·obtain⟨bb,off,Ak,hma,⟨d0,d1,d2,d3,d4⟩,hmp⟩:=(HV.out.below hb).member hlt
   have HF:aG (oW g k=aC->jQ g=aC):=fun h=>WR hlt h
   have HT:aG (oW g k=aB->∀ j,j<k+1->oW g j=aB):=fun h j hj=>by
    rcases bD.1 hj with h1|h1
    ·exact HA.out j h1
    ·rw[h1];exact h
   have HO:aG (oW g k=(gZ (dY g k)&&(decide ((dY g k).id=(k:Int))&&decide ((dY g k).n=(g.mem.length:Int))))):=rfl;have k1:(k:Int)<g.mem.length:=by omega
   have k0:(0:Int)<=k:=by omega
   generalize oW g k=on at *;generalize dY g k=m at *;rw[hma];have Tf:=dP hma;have hba:=dX wr (aH #[ah aA m.id,ah aA m.n,aj Ak.ra m.rows.length Ak.rc,aj Ak.sa m.dR.length Ak.sc,aF m.done] 47);have hxm:=Bx.new wr 47 #[ah aA m.id,ah aA m.n,aj Ak.ra m.rows.length Ak.rc,aj Ak.sa m.dR.length Ak.sc,aF m.done];have ou:=dP (eP HB.out hba);have hMk:=Qi Ak m (wr.alloc (aH #[ah aA m.id,ah aA m.n,aj Ak.ra m.rows.length Ak.rc,aj Ak.sa m.dR.length Ak.sc,aF m.done] 47)) (hmp.below hba);unfold iL ig at hMk;obtain⟨y0,y1,y2,y3,y4⟩:=Bx.r5 hxm;clear hmp hb hba hxm hma;go_upto_region 7 with fail
   clear d0 d1 d2 d3 d4;generalize wr.alloc (aH #[ah aA m.id,ah aA m.n,aj Ak.ra m.rows.length Ak.rc,aj Ak.sa m.dR.length Ak.sc,aF m.done] 47)=W5 at *;by_cases q1:m.id=(k:Int);rotate_left
   ·have z1:(m.id != (k:Int))=aB:=by simp[q1]
    have HZ:aG (jQ g=aC):=HF.out (by rw[HO.out,decide_eq_false q1];simp)
    clear HF HT HO q1;go_wp2_with fail
    go_ret
    exact⟨dZ (by rw[HZ.out]),eP HB0.out ou.out⟩
   have z1:(m.id != (k:Int))=aC:=by simp[q1]
   by_cases q2:m.n=(g.mem.length:Int);rotate_left
   ·have z2:(m.n != (g.mem.length:Int))=aB:=by simp[q2]
    have HZ:aG (jQ g=aC):=HF.out (by rw[HO.out,decide_eq_false q2];simp)
    clear HF HT HO q1 q2;go_wp2_with fail
    go_ret
    exact⟨dZ (by rw[HZ.out]),eP HB0.out ou.out⟩
   have z2:(m.n != (g.mem.length:Int))=aC:=by simp[q2]
   have xw:aG (on=gZ m):=by rw[aG,HO.out,decide_eq_true q1,decide_eq_true q2];simp
   clear HO q1 q2;generalize gZ m=ob at *;go_wp2_with fail
   refine hMk.mono ?_;rintro e w6 ⟨rfl,hb6⟩;have uJ:=dP (eP ou.out hb6);clear hMk hb6 y0 y1 y2 y3 y4 z1 z2
   cases ob with
   | false =>
    have HZ:=dP (HF.out xw.out);clear HF HT xw;go_wp2_with fail
    go_ret
    exact⟨dZ (by rw[HZ.out]),eP HB0.out uJ.out⟩
   | true =>
    have HZ:=dP (HT.out xw.out);clear HF HT xw;go_wp2_with fail
    go_roundw
    case rel=>exact⟨k+1,by omega,by go_num,HZ.out,uJ.out⟩
    case measure=>simp[ba4];omega
  ·have k1:¬ ((k:Int)<g.mem.length):=by omega
   have HM:aG (∀ j,j<g.mem.length->oW g j=aB):=fun j hj=>HA.out j (by omega)
   obtain⟨c0,c1,c2⟩:=Bx.g3 (HX.out.below hb);clear hb HA;go_wp2_with fail
   clear c0 c1 c2 k1;generalize wr=V at *
   go_loopw [56] (fun v wr=>∃ k:Nat,k<=g.dS.length/\v=ah aA (k:Int)/\aG (∀ j,j<k->qj (eX g j) (g.mem.length:Int)=aB)/\Below W0.heap.size W0 wr) (fun v _=>g.dS.length-(ba4 v).toNat)
   case atStart=>exact⟨0,aZ1 _,rfl,fun j hj=>by omega,HB.out⟩
   case round =>
    obtain⟨k,hk,rfl,HA,hb⟩:=hrel;have HB2:=dP hb;by_cases hlt:k<g.dS.length
    ·obtain⟨bb,off,Ak,hla,d0,d1,⟨⟨d2,d3,d4,d5⟩,d6,d7,d8,d9⟩,nD⟩:=(HV.out.below hb).letter hlt
     have ad4:=HV.out.i64.2 _ (FH hlt);have HF:aG (qj (eX g k) (g.mem.length:Int)=aC->jQ g=aC):=fun h=>WS hlt h
     have HT:aG (qj (eX g k) (g.mem.length:Int)=aB->∀ j,j<k+1->qj (eX g j) (g.mem.length:Int)=aB):=fun h j hj=>by
      rcases bD.1 hj with h1|h1
      ·exact HA.out j h1
      ·rw[h1];exact h
     have HO:aG (qj (eX g k) (g.mem.length:Int)=(nR (g.mem.length:Int) [(eX g k).fr,(eX g k).to]&&gu (eX g k).row (g.mem.length:Int))):=Vm _ _;have k1:(k:Int)<g.dS.length:=by omega
     have k0:(0:Int)<=k:=by omega
     generalize qj (eX g k) (g.mem.length:Int)=on at *;generalize (eX g k).row=r at *;generalize (eX g k).fr=fr at *;generalize (eX g k).to=tt at *;rw[hla];have HLa:=dP hla;have hba:=dX wr (aH #[ah aA fr,ah aA tt,ah aA r.ver,aj Ak.ta r.txt.length Ak.tc,aj Ak.ga r.got.length Ak.gc,aj Ak.sa r.dQ.length Ak.sc,aF r.wed,aF r.dV,ah aA r.dW,aj Ak.ma r.dU.length Ak.mc] 68);have hxm:=Bx.new wr 68 #[ah aA fr,ah aA tt,ah aA r.ver,aj Ak.ta r.txt.length Ak.tc,aj Ak.ga r.got.length Ak.gc,aj Ak.sa r.dQ.length Ak.sc,aF r.wed,aF r.dV,ah aA r.dW,aj Ak.ma r.dU.length Ak.mc];have ou:=dP (eP HB2.out hba);have aE5:=nD.below hba;have XZ:=dP aE5;have HXm:=dP hxm;obtain⟨⟨y0,y1,_,_,_⟩,_⟩:=Bx.AZ hxm;clear nD aE5 hb hba hxm hla;go_upto_region 13 with fail
     clear d0 d1 d2 d3 d4 d5 d6 d7 d8 d9;generalize wr.alloc (aH #[ah aA fr,ah aA tt,ah aA r.ver,aj Ak.ta r.txt.length Ak.tc,aj Ak.ga r.got.length Ak.gc,aj Ak.sa r.dQ.length Ak.sc,aF r.wed,aF r.dV,ah aA r.dW,aj Ak.ma r.dU.length Ak.mc] 68)=W5 at *;have hb7:=dX W5 (aH #[ah aA fr,ah aA tt] 2);have Tm:=KD (g.mem.length:Int) W5.heap.size 0 2 [fr,tt] (W5.alloc (aH #[ah aA fr,ah aA tt] 2)) (ad2 W5 fr tt ad4.1 ad4.2.1) (by simp) (by simp) (by unfold ba2;omega) (by omega)
     have L9:=dP (eP ou.out hb7);have He:=XW Ak r (g.mem.length:Int) (W5.alloc (aH #[ah aA fr,ah aA tt] 2)) (XZ.out.below hb7) (by unfold jo;omega)
     obtain⟨_,y5,y6,y7,y8,y9⟩:=Bx.AZ (HXm.out.below hb7);obtain⟨⟨_,_,y2,y3,y4⟩,_⟩:=Bx.AZ (HXm.out.below hb7);unfold iK fP at He;simp only[aU6,List.length_nil,Nat.zero_add,Nat.reduceAdd] at Tm;generalize nR (g.mem.length:Int) [fr,tt]=p at *;clear hb7 ad4
     cases p with
     | false =>
      have HZ:aG (jQ g=aC):=HF.out (by rw[HO.out];rfl)
      clear HF HT HO He y2 y3 y4 y5 y6 y7 y8 y9;go_wp2_with (go_at_call 54;refine fV Tm ?_)
      go_ret
      exact⟨dZ (by rw[HZ.out]),eP HB0.out L9.out⟩
     | true =>
      have xw:aG (on=gu r (g.mem.length:Int)):=by rw[aG,HO.out,Bool.true_and]
      clear HO;generalize gu r (g.mem.length:Int)=ob at *;go_wp2_with (go_at_call 54;refine fV Tm ?_)
      refine He.mono ?_;rintro e w6 ⟨rfl,hb6⟩;have uJ:=dP (eP L9.out hb6);clear He hb6 Tm y0 y1 y2 y3 y4 y5 y6 y7 y8 y9
      cases ob with
      | false =>
       have HZ:=dP (HF.out xw.out);clear HF HT xw;go_wp2_with fail
       go_ret
       exact⟨dZ (by rw[HZ.out]),eP HB0.out uJ.out⟩
      | true =>
       have HZ:=dP (HT.out xw.out);clear HF HT xw;go_wp2_with fail
       go_roundw
       case rel=>exact⟨k+1,by omega,by go_num,HZ.out,uJ.out⟩
       case measure=>simp[ba4];omega
    ·have k1:¬ ((k:Int)<g.dS.length):=by omega
     have HZ:aG (jQ g=aB):=OL (by omega) (by omega) HU.out hm HM.out (fun j hj=>HA.out j (by omega))
     clear hb HA;go_wp2_with fail
     go_ret
     exact⟨dZ (by rw[HZ.out]),eP HB0.out HB2.out⟩
theorem BU:Rj:=fun A g w h=>ad3 A g w h
def nG (m:Mb):List eF:=[.v (ah aA m.id),iF 8 jr m.rows,gQ m.dR,.v (aF m.done)]
def C4 (w:aI) (B:Nat) (x0 x1 x2 x3:aJ):Prop:=w.cell? ⟨B,0,ak⟩=au x0/\w.cell? ⟨B,1,ak⟩=au x1/\w.cell? ⟨B,2,ak⟩=au x2/\w.cell? ⟨B,3,ak⟩=au x3
structure Iw (w X:aI) (B:Nat) (m:Mb) (fp:Fp) (g off c:Nat):Prop where
 iw:fH w X B 0 (nG m) fp
 rws:X.cell? ⟨B,1,ak⟩=au (aj (au ⟨g,off,ak⟩) m.rows.length c)
theorem Iw.start {B: Nat} {m: Mb} {fp: Fp} (h:iO w B 0 (nG m) fp) (hn:0<m.rows.length):∃ g off c,Iw w w B m fp g off c:=by
 obtain⟨g,off,c,f,h1,_⟩:=h.el (F:=jr) jW (by omega) (j:=1) (L:=m.rows) rfl (iZ hn)
 exact⟨g,off,c,fH.refl h,h1⟩
theorem Iw.step {X X': aI} {B: Nat} {m: Mb} {fp: Fp} {c: Nat} (h:Iw w X B m fp g off c) (hb:Below X.heap.size X X'):Iw w X' B m fp g off c:=⟨h.iw.below hb,fM hb h.rws⟩
theorem Iw.box {X: aI} {B: Nat} {m: Mb} {fp: Fp} {c: Nat} (h:Iw w X B m fp g off c) (hf:nY m):∃ sa sc,C4 X B (ah aA m.id) (aj (au ⟨g,off,ak⟩) m.rows.length c) (aj sa m.dR.length sc) (aF m.done)/\wO X ⟨au ⟨g,off,ak⟩,c,sa,sc⟩ m:=by
 obtain⟨gI,hp,_⟩:=h.iw.next;have hv:=hp.pv;obtain⟨u0,c0,rfl⟩:=hv.at (j:=0) rfl;obtain⟨u2,c2,v2⟩:=hv.at (j:=1) rfl;obtain⟨u3,c3,v3⟩:=hv.at (j:=2) rfl;obtain⟨u4,c4,rfl⟩:=hv.at (j:=3) rfl;have e2:=aV4 (c2.symm.trans h.rws);subst e2;obtain⟨sa,sc,rfl,s1,s2,s3⟩:=nI v3 hf.2;have k:=v2;obtain⟨_,_,_,e,k1,k2,_⟩:=k
 cases e
 exact⟨sa,sc,⟨c0,c2,c3,c4⟩,v2,s1,by omega,by omega,hf.1⟩
theorem Iw.id' {X: aI} {B: Nat} {m: Mb} {fp: Fp} {c: Nat} (h:Iw w X B m fp g off c):X.cell? ⟨B,0,ak⟩=au (ah aA m.id)/\X.cell? ⟨B,3,ak⟩=au (aF m.done):=by
 obtain⟨gI,hp,_⟩:=h.iw.next;have hv:=hp.pv;obtain⟨u0,c0,rfl⟩:=hv.at (j:=0) rfl;obtain⟨u4,c4,rfl⟩:=hv.at (j:=3) rfl;exact⟨c0,c4⟩
theorem Iw.row {w X:aI} {B:Nat} {m:Mb} {fp:Fp} {g off c:Nat} (h:Iw w X B m fp g off c) (hf:nY m) {k:Nat} (hk:k<m.rows.length):∃ Ak:Ra,C8 X g (off+k*8) (ah aA (dO m.rows k).ver) (aj Ak.ta (dO m.rows k).txt.length Ak.tc) (aj Ak.ga (dO m.rows k).got.length Ak.gc) (aj Ak.sa (dO m.rows k).dQ.length Ak.sc) (aF (dO m.rows k).wed) (aF (dO m.rows k).dV) (ah aA (dO m.rows k).dW) (aj Ak.ma (dO m.rows k).dU.length Ak.mc)/\qJ X Ak (dO m.rows k):=by
 obtain⟨sa,sc,_,h2⟩:=h.box hf;obtain⟨g',off',Ak,e,h3,h4⟩:=h2.row hk
 cases e
 exact⟨Ak,h3,h4⟩
theorem Iw.at {w X:aI} {B:Nat} {m:Mb} {fp:Fp} {g off c:Nat} (h:Iw w X B m fp g off c) {k:Nat} (hk:k<m.rows.length) {j:Nat} {cl:eF} (hj:(jr (dO m.rows k))[j]?=au cl):∃ u f,X.cell? ⟨g,off+k*8+j,ak⟩=au u/\X.frozen? ⟨g,off+k*8+j,ak⟩=aC/\eF.ow X cl u f/\(∀ b,f b->b<X.heap.size) /\
  ∀ (X1:aI) (c':eF) (u':aJ) (f':Fp) (r':Rw),(jr (dO m.rows k)).set j c'=jr r'->eU f X X1->eF.ow X1 c' u' f'->(∀ b,f' b->f b\/X.heap.size<=b)->X1.cell? ⟨g,off+k*8+j,ak⟩=au u/\X1.frozen? ⟨g,off+k*8+j,ak⟩=aC/\Iw w (X1.setCell ⟨g,off+k*8+j,ak⟩ u') B { m with rows:=m.rows.set k r' } fp g off c/\(u'=u->Iw w X1 B { m with rows:=m.rows.set k r' } fp g off c):=by
 obtain⟨gI,hp,hf1,hgo⟩:=h.iw.next;obtain⟨g',off',c',f,h1,hgB,hfg,hfs,hpl,hput⟩:=hp.el (F:=jr) jW (by omega) (j:=1) (L:=m.rows) rfl (iZ hk)
 have e:=aV4 (h1.symm.trans h.rws)
 cases e
 obtain⟨u,fj,hu,hfz,hc,hsub,hnB,hset⟩:=hpl.at hj;have Cm:=hp.lt;refine⟨u,fj,hu,hfz,hc,eF.lg hc,fun X1 c' u' f' r' er hw hc' hf'=>?_⟩
 obtain⟨k1,k2,k3,k4⟩:=hset X1 c' u' f' hw hc' hf';rw[er] at k3 k4;have WH:¬ fj B:=fun hb=>hp.nB (hfs B (hsub B hb))
 have hr1:X1.cell? ⟨B,1,ak⟩=au (aj (au ⟨g,off,ak⟩) m.rows.length c):=(bT (hw.block B Cm WH)).trans h.rws;have key:∀ Z,fH X Z g (off+k*8) (jr r') f->fH w Z B 0 (nG { m with rows:=m.rows.set k r' }) fp:=fun Z hZ=>hgo Z _ rfl (hput Z r' hZ)
 refine⟨k1,k2,⟨key _ k3, ?_⟩,fun e=>⟨key _ (k4 e), ?_⟩⟩
 ·rw[bg _ _ _ _ (by simp only[ne_eq,aX6,not_and];intro e;exact absurd e hgB),hr1]
  simp
 ·rw[hr1];simp
theorem Iw.put {X: aI} {B: Nat} {m: Mb} {fp: Fp} {c: Nat} (h:Iw w X B m fp g off c) (hk:k<m.rows.length) {x y: aJ} (hj:(jr (dO m.rows k))[j]?=au (.v x)) (er:(jr (dO m.rows k)).set j (.v y)=jr r') :
  X.cell? ⟨g,off+k*8+j,ak⟩=au x/\X.frozen? ⟨g,off+k*8+j,ak⟩=aC/\Iw w (X.setCell ⟨g,off+k*8+j,ak⟩ y) B { m with rows:=m.rows.set k r' } fp g off c:=by
 obtain⟨u,f,h1,h2,⟨rfl,h3⟩,_,h4⟩:=h.at hk hj;exact⟨h1,h2,(h4 X (.v y) y (fun _=>False) r' er (eU.refl _ _) ⟨rfl,fun _ h=>h⟩ (fun b hb=>hb.elim)).2.2.1⟩
theorem Iw.LD {X: aI} {B: Nat} {m: Mb} {fp: Fp} {c: Nat} (h:Iw w X B m fp g off c) (hj:(nG m)[j]?=au cl) (hj2:j≠1):∃ u f,X.cell? ⟨B,0+j,ak⟩=au u/\X.frozen? ⟨B,0+j,ak⟩=aC/\eF.ow X cl u f/\(∀ b,f b->b<X.heap.size) /\
  ∀ (X1:aI) (c':eF) (u':aJ) (f':Fp) (m':Mb),(nG m).set j c'=nG m'->m'.rows.length=m.rows.length->eU f X X1->eF.ow X1 c' u' f'->(∀ b,f' b->f b\/X.heap.size<=b)->X1.cell? ⟨B,0+j,ak⟩=au u/\X1.frozen? ⟨B,0+j,ak⟩=aC/\Iw w (X1.setCell ⟨B,0+j,ak⟩ u') B m' fp g off c:=by
 obtain⟨gI,hp,hf1,hgo⟩:=h.iw.next;obtain⟨u,fj,hu,hfz,hc,hsub,hnB,hset⟩:=hp.at hj;refine⟨u,fj,hu,hfz,hc,eF.lg hc,fun X1 c' u' f' m' er hl hw hc' hf'=>?_⟩
 obtain⟨k1,k2,k3,k4⟩:=hset X1 c' u' f' hw hc' hf';rw[er] at k3;refine⟨k1,k2,hgo _ _ rfl k3, ?_⟩;rw[bg _ _ _ _ (by simp only[ne_eq,aX6,not_and];intro _ e;omega),bT (hw.block B hp.lt hnB),h.rws,hl]
theorem Iw.OU {X: aI} {B: Nat} {m: Mb} {fp: Fp} {c: Nat} (h:Iw w X B m fp g off c) (hk:k<m.rows.length) (hb:Below X.heap.size X X1) (hr:gq X1 (jL r') (jw Ar r') fr) (hfr:∀ b,fr b->X.heap.size<=b) :
  Iw w ((((((((X1.setCell ⟨g,off+k*8,ak⟩ (ah aA r'.ver)).setCell ⟨g,off+k*8+1,ak⟩ (aj Ar.ta r'.txt.length Ar.tc)).setCell ⟨g,off+k*8+2,ak⟩ (aj Ar.ga r'.got.length Ar.gc)).setCell ⟨g,off+k*8+3,ak⟩ (aj Ar.sa r'.dQ.length Ar.sc)).setCell ⟨g,off+k*8+4,ak⟩ (aF r'.wed)).setCell ⟨g,off+k*8+5,ak⟩ (aF r'.dV)).setCell ⟨g,off+k*8+6,ak⟩ (ah aA r'.dW)).setCell ⟨g,off+k*8+7,ak⟩ (aj Ar.ma r'.dU.length Ar.mc)) B { m with rows:=m.rows.set k r' } fp g off c:=by
 obtain⟨gI,hp,hf1,hgo⟩:=h.iw.next;obtain⟨g',off',c',f,h1,hgB,hfg,hfs,hpl,hput⟩:=hp.el (F:=jr) jW (by omega) (j:=1) (L:=m.rows) rfl (iZ hk)
 have e:=aV4 (h1.symm.trans h.rws)
 cases e
 have hA:=hpl.all hb (EP hr) rfl hfr;have hB:=hgo _ (nG { m with rows:=m.rows.set k r' }) rfl (hput _ r' hA)
 refine⟨hB, ?_⟩;have hr1:X1.cell? ⟨B,1,ak⟩=au (aj (au ⟨g,off,ak⟩) m.rows.length c):=(bT (hb.block B hp.lt)).trans h.rws;have:=World.cell?_setCells_out g (fP Ar r').toList (off+k*8) X1 ⟨B,1,ak⟩ (fun e _=>absurd e.symm hgB)
 have e2:=this.trans hr1;simp only[List.length_set]
 exact e2
theorem Iw.free {w X:aI} {B:Nat} {m:Mb} {fp:Fp} {g off c:Nat} (h:Iw w X B m fp g off c) {k:Nat} (hk:k<m.rows.length):(X.frozen? ⟨g,off+k*8,ak⟩=aC/\X.frozen? ⟨g,off+k*8+1,ak⟩=aC/\X.frozen? ⟨g,off+k*8+2,ak⟩=aC/\X.frozen? ⟨g,off+k*8+3,ak⟩=aC)/\X.frozen? ⟨g,off+k*8+4,ak⟩=aC/\X.frozen? ⟨g,off+k*8+5,ak⟩=aC/\X.frozen? ⟨g,off+k*8+6,ak⟩=aC/\X.frozen? ⟨g,off+k*8+7,ak⟩=aC:=by
 obtain⟨gI,hp,hf1,hgo⟩:=h.iw.next;obtain⟨g',off',c',f,h1,hgB,hfg,hfs,⟨vs,hpc,hov,_⟩,hput⟩:=hp.el (F:=jr) jW (by omega) (j:=1) (L:=m.rows) rfl (iZ hk)
 have e:=aV4 (h1.symm.trans h.rws)
 cases e
 have hl:vs.length=8:=jI hov;exact⟨⟨hpc.free 0 (by omega),hpc.free 1 (by omega),hpc.free 2 (by omega),hpc.free 3 (by omega)⟩,hpc.free 4 (by omega),hpc.free 5 (by omega),hpc.free 6 (by omega),hpc.free 7 (by omega)⟩
theorem Iw.sub {X X5: aI} {B: Nat} {m: Mb} {fp: Fp} {c: Nat} (h:Iw w X B m fp g off c) (hb:Below X.heap.size X X5):∃ jE,(∀ b,jE b->b<X.heap.size)/\B<X.heap.size/\(∀ b,jE b->fp b\/w.heap.size<=b)/\Iw X5 X5 B m jE g off c/\∀ (Y:aI) (m':Mb),Iw X5 Y B m' jE g off c->Iw w Y B m' fp g off c:=by
 obtain⟨gI,hp,hf1,hgo⟩:=h.iw.next;have hlt:=hp.flt;have hB:=hp.lt;refine⟨gI,hlt,hB,hf1,⟨fH.refl (hp.below hb),fM hb h.rws⟩,fun Y m' hY=>⟨hgo Y _ rfl (hY.iw.first hb hB hlt),hY.rws⟩⟩
theorem Iw.bx {X: aI} {B: Nat} {m: Mb} {fp: Fp} {c: Nat} (h:Iw w X B m fp g off c) {b: Nat} {cs: Array aJ} (hx:Bx w b T cs) (h1:¬ fp b) (h2:b≠B):Bx X b T cs:=hx.wrt h.iw.wrt (fun k=>k.elim h1 h2)
theorem Iw.SA {X: aI} {B: Nat} {m: Mb} {fp: Fp} {c: Nat} (h:Iw w X B m fp g off c) {u: aJ} (hx:eF.ow w cl u f) (h1:∀ b,f b->¬ fp b/\b≠B):eF.ow X cl u f:=eF.lC hx h.iw.wrt (fun b hb k=>k.elim (h1 b hb).1 (h1 b hb).2)
theorem zN (B:Nat) (a:Option Addr) (n c:Nat) (X:aI) (h1:X.cell? ⟨B,1,ak⟩=au (aj a n c)) :
  ba3 aZ8 166 #[aO (au ⟨B,0,ak⟩)] X fun e w'=>e=aK (ah aA (n:Int))/\w'=X:=by
 go_enter Tryz.func166,Tryz.ntmps166
 go_wp2;go_ret
 exact⟨rfl,rfl⟩
theorem oK (B i n g off c:Nat) (X:aI) (h0:X.cell? ⟨B,0,ak⟩=au (ah aA (i:Int))) (h1:X.cell? ⟨B,1,ak⟩=au (aj (au ⟨g,off,ak⟩) n c)) (hi:i<n) :
  ba3 aZ8 140 #[aO (au ⟨B,0,ak⟩)] X fun e w'=>e=aK (aO (au ⟨g,off+i*8,ak⟩))/\Below X.heap.size X w':=by
 have fU:=iq;have i0:(0:Int)<=i:=by omega
 have i1:(i:Int)<n:=by omega
 have T:∀ {x v},X.cell? x=au v->∀ q:Bk X,q.w.cell? x=au v:=fun h q=>fM q.h h
 have p0:=T h0;have p1:=T h1;clear T h0 h1;go_enter Tryz.func140,Tryz.ntmps140
 go_wp2_with fail
 refine jf ?_;repeat (go_big_quiet_step ((first|rfl)))
 refine aZ2 (iI fun wE eH=>?_)
 have HB:=dP eH;clear p0 p1 eH;go_wp2;go_ret
 exact⟨rfl,HB.out⟩
def uS (i n:Nat) (dQ:List Int) (who:Int):Bool:=decide (who≠(i:Int))&&(inB who 0 ((n:Int)-1)&&decide (who∉dQ))
theorem Tn (B i n g off c:Nat) (sa:Option Addr) (sc:Nat) (dQ:List Int) (who:Int) (X:aI) (h0:X.cell? ⟨B,0,ak⟩=au (ah aA (i:Int))) (h1:X.cell? ⟨B,1,ak⟩=au (aj (au ⟨g,off,ak⟩) n c)) (hi:i<n) (hn:n<=5) (h3:X.cell? ⟨g,off+i*8+3,ak⟩=au (aj sa dQ.length sc)) (hv:Vec X sa dQ.length dQ) (hm:dQ.length<=ba2) :
  ba3 aZ8 177 #[aO (au ⟨B,0,ak⟩),ah aA who] X fun e w'=>e=aK (aF (uS i n dQ who))/\Below X.heap.size X w':=by
 have HR:aG (Below X.heap.size X X):=aZ5 _ _;by_cases e1:who=(i:Int)
 ·have HZ:aG (uS i n dQ who=aC):=by rw[aG,uS,e1];simp
  have e1':(who != (i:Int))=aC:=by simp[e1]
  clear e1;go_enter Tryz.func177,Tryz.ntmps177
  go_wp2_with fail
  go_ret
  exact⟨dZ (by rw[HZ.out]),HR.out⟩
 have e1':(who != (i:Int))=aB:=by simp[e1]
 have hC:=fun X h=>zN B (au ⟨g,off,ak⟩) n c X h
 have hwn:wrap64 ((n:Int)-1)=(n:Int)-1:=by unfold wrap64;omega
 cases e2:inB who 0 ((n:Int)-1) with
 | false =>
  have HZ:aG (uS i n dQ who=aC):=by rw[aG,uS,e2];simp
  clear e1;go_enter Tryz.func177,Tryz.ntmps177
  go_wp2_with (first|(go_at_call 166;refine fV (hC _ h1) ?_)|(go_at_call 87;refine (lq _ _ _).mono ?_;rintro e w' ⟨rfl,hw'⟩;rw[hw',e2];clear hw'))
  go_ret
  exact⟨dZ (by rw[HZ.out]),HR.out⟩
 | true =>
  have HZ:aG (uS i n dQ who=!decide (who∈dQ)):=by rw[aG,uS,e2,decide_eq_true e1];simp
  have hO:=oK B i n g off c X h0 h1 hi;have aP2:aG (∀ Y,Below X.heap.size X Y->Y.cell? ⟨g,off+i*8+3,ak⟩=au (aj sa dQ.length sc)/\ba3 aZ8 88 #[aj sa dQ.length sc,ah aA who] Y fun e w'=>e=aK (aF (decide (who∈dQ)))/\w'=Y):=fun Y hY=>⟨fM hY h3,uh sa sc dQ who Y (hv.below hY (aZ0 _)) hm⟩
  clear e1 hv hm HR;generalize decide (who∈dQ)=b at *;go_enter Tryz.func177,Tryz.ntmps177
  go_wp2_with (first|(go_at_call 166;refine fV (hC _ h1) ?_)|(go_at_call 87;refine (lq _ _ _).mono ?_;rintro e w' ⟨rfl,hw'⟩;rw[hw',e2];clear hw')|(go_at_call 140;refine hO.mono ?_;rintro e w1 ⟨rfl,hb1⟩;obtain⟨g3,MQ⟩:=aP2.out w1 hb1;have HB1:aG (Below X.heap.size X w1):=hb1;clear hb1 h0 h1 h3)|(go_at_call 88;refine fV MQ ?_))
  go_ret
  exact⟨dZ (by rw[HZ.out]),HB1.out⟩
theorem Tq (B n c L lc:Nat) (a la:Option Addr) (X:aI) (h1:X.cell? ⟨B,1,ak⟩=au (aj a n c)) (hL:L<=100) (hn:n<=5) :
  ba3 aZ8 171 #[aO (au ⟨B,0,ak⟩),aj la L lc] X fun e w'=>e=aK (aF (decide (n<2*L)))/\w'=X:=by
 have hC:=zN B a n c X h1;have hw:wrap64 (2*(L:Int))=2*(L:Int):=by unfold wrap64;omega
 have hd:decide (2*(L:Int)>(n:Int))=decide (n<2*L):=by
  by_cases h:n<2*L
  ·rw[decide_eq_true h,decide_eq_true (by omega)]
  ·rw[decide_eq_false h,decide_eq_false (by omega)]
 rw[<- hd];clear hd;go_enter Tryz.func171,Tryz.ntmps171
 go_wp2_with (go_at_call 166;refine fV hC ?_)
 go_ret
 exact⟨rfl,rfl⟩
section
open Go.RowKit Go.Sort Go.Shelf
def Tryz.cloneL_ren:Go.Shelf.Ren:=⟨fun|316=>129|n=>n,fun|9=>9|3=>3|4=>4|37=>22|0=>0|127=>193|5=>5|n=>n,fun|n=>n⟩
theorem Tryz.cloneL : Go.Proofs.LaysM.n316 aZ8 Tryz.cloneL_ren := {
 mixed:=by kernel_rfl
 f316:=Tryz.func129.trans (congrArg au (by kernel_rfl))
 t0:=Tryz.underlying0
 a0:=Tryz.isAgg0
 z0:=Tryz.sizeOf0
 v0:=Tryz.zeroValue0
 t3:=Tryz.underlying3
 a3:=Tryz.isAgg3
 z3:=Tryz.sizeOf3
 v3:=Tryz.zeroValue3
 t4:=Tryz.underlying4
 a4:=Tryz.isAgg4
 z4:=Tryz.sizeOf4
 v4:=Tryz.zeroValue4
 t9:=Tryz.underlying9
 a9:=Tryz.isAgg9
 z9:=Tryz.sizeOf9
 v9:=Tryz.zeroValue9
 t37:=Tryz.underlying22
 a37:=Tryz.isAgg22
 z37:=Tryz.sizeOf22
 v37:=Tryz.zeroValue22
 t127:=Tryz.underlying193
 a127:=Tryz.isAgg193
 z127:=Tryz.sizeOf193
 v127:=Tryz.zeroValue193
 t5:=Tryz.underlying5
 a5:=Tryz.isAgg5
 z5:=Tryz.sizeOf5
 v5:=Tryz.zeroValue5
 i0:=by kernel_rfl
 i3:=by kernel_rfl
 i4:=by kernel_rfl
 i5:=by kernel_rfl
 i9:=by kernel_rfl
 i37:=by kernel_rfl
 i127:=by kernel_rfl }
theorem clone_any (l:List UInt8) (w:aI) (hl:l.length<=1048576) :
  ba3 aZ8 93 #[.string (sv l)] w fun e w'=>e=aK (.string (sv l))/\Below w.heap.size w w':=by
 have h:=Any.stringslite_Clone Tryz.cloneL (sv l) w (by rw[zL];omega)
 go_enter Tryz.func93,Tryz.ntmps93
 go_wp2_with fail
 refine h.mono ?_;rintro e w1 ⟨rfl,hb⟩;have HB:=dP hb;clear hb h;go_wp2;go_ret
 exact⟨rfl,HB.out⟩
end
section
variable {P:Program} {l:List Oper} {Q:Exit->Act->aI->Prop} {S:aI->Prop}
theorem Tt {i z:Nat} {o:Oper} {fuel:Nat} {listed:Array Bool} {a:Act} {w:aI} (hn:¬ S w) (hi:l[i]?=au o) (hr:aY9 .any l.toArray listed=[i])
  (h:∀ K':Act->aI->Prop,Shut (∀ a w,GT P l Q S z fuel (listed.setIfInBounds i aB) a w->K' a w)->if aY0 o (yielded l.toArray a.tmps)=aB then Oper.wp P o a w K' Q else K' (a.put o.dst undef) w):GT P l Q S z (fuel+1) listed a w:=by
 have hi':l.toArray[i]?=au o:=by simpa using hi
 refine⟨fun h0=>(by rw[hr] at h0;cases h0),fun j hj=>?_⟩
 rw[hr] at hj;simp at hj
 subst hj;exact wpOp_step hi' (fun K' hK=>h K' (fun a w hW=>hK a w ⟨fun _ hS=>absurd hS hn,hW⟩))
theorem ar5 {z:Nat} {o:Oper} {fuel:Nat} {listed:Array Bool} {a:Act} {w:aI} (hi:l[z]?=au o) (hr:aY9 .any l.toArray listed=[z])
  (h:∀ K':Act->aI->Prop,Shut (∀ a w,GT P l Q S z fuel (listed.setIfInBounds z aB) a w->K' a w)->if aY0 o (yielded l.toArray a.tmps)=aB then Oper.wp P o a w K' Q else K' (a.put o.dst undef) w):GT P l Q S z (fuel+1) listed a w:=by
 have hi':l.toArray[z]?=au o:=by simpa using hi
 refine⟨fun h0=>(by rw[hr] at h0;cases h0),fun j hj=>?_⟩
 rw[hr] at hj;simp at hj
 subst hj;exact wpOp_step hi' (fun K' hK=>h K' (fun a w hW=>hK a w ⟨fun e _=>absurd rfl e,hW⟩))
end
theorem CY (a:Option Addr) (c:Nat) (xs:List Int) (w:aI) (hv:Vec w a xs.length xs) (hl:xs.length<=1000000) :
  ba3 aZ8 167 #[aj a xs.length c] w fun e w'=>OZ w w' e xs:=by
 have q25:∀ (w:aI) (a:Option Addr) (n c n' c':Nat),(binOp .eql 41 (aj a n c) (aj ak n' c')).run aZ8 w=.ok (aF a.isNone) w:=fun w a n c n' c'=>Lib.run_eql_slice_nil w _ _ a n c n' c' Tryz.underlying41
 cases a with
 | none =>
  have hx:xs=[]:=by
   rcases hv.2.2 with h|⟨b,o,e,_⟩
   ·exact List.eq_nil_of_length_eq_zero h
   ·cases e
  subst hx;clear hv;go_enter Tryz.func167,Tryz.ntmps167
  go_wp2;go_ret
  exact⟨ak,0,rfl,fun _=>False,jv.2 ⟨ak,0,ak,rfl,iV.nil _ _ (fun _ h=>by cases h),fun b=>by simp⟩,fun _ h=>h.elim,aZ5 _ _⟩
 | some ad =>
  have hA:=wU (c:=c) hv hl;clear hv;go_enter Tryz.func167,Tryz.ntmps167
  go_wp2_with (at_builtin;refine fJ (by rfl) _ _ _ _ (by rfl) _ _ (by rfl) (by rfl) hA ⟨rfl,rfl,rfl,rfl⟩ ?_;rintro v1 w1 ⟨a1,e1,f1,rfl,q1,q2,q3⟩;have HQ:aG (sJ w w1 (gQ xs) (aj a1 xs.length e1)):=⟨f1,q1,q2,q3⟩;clear q1 q2 q3 hA)
  go_ret
  exact⟨a1,e1,rfl,HQ.out⟩
section
attribute [local irreducible] sv
theorem CZ (A:Ra) (r:Rw) (w:aI) (hv:qo w A r) (hg:0<r.got.length) (hs:kK r<=1000) :
  ba3 aZ8 141 #[iK A r] w fun e w'=>NM w w' e r:=by
 have fU:=iq;unfold kK at hs;have hb1:=dX w (aH #[ah aA r.ver,aj A.ta r.txt.length A.tc,aj A.ga r.got.length A.gc,aj A.sa r.dQ.length A.sc,aF r.wed,aF r.dV,ah aA r.dW,aj A.ma r.dU.length A.mc] 44);have hb2:=dX (w.alloc (aH #[ah aA r.ver,aj A.ta r.txt.length A.tc,aj A.ga r.got.length A.gc,aj A.sa r.dQ.length A.sc,aF r.wed,aF r.dV,ah aA r.dW,aj A.ma r.dU.length A.mc] 44)) (aH #[ah aA 0,aj ak 0 0,aj ak 0 0,aj ak 0 0,aF aC,aF aC,ah aA 0,aj ak 0 0] 44);have hb3:=dX ((w.alloc (aH #[ah aA r.ver,aj A.ta r.txt.length A.tc,aj A.ga r.got.length A.gc,aj A.sa r.dQ.length A.sc,aF r.wed,aF r.dV,ah aA r.dW,aj A.ma r.dU.length A.mc] 44)).alloc (aH #[ah aA 0,aj ak 0 0,aj ak 0 0,aj ak 0 0,aF aC,aF aC,ah aA 0,aj ak 0 0] 44)) (aH #[] 9);have hx1:Bx (((w.alloc (aH #[ah aA r.ver,aj A.ta r.txt.length A.tc,aj A.ga r.got.length A.gc,aj A.sa r.dQ.length A.sc,aF r.wed,aF r.dV,ah aA r.dW,aj A.ma r.dU.length A.mc] 44)).alloc (aH #[ah aA 0,aj ak 0 0,aj ak 0 0,aj ak 0 0,aF aC,aF aC,ah aA 0,aj ak 0 0] 44)).alloc (aH #[] 9)) w.heap.size 44 #[ah aA r.ver,aj A.ta r.txt.length A.tc,aj A.ga r.got.length A.gc,aj A.sa r.dQ.length A.sc,aF r.wed,aF r.dV,ah aA r.dW,aj A.ma r.dU.length A.mc]:=((Bx.new w 44 #[ah aA r.ver,aj A.ta r.txt.length A.tc,aj A.ga r.got.length A.gc,aj A.sa r.dQ.length A.sc,aF r.wed,aF r.dV,ah aA r.dW,aj A.ma r.dU.length A.mc]).alloc _).alloc _
 have hx2:Bx (((w.alloc (aH #[ah aA r.ver,aj A.ta r.txt.length A.tc,aj A.ga r.got.length A.gc,aj A.sa r.dQ.length A.sc,aF r.wed,aF r.dV,ah aA r.dW,aj A.ma r.dU.length A.mc] 44)).alloc (aH #[ah aA 0,aj ak 0 0,aj ak 0 0,aj ak 0 0,aF aC,aF aC,ah aA 0,aj ak 0 0] 44)).alloc (aH #[] 9)) (w.heap.size+1) 44 #[ah aA 0,aj ak 0 0,aj ak 0 0,aj ak 0 0,aF aC,aF aC,ah aA 0,aj ak 0 0]:=by
  have:=(Bx.new (w.alloc (aH #[ah aA r.ver,aj A.ta r.txt.length A.tc,aj A.ga r.got.length A.gc,aj A.sa r.dQ.length A.sc,aF r.wed,aF r.dV,ah aA r.dW,aj A.ma r.dU.length A.mc] 44)) 44 #[ah aA 0,aj ak 0 0,aj ak 0 0,aj ak 0 0,aF aC,aF aC,ah aA 0,aj ak 0 0]).alloc (aH #[] 9);simp only[aU1] at this;exact this
 have ql:=eP hb1 hb2;have KF:=eP ql hb3;have jD:aG (eF.ow (((w.alloc (aH #[ah aA r.ver,aj A.ta r.txt.length A.tc,aj A.ga r.got.length A.gc,aj A.sa r.dQ.length A.sc,aF r.wed,aF r.dV,ah aA r.dW,aj A.ma r.dU.length A.mc] 44)).alloc (aH #[ah aA 0,aj ak 0 0,aj ak 0 0,aj ak 0 0,aF aC,aF aC,ah aA 0,aj ak 0 0] 44)).alloc (aH #[] 9)) (ny []) (aj (au ⟨w.heap.size+1+1,0,ak⟩) 0 0) (fun _=>False)):=qI.2 ⟨_,0,ak,rfl,iV.nil _ _ (kV _ _),fun b=>by simp⟩
 have qO:=dP hx1;have lM:=dP hx2;have HB0:=dP KF;have HV:=dP hv;have hsz:w.heap.size+1+1<=(((w.alloc (aH #[ah aA r.ver,aj A.ta r.txt.length A.tc,aj A.ga r.got.length A.gc,aj A.sa r.dQ.length A.sc,aF r.wed,aF r.dV,ah aA r.dW,aj A.ma r.dU.length A.mc] 44)).alloc (aH #[ah aA 0,aj ak 0 0,aj ak 0 0,aj ak 0 0,aF aC,aF aC,ah aA 0,aj ak 0 0] 44)).alloc (aH #[] 9)).heap.size:=by simp only[aU1];omega
 have zy:=dP hsz;obtain⟨⟨c0,c1,c2,c3⟩,c4,c5,c6,c7⟩:=Bx.r8 hx1;clear hb1 hb2 hb3 ql KF hx1 hx2 hv hsz;unfold iK fP;go_enter Tryz.func141,Tryz.ntmps141
 go_wp2_with fail
 generalize ((w.alloc (aH #[ah aA r.ver,aj A.ta r.txt.length A.tc,aj A.ga r.got.length A.gc,aj A.sa r.dQ.length A.sc,aF r.wed,aF r.dV,ah aA r.dW,aj A.ma r.dU.length A.mc] 44)).alloc (aH #[ah aA 0,aj ak 0 0,aj ak 0 0,aj ak 0 0,aF aC,aF aC,ah aA 0,aj ak 0 0] 44)).alloc (aH #[] 9)=W0 at *;clear c0 c1 c2 c3 c4 c5 c6 c7
 go_loopw [3,10] (fun v k wr=>∃ (j:Nat) (a:Option Addr) (cc:Nat) (Z:List (List UInt8)) (fz:Fp),j<=r.txt.length/\k=ah aA (j:Int)/\v=aj a Z.length cc/\aG (Z=r.txt.take j)/\eF.ow wr (ny Z) (aj a Z.length cc) fz/\(∀ b,fz b->w.heap.size+1+1<=b)/\Bx wr w.heap.size 44 #[ah aA r.ver,aj A.ta r.txt.length A.tc,aj A.ga r.got.length A.gc,aj A.sa r.dQ.length A.sc,aF r.wed,aF r.dV,ah aA r.dW,aj A.ma r.dU.length A.mc]/\Bx wr (w.heap.size+1) 44 #[ah aA 0,aj ak 0 0,aj ak 0 0,aj ak 0 0,aF aC,aF aC,ah aA 0,aj ak 0 0]/\Below w.heap.size w wr) (fun _ k _=>r.txt.length-(ba4 k).toNat)
 case atStart=>exact⟨0,some ⟨w.heap.size+1+1,0,none⟩,0,[],_,aZ1 _,rfl,rfl,rfl,jD.out,fun b h=>h.elim,qO.out,lM.out,HB0.out⟩
 case round =>
  obtain⟨j,a,cc,Z,fz,hj,rfl,rfl,hZ,hO,hfz,hx1,hx2,hb⟩:=hrel;have HO:=dP hO;have zn:=dP hx1;have Tv:=dP hx2;have HB:=dP hb;have hsr:=hx2.lt;clear hO qO lM HB0 jD zy;by_cases hlt:j<r.txt.length
  ·rcases (HV.out.below hb).txt.RP with h0|⟨tb,tq,hta,htc⟩
   ·omega
   have hck:=htc j hlt;have hlen:(r.txt.getD j []).length<=1048576:=by have:=RN r.txt hlt;omega
   have hC:=clone_any (r.txt.getD j []) wr hlen;have HN:aG (r.txt.take (j+1)=Z++[r.txt.getD j []]):=by rw[aG,hZ.out,aS hlt];simp[ba0,hlt]
   have HZl:aG (Z.length<=1000000):=by rw[aG,hZ.out,aU5];omega
   have k0:(0:Int)<=j:=by omega
   have k1:(j:Int)<r.txt.length:=by omega
   rw[hta];clear hx1 hx2 hb htc hZ hlen;generalize r.txt.getD j []=t at *;go_wp2_with (first|(go_at_call 93;refine hC.mono ?_;rintro e w1 ⟨rfl,hb1⟩;have aP3:aG (Bx w1 w.heap.size 44 #[ah aA r.ver,aj A.ta r.txt.length A.tc,aj A.ga r.got.length A.gc,aj A.sa r.dQ.length A.sc,aF r.wed,aF r.dV,ah aA r.dW,aj A.ma r.dU.length A.mc]):=zn.out.below hb1;have aP4:aG (Bx w1 (w.heap.size+1) 44 #[ah aA 0,aj ak 0 0,aj ak 0 0,aj ak 0 0,aF aC,aF aC,ah aA 0,aj ak 0 0]):=Tv.out.below hb1;have HB1:aG (Below w.heap.size w w1):=eP HB.out hb1;have hs1:=hb1.size;obtain⟨a',c',ea,hA⟩:=zG t (eF.gK HO.out hb1) HZl.out;cases ea;clear hb1 hck)|(at_builtin;refine fJ (by rfl) _ _ _ _ (by rfl) _ _ (by rfl) (by rfl) hA ⟨rfl,rfl,rfl,rfl⟩ ?_;rintro v1 w2 ⟨a1,e1,f1,rfl,q1,q2,q3⟩;have tY:aG (eF.ow w2 (ny (Z++[t])) (aj a1 (Z.length+1) e1) f1):=q1;have Ap:aG (∀ b,f1 b->fz b\/w1.heap.size<=b):=q2;have Aq:aG (eU fz w1 w2):=q3;clear q1 q2 q3 hA))
   have HL:aG ((Z++[t]).length=Z.length+1):=by rw[aG,dB];rfl
   go_roundw
   case rel=>exact⟨j+1,a1,e1,Z++[t],f1,by omega,by go_num,by rw[HL.out],HN.out.symm,by rw[HL.out];exact tY.out,fun b hb=>(Ap.out b hb).elim (hfz b) (fun h=>by omega),by rw[<- hta];exact aP3.out.wrt Aq.out (fun k=>by have:=hfz _ k;omega),aP4.out.wrt Aq.out (fun k=>by have:=hfz _ k;omega),Aq.out.below HB1.out HB1.out.size (fun b hb=>by have:=hfz b hb;omega)⟩
   case measure=>simp[ba4];omega
  ·have k1:¬ ((j:Int)<r.txt.length):=by omega
   have ej:j=r.txt.length:=by omega
   have eZ:Z=r.txt:=by rw[hZ.out,ej,aV2]
   subst eZ;have nD:=HV.out.below hb
   have KS:∀ X,Below wr.heap.size wr X->X.cell? ⟨w.heap.size,2,ak⟩=au (aj A.ga r.got.length A.gc)/\X.cell? ⟨w.heap.size,3,ak⟩=au (aj A.sa r.dQ.length A.sc)/\X.cell? ⟨w.heap.size,7,ak⟩=au (aj A.ma r.dU.length A.mc):=fun X hX=>by
    obtain⟨⟨d0,d1,d2,d3⟩,d4,d5,d6,d7⟩:=Bx.r8 (zn.out.below hX);exact⟨d2,d3,d7⟩
   have hbd:=(Same.drewN wr 1).below;have hC1:=CY A.ga A.gc r.got wr.drew (nD.below hbd).got.vec (by omega)
   have HC2:aG (∀ X,Below wr.heap.size wr X->ba3 aZ8 167 #[aj A.sa r.dQ.length A.sc] X fun e w'=>OZ X w' e r.dQ):=fun X hX=>CY A.sa A.sc r.dQ X (nD.below hX).dQ.vec (by omega)
   have HC3:aG (∀ X,Below wr.heap.size wr X->ba3 aZ8 167 #[aj A.ma r.dU.length A.mc] X fun e w'=>OZ X w' e r.dU):=fun X hX=>CY A.ma A.mc r.dU X (nD.below hX).dU.vec (by omega)
   have HGa:aG (∃ gb go,A.ga=au ⟨gb,go,ak⟩/\gb<w.heap.size):=by
    rcases HV.out.got.vec.2.2 with h|⟨gb,go,e,h⟩
    ·omega
    ·exact⟨gb,go,e,World.block_lt_of_cell? _ _ (h 0 hg)⟩
   have hwr:=HB.out.size;clear nD hx1 hx2 hb hZ hs ej HV;go_wp2_with fail
   refine lG (S:=fun X:aI=>X.cell? ⟨w.heap.size,2,ak⟩=au (aj A.ga r.got.length A.gc)/\X.cell? ⟨w.heap.size,3,ak⟩=au (aj A.sa r.dQ.length A.sc)/\X.cell? ⟨w.heap.size,7,ak⟩=au (aj A.ma r.dU.length A.mc)) 13 fU ((KS _ hbd)) fun hHeld=>?_
   refine fC (i:=0) rfl hHeld ?_;refine fC (i:=1) rfl hHeld ?_;refine fC (i:=2) rfl hHeld ?_;refine fC (i:=4) rfl hHeld ?_;refine fC (i:=5) rfl hHeld ?_;refine fC (i:=7) rfl hHeld ?_;refine fC (i:=8) rfl hHeld ?_;refine fE (i:=10) rfl ?_;refine iy (i:=3) rfl fun K hK=>?_
   go_simp
   go_at_call 167
   refine hC1.mono ?_;rintro e V1 ⟨a1,e1,rfl,f1,o1,p1,b1⟩;have kT:=eP hbd b1;refine hK.out _ _ (KS _ kT) (fun eG=>?_)
   clear hK hHeld;have hHeld:=eG;try simp only[gW]
   refine iy (i:=6) rfl fun K hK=>?_
   go_simp
   go_at_call 167
   refine (HC2.out V1 kT).mono ?_;rintro e V2 ⟨a2,e2,rfl,f2,o2,p2,b2⟩;have Ql:=eP kT b2;refine hK.out _ _ (KS _ Ql) (fun eG=>?_)
   clear hK hHeld;have hHeld:=eG;try simp only[gW]
   refine iy (i:=9) rfl fun K hK=>?_
   go_simp
   go_at_call 167
   refine (HC3.out V2 Ql).mono ?_;rintro e V3 ⟨a3,e3,rfl,f3,o3,p3,b3⟩;have Iu:=eP Ql b3;refine hK.out _ _ (KS _ Iu) (fun eG=>?_)
   clear hK hHeld;have hHeld:=eG;try simp only[gW]
   have hX3:=zn.out.below Iu;have Tz:Bx (V3.setCell ⟨w.heap.size,1,ak⟩ (aj a r.txt.length cc)) w.heap.size 44 #[ah aA r.ver,aj a r.txt.length cc,aj A.ga r.got.length A.gc,aj A.sa r.dQ.length A.sc,aF r.wed,aF r.dV,ah aA r.dW,aj A.ma r.dU.length A.mc]:=by simpa using hX3.lW 1 (aj a r.txt.length cc)
   have Fb:Bx ((V3.setCell ⟨w.heap.size,1,ak⟩ (aj a r.txt.length cc)).setCell ⟨w.heap.size,2,ak⟩ (aj a1 r.got.length e1)) w.heap.size 44 #[ah aA r.ver,aj a r.txt.length cc,aj a1 r.got.length e1,aj A.sa r.dQ.length A.sc,aF r.wed,aF r.dV,ah aA r.dW,aj A.ma r.dU.length A.mc]:=by simpa using Tz.lW 2 (aj a1 r.got.length e1)
   have Jr:Bx (((V3.setCell ⟨w.heap.size,1,ak⟩ (aj a r.txt.length cc)).setCell ⟨w.heap.size,2,ak⟩ (aj a1 r.got.length e1)).setCell ⟨w.heap.size,3,ak⟩ (aj a2 r.dQ.length e2)) w.heap.size 44 #[ah aA r.ver,aj a r.txt.length cc,aj a1 r.got.length e1,aj a2 r.dQ.length e2,aF r.wed,aF r.dV,ah aA r.dW,aj A.ma r.dU.length A.mc]:=by simpa using Fb.lW 3 (aj a2 r.dQ.length e2)
   have Ya:Bx ((((V3.setCell ⟨w.heap.size,1,ak⟩ (aj a r.txt.length cc)).setCell ⟨w.heap.size,2,ak⟩ (aj a1 r.got.length e1)).setCell ⟨w.heap.size,3,ak⟩ (aj a2 r.dQ.length e2)).setCell ⟨w.heap.size,7,ak⟩ (aj a3 r.dU.length e3)) w.heap.size 44 #[ah aA r.ver,aj a r.txt.length cc,aj a1 r.got.length e1,aj a2 r.dQ.length e2,aF r.wed,aF r.dV,ah aA r.dW,aj a3 r.dU.length e3]:=by simpa using Jr.lW 7 (aj a3 r.dU.length e3)
   have hs3:=Iu.size;have aS3:=b2.size;have aS4:=b3.size;have hs2:=Ql.size;have hs1:=kT.size;have hW7:eU (fun x=>x=w.heap.size) V3 ((((V3.setCell ⟨w.heap.size,1,ak⟩ (aj a r.txt.length cc)).setCell ⟨w.heap.size,2,ak⟩ (aj a1 r.got.length e1)).setCell ⟨w.heap.size,3,ak⟩ (aj a2 r.dQ.length e2)).setCell ⟨w.heap.size,7,ak⟩ (aj a3 r.dU.length e3)):=(((eU.set V3 w.heap.size 1 _).trans (eU.set _ w.heap.size 2 _) (fun _ _ h=>h)).trans (eU.set _ w.heap.size 3 _) (fun _ _ h=>h)).trans (eU.set _ w.heap.size 7 _) (fun _ _ h=>h)
   have WB:=Tv.out.below Iu
   have Qm:aG (∀ X:aI,X.cell? ⟨w.heap.size,2,ak⟩=au (aj a1 r.got.length e1)->¬ (X.cell? ⟨w.heap.size,2,ak⟩=au (aj A.ga r.got.length A.gc)/\X.cell? ⟨w.heap.size,3,ak⟩=au (aj A.sa r.dQ.length A.sc)/\X.cell? ⟨w.heap.size,7,ak⟩=au (aj A.ma r.dU.length A.mc))):=fun X h hk=>by
    have e:=aV4 (h.symm.trans hk.1);obtain⟨g1,q1,k1,e',hf1,_⟩:=l9 o1 hg;obtain⟨gb,go,hga,hlt⟩:=HGa.out;rw[hga] at e;rw[e] at e'
    cases e'
    have:=p1 _ hf1;have hd:wr.drew.heap.size=wr.heap.size:=rfl;omega
   have HFin:aG (Bx ((((V3.setCell ⟨w.heap.size,1,ak⟩ (aj a r.txt.length cc)).setCell ⟨w.heap.size,2,ak⟩ (aj a1 r.got.length e1)).setCell ⟨w.heap.size,3,ak⟩ (aj a2 r.dQ.length e2)).setCell ⟨w.heap.size,7,ak⟩ (aj a3 r.dU.length e3)) w.heap.size 44 #[ah aA r.ver,aj a r.txt.length cc,aj a1 r.got.length e1,aj a2 r.dQ.length e2,aF r.wed,aF r.dV,ah aA r.dW,aj a3 r.dU.length e3]/\Bx ((((V3.setCell ⟨w.heap.size,1,ak⟩ (aj a r.txt.length cc)).setCell ⟨w.heap.size,2,ak⟩ (aj a1 r.got.length e1)).setCell ⟨w.heap.size,3,ak⟩ (aj a2 r.dQ.length e2)).setCell ⟨w.heap.size,7,ak⟩ (aj a3 r.dU.length e3)) (w.heap.size+1) 44 #[ah aA 0,aj ak 0 0,aj ak 0 0,aj ak 0 0,aF aC,aF aC,ah aA 0,aj ak 0 0]/\∃ f,gq ((((V3.setCell ⟨w.heap.size,1,ak⟩ (aj a r.txt.length cc)).setCell ⟨w.heap.size,2,ak⟩ (aj a1 r.got.length e1)).setCell ⟨w.heap.size,3,ak⟩ (aj a2 r.dQ.length e2)).setCell ⟨w.heap.size,7,ak⟩ (aj a3 r.dU.length e3)) (jL r) (jw ⟨a,cc,a1,e1,a2,e2,a3,e3⟩ r) f/\(∀ b,f b->w.heap.size+1+1<=b)/\Below w.heap.size w ((((V3.setCell ⟨w.heap.size,1,ak⟩ (aj a r.txt.length cc)).setCell ⟨w.heap.size,2,ak⟩ (aj a1 r.got.length e1)).setCell ⟨w.heap.size,3,ak⟩ (aj a2 r.dQ.length e2)).setCell ⟨w.heap.size,7,ak⟩ (aj a3 r.dU.length e3))):=by
    have hd:wr.drew.heap.size=wr.heap.size:=rfl;have q0:=eF.gK HO.out Iu;have q1:=eF.gK (eF.gK o1 b2) b3;have q2:=eF.gK o2 b3;have l0:=eF.lg HO.out;have l1:=eF.lg o1;have l2:=eF.lg o2
    have hall:∀ b,(fz b\/f1 b\/f2 b\/f3 b)->w.heap.size+1+1<=b:=by
     rintro b (k|k|k|k)
     ·exact hfz b k
     ·have:=p1 b k;omega
     ·have:=p2 b k;omega
     ·have:=p3 b k;omega
    have hL := Zu q0 q1 q2 o3 (fun b k k' => by
     have:=l0 b k;rcases k' with k'|k'|k'
     ·have:=p1 b k';omega
     ·have:=p2 b k';omega
     ·have:=p3 b k';omega) (fun b k k'=>by
     have:=l1 b k;rcases k' with k'|k'
     ·have:=p2 b k';omega
     ·have:=p3 b k';omega) (fun b k k'=>by
     have:=l2 b k;have:=p3 b k'
     omega)
    have hB3:=eP HB.out Iu;exact⟨Ya,WB.wrt hW7 (fun e=>by omega),_,gU hL hW7 (fun b hb e=>by have:=hall b hb;omega),hall,hW7.below hB3 hB3.size (fun b e=>by omega)⟩
   have x1:=hX3.at 1 (v:=aj A.ta r.txt.length A.tc) rfl;have y1:=hX3.f 1;have x2:=Tz.at 2 (v:=aj A.ga r.got.length A.gc) rfl;have y2:=Tz.f 2;have x3:=Fb.at 3 (v:=aj A.sa r.dQ.length A.sc) rfl;have y3:=Fb.f 3;have x7:=Jr.at 7 (v:=aj A.ma r.dU.length A.mc) rfl;have y7:=Jr.f 7;have n5:=Qm.out _ (Fb.at 2 (v:=aj a1 r.got.length e1) rfl);have n6:=Qm.out _ (Jr.at 2 (v:=aj a1 r.got.length e1) rfl);have k4:(V3.setCell ⟨w.heap.size,1,ak⟩ (aj a r.txt.length cc)).cell? ⟨w.heap.size,2,ak⟩=au (aj A.ga r.got.length A.gc)/\(V3.setCell ⟨w.heap.size,1,ak⟩ (aj a r.txt.length cc)).cell? ⟨w.heap.size,3,ak⟩=au (aj A.sa r.dQ.length A.sc)/\(V3.setCell ⟨w.heap.size,1,ak⟩ (aj a r.txt.length cc)).cell? ⟨w.heap.size,7,ak⟩=au (aj A.ma r.dU.length A.mc):=⟨x2,Tz.at 3 (v:=aj A.sa r.dQ.length A.sc) rfl,Tz.at 7 (v:=aj A.ma r.dU.length A.mc) rfl⟩;clear o1 o2 o3 p1 p2 p3 b1 b2 b3 hX3 Tz Fb Jr Ya hW7 WB Qm zn Tv HC2 HC3 kT Ql Iu hbd KS HGa;refine iy (i:=11) rfl fun K hK=>?_
   go_simp;refine hK.out _ _ k4 (fun eG=>?_)
   clear hK hHeld;have hHeld:=eG;try simp only[gW]
   refine fE (i:=12) rfl ?_;refine ar5 rfl (by kernel_rfl) (fun K hK=>?_)
   go_simp;refine hK.out _ _ ?_;try simp only[gW]
   refine fE (i:=14) rfl ?_;refine Tt (i:=15) n5 rfl (by kernel_rfl) (fun K hK=>?_)
   go_simp;refine hK.out _ _ ?_;try simp only[gW]
   refine fE (i:=16) rfl ?_;refine Tt (i:=17) n6 rfl (by kernel_rfl) (fun K hK=>?_)
   go_simp;refine hK.out _ _ ?_;try simp only[gW]
   refine uT (by kernel_rfl) ?_
   clear hHeld x1 x2 x3 x7 y1 y2 y3 y7 n5 n6 k4;obtain⟨Ya,SS,f,hL7,hf7,En⟩:=HFin.out;generalize (((V3.setCell ⟨w.heap.size,1,ak⟩ (aj a r.txt.length cc)).setCell ⟨w.heap.size,2,ak⟩ (aj a1 r.got.length e1)).setCell ⟨w.heap.size,3,ak⟩ (aj a2 r.dQ.length e2)).setCell ⟨w.heap.size,7,ak⟩ (aj a3 r.dU.length e3)=W7 at *;have HN:aG (∀ {z0 z1 z2 z3 z4 z5 z6 z7:aJ},kW w ((((((((W7.setCell ⟨w.heap.size+1,0,ak⟩ z0).setCell ⟨w.heap.size+1,1,ak⟩ z1).setCell ⟨w.heap.size+1,2,ak⟩ z2).setCell ⟨w.heap.size+1,3,ak⟩ z3).setCell ⟨w.heap.size+1,4,ak⟩ z4).setCell ⟨w.heap.size+1,5,ak⟩ z5).setCell ⟨w.heap.size+1,6,ak⟩ z6).setCell ⟨w.heap.size+1,7,ak⟩ z7) (jL r) (jw ⟨a,cc,a1,e1,a2,e2,a3,e3⟩ r)):=fun {z0 z1 z2 z3 z4 z5 z6 z7}=>⟨f,gU hL7 (J8 W7 (w.heap.size+1)) (fun b hb e=>by have:=hf7 b hb;omega),fun b hb=>by have:=hf7 b hb;omega,(J8 W7 (w.heap.size+1)).below En En.size (fun b e=>by omega)⟩
   obtain⟨⟨x0,x1,x2,x3⟩,x4,x5,x6,x7⟩:=Bx.r8 Ya;obtain⟨⟨z0,z1,z2,z3⟩,z4,z5,z6,z7⟩:=Bx.r8 SS;obtain⟨⟨f0,f1',f2',f3'⟩,f4,f5,f6,f7⟩:=SS.f8;clear HFin Ya SS hL7 hf7 En;go_wp2;refine aY1 (v:=iK ⟨a,cc,a1,e1,a2,e2,a3,e3⟩ r) (by simp[results,Tryz.results141,go_sem,iK,fP, *]) rfl ?_
   exact⟨_,rfl,HN.out⟩
end
def FI (A:Ma) (m:Mb):Array aJ:=#[ah aA m.id,aj A.ra m.rows.length A.rc,aj A.sa m.dR.length A.sc,aF m.done]
def JE (A:Ma) (m:Mb):aJ:=.agg (FI A m)
def aL2 (w w':aI) (e:Ending) (m:Mb):Prop:=∃ A:Ma,e=aK (JE A m)/\kW w w' (jA m) (jB A m)
theorem Bx.r4 {B: Nat} (h:Bx w B T #[x0,x1,x2,x3]):w.cell? ⟨B,0,ak⟩=au x0/\w.cell? ⟨B,1,ak⟩=au x1/\w.cell? ⟨B,2,ak⟩=au x2/\w.cell? ⟨B,3,ak⟩=au x3:=⟨h.at 0 rfl,h.at 1 rfl,h.at 2 rfl,h.at 3 rfl⟩
theorem Vo (w:aI) (g:Nat) {a b c d: aJ}:eU (fun x=>x=g) w ((((w.setCell ⟨g,0,ak⟩ a).setCell ⟨g,1,ak⟩ b).setCell ⟨g,2,ak⟩ c).setCell ⟨g,3,ak⟩ d) :=
 (((eU.set w g 0 a).trans (eU.set _ g 1 b) (fun _ _ h=>h)).trans (eU.set _ g 2 c) (fun _ _ h=>h)).trans (eU.set _ g 3 d) (fun _ _ h=>h)
theorem aE6 (h:k<=100):k<=1000000:=aY2 h (by decide)
theorem ar6 (v : Value) (w : World) : (Go.method 326 44 v "loop.example/g00266/impl.anew").run Tryz.prog w = .ok (141, v) w := by kernel_rfl
theorem Vp {X: aI} {R: List Rw} {c: Nat} (h:eF.ow X (iF 8 jr R) (aj a R.length c) f) (hb:Below X.heap.size X X1) (hr:gq X1 (jL r) (jw Ar r) fr) (hfr:∀ b,fr b->X.heap.size<=b) (hl:R.length<=1000000) :
  ∀ Y,Same Y (X1.alloc (aH (fP Ar r) 44))->∃ v' w4,(Builtin.append_ #[45,45] 45 #[aj a R.length c,aj (au ⟨X1.heap.size,0,ak⟩) 1 1]).run aZ8 Y=.ok v' w4 /\
   ∃ a' c' f',v'=aj a' (R.length+1) c'/\eF.ow w4 (iF 8 jr (R++[r])) (aj a' (R++[r]).length c') f'/\(∀ b,f' b->f b\/X.heap.size<=b)/\eU f X w4:=by
 intro Y hY;have lQ:=(dX X1 _).trans (hY.below.mono (dX X1 _).size);have h2:=eF.gK (eF.gK h hb) lQ;have uU:=EP (gy hr lQ);have hpl:=eF.lg h;have I7:=hb.size;obtain⟨a',c',w4,fp',k1,k2,k3,k4⟩:=tK (P:=aZ8) jW (w:=Y) 45 45 44 _ 120 Tryz.underlying45 Tryz.infoRw rfl (by omega) (x:=r) h2 uU (fun b hb1 hb2=>by have:=hpl b hb1;have:=hfr b hb2;omega) (by intro u hu;simp[fP] at hu;rcases hu with h|h|h|h|h|h|h|h<;>rw[h]<;>rfl) X1.heap.size 44 (by rw[hY.heap];exact heap_alloc_new X1 _) (by unfold ba2;omega) (by omega)
 have hYs:X1.heap.size<Y.heap.size:=by rw[hY.size];simp
 have tN:=eP hb lQ;refine⟨_,w4,k1,a',c',fp',rfl,by rw[dB];exact k2,fun b hb1=>?_,(eU.of_below tN).trans k3 (fun b _ h=>h)⟩
 rcases k4 b hb1 with k|k|k
 ·exact .inl k
 ·exact .inr (hfr b k)
 ·exact .inr (by omega)
theorem ar7 (A:Ma) (m:Mb) (w:aI) (hv:ug w A m) (hok:∀ k,k<m.rows.length->0<(dO m.rows k).got.length/\kK (dO m.rows k)<=1000) (hml:m.rows.length<=5) :
  ba3 aZ8 181 #[aj A.ra m.rows.length A.rc] w fun e w'=>∃ a c,e=aK (aj a m.rows.length c)/\sJ w w' (iF 8 jr m.rows) (aj a m.rows.length c):=by
 have hb0:=dX w (aH #[] 44);have HB0:=dP hb0;have jD:aG (eF.ow (w.alloc (aH #[] 44)) (iF 8 jr []) (aj (au ⟨w.heap.size,0,ak⟩) 0 0) (fun _=>False)):=⟨au ⟨w.heap.size,0,ak⟩,0,[],ak,fun _=>False,rfl,iV.nil _ _ (kV _ _),⟨rfl,fun _ h=>h⟩,fun _ _ h=>h,fun b=>by simp⟩
 have HV:aG (ug w A m):=hv;have iE:=dP hok;clear hb0 hv hok;go_enter Tryz.func181,Tryz.ntmps181
 go_wp2_with fail
 generalize w.alloc (aH #[] 44)=W0 at *
 go_loopw [3,9] (fun v k wr=>∃ (j:Nat) (a:Option Addr) (cc:Nat) (Z:List Rw) (fz:Fp),j<=m.rows.length/\k=ah aA (j:Int)/\v=aj a Z.length cc/\aG (Z=m.rows.take j)/\eF.ow wr (iF 8 jr Z) (aj a Z.length cc) fz/\(∀ b,fz b->w.heap.size<=b)/\Below w.heap.size w wr) (fun _ k _=>m.rows.length-(ba4 k).toNat)
 case atStart=>exact⟨0,some ⟨w.heap.size,0,none⟩,0,[],_,aZ1 _,rfl,rfl,rfl,jD.out,fun b h=>h.elim,HB0.out⟩
 case round =>
  obtain⟨j,a,cc,Z,fz,hj,rfl,rfl,hZ,hO,hfz,hb⟩:=hrel;by_cases hlt:j<m.rows.length
  ·have k1:(j:Int)<m.rows.length:=by omega
   have k0:(0:Int)<=j:=by omega
   obtain⟨g,off,Ak,hra,⟨⟨d0,d1,d2,d3⟩,d4,d5,d6,d7⟩,nD⟩:=(HV.out.below hb).row hlt;obtain⟨hg0,hsr⟩:=iE.out j hlt
   have HN:aG (Z++[dO m.rows j]=m.rows.take (j+1)):=by
    rw[aG,hZ.out,aS hlt];simp[dO,ba0,hlt]
   have E5:Z.length<=1000000:=aE6 (by rw[hZ.out,aU5];omega)
   rw[hra];have HRa:=dP hra;generalize dO m.rows j=r at *;have hba:=dX wr (aH #[ah aA r.ver,aj Ak.ta r.txt.length Ak.tc,aj Ak.ga r.got.length Ak.gc,aj Ak.sa r.dQ.length Ak.sc,aF r.wed,aF r.dV,ah aA r.dW,aj Ak.ma r.dU.length Ak.mc] 44);have hxr:=Bx.new wr 44 #[ah aA r.ver,aj Ak.ta r.txt.length Ak.tc,aj Ak.ga r.got.length Ak.gc,aj Ak.sa r.dQ.length Ak.sc,aF r.wed,aF r.dV,ah aA r.dW,aj Ak.ma r.dU.length Ak.mc];have ou:=dP hba;have HB:=dP hb;have HO:=dP (eF.gK hO hba);have hAn:=CZ Ak r (wr.alloc (aH #[ah aA r.ver,aj Ak.ta r.txt.length Ak.tc,aj Ak.ga r.got.length Ak.gc,aj Ak.sa r.dQ.length Ak.sc,aF r.wed,aF r.dV,ah aA r.dW,aj Ak.ma r.dU.length Ak.mc] 44)) (nD.below hba) hg0 hsr;unfold iK at hAn;unfold fP at hAn;obtain⟨⟨x0,x1,x2,x3⟩,x4,x5,x6,x7⟩:=Bx.r8 hxr;clear nD hb hO hxr hba hra;go_upto_region 5 with fail
   clear d0 d1 d2 d3 d4 d5 d6 d7;generalize wr.alloc (aH #[ah aA r.ver,aj Ak.ta r.txt.length Ak.tc,aj Ak.ga r.got.length Ak.gc,aj Ak.sa r.dQ.length Ak.sc,aF r.wed,aF r.dV,ah aA r.dW,aj Ak.ma r.dU.length Ak.mc] 44)=W5 at *;have hmt:=ar6 (aP #[ah aA r.ver,aj Ak.ta r.txt.length Ak.tc,aj Ak.ga r.got.length Ak.gc,aj Ak.sa r.dQ.length Ak.sc,aF r.wed,aF r.dV,ah aA r.dW,aj Ak.ma r.dU.length Ak.mc]);go_wp2_with fail
   refine hAn.mono ?_;rintro e V1 ⟨Ar,rfl,fr,hr1,hr2,hr3⟩;have hA:=Vp HO.out hr3 hr1 hr2 E5;have HR3:=dP hr3;have HR2:=dP hr3.size;have Yc:=dP ou.out.size;clear hAn hmt x0 x1 x2 x3 x4 x5 x6 x7 hr1 hr2 hr3;unfold iK;unfold fP at hA ⊢;go_wp2_with (at_builtin;refine fJ (by rfl) _ _ _ _ (by rfl) _ _ (by rfl) (by rfl) hA ⟨rfl,rfl,rfl,rfl⟩ ?_;rintro v1 w1 ⟨a1,e1,f1,rfl,q1,q2,q3⟩;have tY:aG (eF.ow w1 (iF 8 jr (Z++[r])) (aj a1 (Z++[r]).length e1) f1):=q1;have Ap:aG (∀ b,f1 b->fz b\/W5.heap.size<=b):=q2;have Aq:aG (eU fz W5 w1):=q3;clear q1 q2 q3 hA)
   have HL:aG ((Z++[r]).length=Z.length+1):=by rw[aG,dB];rfl
   have hs1:=HB.out.size;have hs2:=Yc.out;go_roundw
   case rel=>exact⟨j+1,a1,e1,Z++[r],f1,by omega,by go_num,by rw[HL.out],HN.out,tY.out,fun b hb=>(Ap.out b hb).elim (hfz b) (fun h=>by omega),Aq.out.below (eP HB.out ou.out) (by omega) (fun b hb=>hfz b hb)⟩
   case measure=>simp[ba4];omega
  ·have k1:¬ ((j:Int)<m.rows.length):=by omega
   have eZ:Z=m.rows:=by rw[hZ.out,show j=m.rows.length by omega,aV2]
   subst eZ;have HO:aG (sJ w wr (iF 8 jr m.rows) (aj a m.rows.length cc)):=⟨fz,hO,hfz,hb⟩;clear hO hb hZ;go_wp2;go_ret
   exact⟨a,cc,rfl,HO.out⟩
theorem TA (A:Ma) (m:Mb) (w:aI) (hv:ug w A m) (hok:∀ k,k<m.rows.length->0<(dO m.rows k).got.length/\kK (dO m.rows k)<=1000) (hml:m.rows.length<=5) (hsl:m.dR.length<=100) :
  ba3 aZ8 165 #[iL A m] w fun e w'=>UW w w' e m:=by
 have hb1:=dX w (aH #[ah aA m.id,ah aA m.n,aj A.ra m.rows.length A.rc,aj A.sa m.dR.length A.sc,aF m.done] 47);have hb2:=dX (w.alloc (aH #[ah aA m.id,ah aA m.n,aj A.ra m.rows.length A.rc,aj A.sa m.dR.length A.sc,aF m.done] 47)) (aH #[ah aA 0,ah aA 0,aj ak 0 0,aj ak 0 0,aF aC] 47);have hx1:Bx ((w.alloc (aH #[ah aA m.id,ah aA m.n,aj A.ra m.rows.length A.rc,aj A.sa m.dR.length A.sc,aF m.done] 47)).alloc (aH #[ah aA 0,ah aA 0,aj ak 0 0,aj ak 0 0,aF aC] 47)) w.heap.size 47 #[ah aA m.id,ah aA m.n,aj A.ra m.rows.length A.rc,aj A.sa m.dR.length A.sc,aF m.done]:=(Bx.new w _ _).alloc _
 have hx2:Bx ((w.alloc (aH #[ah aA m.id,ah aA m.n,aj A.ra m.rows.length A.rc,aj A.sa m.dR.length A.sc,aF m.done] 47)).alloc (aH #[ah aA 0,ah aA 0,aj ak 0 0,aj ak 0 0,aF aC] 47)) (w.heap.size+1) 47 #[ah aA 0,ah aA 0,aj ak 0 0,aj ak 0 0,aF aC]:=by
  have:=Bx.new (w.alloc (aH #[ah aA m.id,ah aA m.n,aj A.ra m.rows.length A.rc,aj A.sa m.dR.length A.sc,aF m.done] 47)) 47 #[ah aA 0,ah aA 0,aj ak 0 0,aj ak 0 0,aF aC];simp only[aU1] at this;exact this
 have ql:Below w.heap.size w ((w.alloc (aH #[ah aA m.id,ah aA m.n,aj A.ra m.rows.length A.rc,aj A.sa m.dR.length A.sc,aF m.done] 47)).alloc (aH #[ah aA 0,ah aA 0,aj ak 0 0,aj ak 0 0,aF aC] 47)):=eP hb1 hb2;have hsz:w.heap.size+2=((w.alloc (aH #[ah aA m.id,ah aA m.n,aj A.ra m.rows.length A.rc,aj A.sa m.dR.length A.sc,aF m.done] 47)).alloc (aH #[ah aA 0,ah aA 0,aj ak 0 0,aj ak 0 0,aF aC] 47)).heap.size:=by simp only[aU1]
 unfold iL ig;have qO:aG (Bx ((w.alloc (aH #[ah aA m.id,ah aA m.n,aj A.ra m.rows.length A.rc,aj A.sa m.dR.length A.sc,aF m.done] 47)).alloc (aH #[ah aA 0,ah aA 0,aj ak 0 0,aj ak 0 0,aF aC] 47)) w.heap.size 47 #[ah aA m.id,ah aA m.n,aj A.ra m.rows.length A.rc,aj A.sa m.dR.length A.sc,aF m.done]):=hx1;have lM:aG (Bx ((w.alloc (aH #[ah aA m.id,ah aA m.n,aj A.ra m.rows.length A.rc,aj A.sa m.dR.length A.sc,aF m.done] 47)).alloc (aH #[ah aA 0,ah aA 0,aj ak 0 0,aj ak 0 0,aF aC] 47)) (w.heap.size+1) 47 #[ah aA 0,ah aA 0,aj ak 0 0,aj ak 0 0,aF aC]):=hx2;have HB:aG (Below w.heap.size w ((w.alloc (aH #[ah aA m.id,ah aA m.n,aj A.ra m.rows.length A.rc,aj A.sa m.dR.length A.sc,aF m.done] 47)).alloc (aH #[ah aA 0,ah aA 0,aj ak 0 0,aj ak 0 0,aF aC] 47))):=ql;have HV:aG (ug w A m):=hv;have zy:aG (w.heap.size+2=((w.alloc (aH #[ah aA m.id,ah aA m.n,aj A.ra m.rows.length A.rc,aj A.sa m.dR.length A.sc,aF m.done] 47)).alloc (aH #[ah aA 0,ah aA 0,aj ak 0 0,aj ak 0 0,aF aC] 47)).heap.size):=hsz;obtain⟨d0,d1,d2,d3,d4⟩:=Bx.r5 hx1;clear hb1 hb2 hx1 hx2 ql hsz hv;have fU:=iq;clear d0 d1 d2 d3 d4;go_enter Tryz.func165,Tryz.ntmps165
 go_upto_region 1 with fail
 generalize (w.alloc (aH #[ah aA m.id,ah aA m.n,aj A.ra m.rows.length A.rc,aj A.sa m.dR.length A.sc,aF m.done] 47)).alloc (aH #[ah aA 0,ah aA 0,aj ak 0 0,aj ak 0 0,aF aC] 47)=W0 at *;have hbd:Below W0.heap.size W0 W0.drew:=(Same.drewN W0 1).below;have KS:∀ X,Below W0.heap.size W0 X->X.cell? ⟨w.heap.size,3,ak⟩=au (aj A.sa m.dR.length A.sc):=fun X hX=>(Bx.r5 (qO.out.below hX)).2.2.2.1
 have d2:W0.drew.cell? ⟨w.heap.size,2,ak⟩=au (aj A.ra m.rows.length A.rc):=(Bx.r5 (qO.out.below hbd)).2.2.1;have hA1:=ar7 A m W0.drew ((HV.out.below HB.out).below hbd) hok hml;refine lG (S:=fun X:aI=>X.cell? ⟨w.heap.size,3,ak⟩=au (aj A.sa m.dR.length A.sc)) 9 fU ((KS _ hbd)) fun hHeld=>?_
 refine fE (i:=0) rfl ?_;refine fE (i:=3) rfl ?_;refine fC (i:=4) rfl hHeld ?_;refine iy (i:=1) rfl fun K hK=>?_
 go_simp;refine hK.out _ _ (KS _ hbd) (fun eG=>?_)
 clear hK hHeld;have hHeld:=eG;try simp only[gW]
 refine iy (i:=2) rfl fun K hK=>?_
 go_simp
 go_at_call 181
 refine hA1.mono ?_;rintro e W3 ⟨a1,c1,rfl,f1,o1,p1,b1⟩;have hb3:=eP hbd b1;have hA2:=CY A.sa A.sc m.dR W3 (HV.out.MP.dR.below (eP HB.out hb3) (aZ0 _)) (by omega)
 refine hK.out _ _ (KS _ hb3) (fun eG=>?_)
 clear hK hHeld;have hHeld:=eG;try simp only[gW]
 refine fE (i:=6) rfl ?_;refine iy (i:=5) rfl fun K hK=>?_
 go_simp
 go_at_call 167
 refine hA2.mono ?_;rintro e W4 ⟨a2,c2,rfl,f2,o2,p2,b2⟩;have hb4:=eP hb3 b2;have hx4:=qO.out.below hb4;have Xc:=dP hx4;have HY4:=dP (lM.out.below hb4);have HB4:=dP hb4;have Ci:aG (sJ W0 W3 (iF 8 jr m.rows) (aj a1 m.rows.length c1)):=⟨f1,o1,p1,hb3⟩;have xq:aG (sJ W3 W4 (gQ m.dR) (aj a2 m.dR.length c2)):=⟨f2,o2,p2,b2⟩;refine hK.out _ _ (KS _ hb4) (fun eG=>?_)
 clear hK hHeld;have hHeld:=eG;try simp only[gW]
 have e2:=hx4.f 2;clear d2;obtain⟨d0,d1,d2,d3,d4⟩:=Bx.r5 hx4;have hx6:Bx (W4.setCell ⟨w.heap.size,2,ak⟩ (aj a1 m.rows.length c1)) w.heap.size 47 #[ah aA m.id,ah aA m.n,aj a1 m.rows.length c1,aj A.sa m.dR.length A.sc,aF m.done]:=by simpa using hx4.lW 2 (aj a1 m.rows.length c1)
 have e3:=hx6.f 3;have z3:=hx6.at 3 (v:=aj A.sa m.dR.length A.sc) rfl;refine iy (i:=7) rfl fun K hK=>?_
 go_simp;refine hK.out _ _ z3 (fun eG=>?_)
 clear hK hHeld;have hHeld:=eG;try simp only[gW]
 refine fE (i:=8) rfl ?_;refine oH rfl fun K hK=>?_
 go_simp;refine hK.out _ _ ?_;clear hK hHeld hx6 z3 e2 e3 d0 d1 d2 d3 d4 hx4 o1 o2 p1 p2 b1 b2 hb3 hb4 hbd KS hA1 hA2;go_upto_region 2 with fail
 have hx5:Bx ((W4.setCell ⟨w.heap.size,2,ak⟩ (aj a1 m.rows.length c1)).setCell ⟨w.heap.size,3,ak⟩ (aj a2 m.dR.length c2)) w.heap.size 47 #[ah aA m.id,ah aA m.n,aj a1 m.rows.length c1,aj a2 m.dR.length c2,aF m.done]:=by simpa using (Xc.out.lW 2 (aj a1 m.rows.length c1)).lW 3 (aj a2 m.dR.length c2)
 have hy5:Bx ((W4.setCell ⟨w.heap.size,2,ak⟩ (aj a1 m.rows.length c1)).setCell ⟨w.heap.size,3,ak⟩ (aj a2 m.dR.length c2)) (w.heap.size+1) 47 #[ah aA 0,ah aA 0,aj ak 0 0,aj ak 0 0,aF aC]:=(HY4.out.far (by omega) _).far (by omega) _
 have hw5:eU (fun x=>x=w.heap.size) W4 ((W4.setCell ⟨w.heap.size,2,ak⟩ (aj a1 m.rows.length c1)).setCell ⟨w.heap.size,3,ak⟩ (aj a2 m.dR.length c2)):=(eU.set W4 w.heap.size 2 _).trans (eU.set _ w.heap.size 3 _) (fun _ _ h=>h)
 have Qn:aG (∃ f,gq ((W4.setCell ⟨w.heap.size,2,ak⟩ (aj a1 m.rows.length c1)).setCell ⟨w.heap.size,3,ak⟩ (aj a2 m.dR.length c2)) (jA m) (jB ⟨a1,c1,a2,c2⟩ m) f/\∀ b,f b->w.heap.size+2<=b):=by
  obtain⟨f1,o1,p1,b1⟩:=Ci.out;obtain⟨f2,o2,p2,b2⟩:=xq.out;have hs:=zy.out;have hs1:=b1.size;have hl1:=eF.lg o1;refine⟨_,qE (eF.lC (eF.gK o1 b2) hw5 (fun b hb e=>by have:=p1 b hb;omega)) (qE (eF.lC o2 hw5 (fun b hb e=>by have:=p2 b hb;omega)) (⟨rfl,fun _ h=>h⟩:gq _ [] [] (fun _=>False)) (fun _ _ h=>h)) (fun b h1 h2=>by rcases h2 with h2|h2;have:=hl1 b h1;have:=p2 b h2;omega;exact h2),fun b hb=>?_⟩
  rcases hb with h|h|h
  ·have:=p1 b h;omega
  ·have:=p2 b h;omega
  ·exact h.elim
 have qZ:aG (Below w.heap.size w ((W4.setCell ⟨w.heap.size,2,ak⟩ (aj a1 m.rows.length c1)).setCell ⟨w.heap.size,3,ak⟩ (aj a2 m.dR.length c2))):=by
  have hb:=eP HB.out HB4.out;exact hw5.below hb hb.size (fun b e=>by omega)
 clear hw5;obtain⟨d0,d1,d2,d3,d4⟩:=Bx.r5 hx5;obtain⟨z0,z1,z2,z3,z4⟩:=Bx.r5 hy5;obtain⟨y0,y1,y2,y3,y4⟩:=hy5.f5;clear hx5 hy5;generalize (W4.setCell ⟨w.heap.size,2,ak⟩ (aj a1 m.rows.length c1)).setCell ⟨w.heap.size,3,ak⟩ (aj a2 m.dR.length c2)=W5 at *
 have HN:aG (∀ {z0 z1 z2 z3 z4:aJ},kW w (((((W5.setCell ⟨w.heap.size+1,0,ak⟩ z0).setCell ⟨w.heap.size+1,1,ak⟩ z1).setCell ⟨w.heap.size+1,2,ak⟩ z2).setCell ⟨w.heap.size+1,3,ak⟩ z3).setCell ⟨w.heap.size+1,4,ak⟩ z4) (jA m) (jB ⟨a1,c1,a2,c2⟩ m)):=fun {z0 z1 z2 z3 z4}=>by
  obtain⟨f,h1,h2⟩:=Qn.out;exact⟨f,gU h1 (qN W5 (w.heap.size+1)) (fun b hb e=>by have:=h2 b hb;omega),fun b hb=>by have:=h2 b hb;omega,(qN W5 (w.heap.size+1)).below qZ.out qZ.out.size (fun b e=>by omega)⟩
 go_wp2;refine aY1 (v:=iL ⟨a1,c1,a2,c2⟩ m) (by simp[results,Tryz.results165,go_sem,iL,ig, *]) rfl ?_
 exact⟨_,rfl,HN.out⟩
theorem TB (A:Ma) (m:Mb) (i n:Nat) (w:aI) (hv:ug w A m) (ok:iP m i n) :
  ba3 aZ8 137 #[iL A m] w fun e w'=>aL2 w w' e m:=by
 have hb1:=dX w (aH #[ah aA m.id,ah aA m.n,aj A.ra m.rows.length A.rc,aj A.sa m.dR.length A.sc,aF m.done] 47);have hb2:=dX (w.alloc (aH #[ah aA m.id,ah aA m.n,aj A.ra m.rows.length A.rc,aj A.sa m.dR.length A.sc,aF m.done] 47)) (aH #[ah aA 0,aj ak 0 0,aj ak 0 0,aF aC] 183);have hx1:Bx ((w.alloc (aH #[ah aA m.id,ah aA m.n,aj A.ra m.rows.length A.rc,aj A.sa m.dR.length A.sc,aF m.done] 47)).alloc (aH #[ah aA 0,aj ak 0 0,aj ak 0 0,aF aC] 183)) w.heap.size 47 #[ah aA m.id,ah aA m.n,aj A.ra m.rows.length A.rc,aj A.sa m.dR.length A.sc,aF m.done]:=(Bx.new w _ _).alloc _
 have hx2:Bx ((w.alloc (aH #[ah aA m.id,ah aA m.n,aj A.ra m.rows.length A.rc,aj A.sa m.dR.length A.sc,aF m.done] 47)).alloc (aH #[ah aA 0,aj ak 0 0,aj ak 0 0,aF aC] 183)) (w.heap.size+1) 183 #[ah aA 0,aj ak 0 0,aj ak 0 0,aF aC]:=by
  have:=Bx.new (w.alloc (aH #[ah aA m.id,ah aA m.n,aj A.ra m.rows.length A.rc,aj A.sa m.dR.length A.sc,aF m.done] 47)) 183 #[ah aA 0,aj ak 0 0,aj ak 0 0,aF aC];simp only[aU1] at this;exact this
 have ql:Below w.heap.size w ((w.alloc (aH #[ah aA m.id,ah aA m.n,aj A.ra m.rows.length A.rc,aj A.sa m.dR.length A.sc,aF m.done] 47)).alloc (aH #[ah aA 0,aj ak 0 0,aj ak 0 0,aF aC] 183)):=eP hb1 hb2;have hsz:w.heap.size+2=((w.alloc (aH #[ah aA m.id,ah aA m.n,aj A.ra m.rows.length A.rc,aj A.sa m.dR.length A.sc,aF m.done] 47)).alloc (aH #[ah aA 0,aj ak 0 0,aj ak 0 0,aF aC] 183)).heap.size:=by simp only[aU1]
 have jy:=ok.n5
 have hA1 := TA A m ((w.alloc (aH #[ah aA m.id,ah aA m.n,aj A.ra m.rows.length A.rc,aj A.sa m.dR.length A.sc,aF m.done] 47)).alloc (aH #[ah aA 0,aj ak 0 0,aj ak 0 0,aF aC] 183)) (hv.below ql) (fun k hk => by
  have h:=ok.ok k (by rw[<- ok.len];exact hk)
  exact⟨by rw[h.gl];omega,by have:=h.c8.2;omega⟩) (by rw[ok.len];omega) (by have:=ok.sl;omega)
 unfold iL ig at hA1;unfold iL ig;have lM:aG (Bx ((w.alloc (aH #[ah aA m.id,ah aA m.n,aj A.ra m.rows.length A.rc,aj A.sa m.dR.length A.sc,aF m.done] 47)).alloc (aH #[ah aA 0,aj ak 0 0,aj ak 0 0,aF aC] 183)) (w.heap.size+1) 183 #[ah aA 0,aj ak 0 0,aj ak 0 0,aF aC]):=hx2;have HB:aG (Below w.heap.size w ((w.alloc (aH #[ah aA m.id,ah aA m.n,aj A.ra m.rows.length A.rc,aj A.sa m.dR.length A.sc,aF m.done] 47)).alloc (aH #[ah aA 0,aj ak 0 0,aj ak 0 0,aF aC] 183))):=ql;have zy:aG (w.heap.size+2=((w.alloc (aH #[ah aA m.id,ah aA m.n,aj A.ra m.rows.length A.rc,aj A.sa m.dR.length A.sc,aF m.done] 47)).alloc (aH #[ah aA 0,aj ak 0 0,aj ak 0 0,aF aC] 183)).heap.size):=hsz;obtain⟨d0,d1,d2,d3,d4⟩:=Bx.r5 hx1;clear hb1 hb2 hx1 hx2 ql hsz hv;go_enter Tryz.func137,Tryz.ntmps137
 go_upto_region 1 with fail
 generalize (w.alloc (aH #[ah aA m.id,ah aA m.n,aj A.ra m.rows.length A.rc,aj A.sa m.dR.length A.sc,aF m.done] 47)).alloc (aH #[ah aA 0,aj ak 0 0,aj ak 0 0,aF aC] 183)=W0 at *;go_wp2_with fail
 refine hA1.mono ?_;rintro e W3 ⟨A3,rfl,f3,h1,h2,h3⟩;unfold iL ig;have hb7:=dX W3 (aH #[ah aA m.id,ah aA m.n,aj A3.ra m.rows.length A3.rc,aj A3.sa m.dR.length A3.sc,aF m.done] 47);have hx7:=Bx.new W3 47 #[ah aA m.id,ah aA m.n,aj A3.ra m.rows.length A3.rc,aj A3.sa m.dR.length A3.sc,aF m.done];have TD:=(lM.out.below h3).below hb7;have HL7:aG (gq (W3.alloc (aH #[ah aA m.id,ah aA m.n,aj A3.ra m.rows.length A3.rc,aj A3.sa m.dR.length A3.sc,aF m.done] 47)) (jA m) (jB A3 m) f3/\∀ b,f3 b->w.heap.size+2<=b):=⟨gy h1 hb7,fun b hb=>by have:=h2 b hb;have:=zy.out;omega⟩
 have L9:aG (Below w.heap.size w (W3.alloc (aH #[ah aA m.id,ah aA m.n,aj A3.ra m.rows.length A3.rc,aj A3.sa m.dR.length A3.sc,aF m.done] 47))):=by
  have hb:=eP HB.out h3;exact eP hb hb7
 clear d0 d1 d2 d3 d4 hA1 h1 h2 h3 hb7;obtain⟨d0,d1,d2,d3,d4⟩:=Bx.r5 hx7;obtain⟨z0,z1,z2,z3⟩:=Bx.r4 TD;have y0:=TD.f 0;have y1:=TD.f 1;have y2:=TD.f 2;have y3:=TD.f 3;clear hx7 TD;go_upto_region 2 with fail
 generalize W3.alloc (aH #[ah aA m.id,ah aA m.n,aj A3.ra m.rows.length A3.rc,aj A3.sa m.dR.length A3.sc,aF m.done] 47)=W5 at *
 have HN:aG (∀ {z0 z1 z2 z3:aJ},kW w ((((W5.setCell ⟨w.heap.size+1,0,ak⟩ z0).setCell ⟨w.heap.size+1,1,ak⟩ z1).setCell ⟨w.heap.size+1,2,ak⟩ z2).setCell ⟨w.heap.size+1,3,ak⟩ z3) (jA m) (jB A3 m)):=fun {z0 z1 z2 z3}=>by
  obtain⟨h1,h2⟩:=HL7.out;exact⟨f3,gU h1 (Vo W5 (w.heap.size+1)) (fun b hb e=>by have:=h2 b hb;omega),fun b hb=>by have:=h2 b hb;omega,(Vo W5 (w.heap.size+1)).below L9.out L9.out.size (fun b e=>by omega)⟩
 go_wp2;refine aY1 (v:=JE A3 m) (by simp[results,Tryz.results137,go_sem,JE,FI, *]) rfl ?_
 exact⟨_,rfl,HN.out⟩
end Go.Proofs.YtafimeakbdmkjaaGreat