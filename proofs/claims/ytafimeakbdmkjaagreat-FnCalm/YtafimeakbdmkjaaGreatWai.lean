/-
  Texts in one.
-/
import Derived.Test.YtafimeakbdmkjaaGreatWaa
import Derived.Test.YtafimeakbdmkjaaGreatWah
import Derived.Test.YtafimeakbdmkjaaGreatWad
import Derived.Test.YtafimeakbdmkjaaGreatWab
import Derived.Test.YtafimeakbdmkjaaGreatWag
namespace Go.Proofs.YtafimeakbdmkjaaGreat
open Bool renaming false->aC,true->aB
open Go renaming Calls->ba3,Value->aJ,World->aI,bodyPost_ret->aY1,wpQuiet_nil->aZ2
open Go.Builtin renaming append_->aV5
open Go.Ending renaming returned->aK
open Go.Instr renaming makeFunc->aW8
open Go.IntKind renaming i64->aA
open Go.Obj renaming cells->aH
open Go.Proofs.Tryz renaming prog->aZ8
open Go.RowKit renaming Hid->aG,intOf->ba4
open Go.RowKit.Below renaming refl->aZ5
open Go.Value renaming agg->aP,bool->aF,int->ah,pointer->aO,slice->aj,string->aN
open Go.World renaming cell?_of_block->bT,size_alloc->aU1
open List renaming drop_succ_cons->cZ,drop_zero->aX0,getD->ba0,length_append->dB,length_set->aV3,length_take->aU5,set_set->aY4,take_length->aV2,take_succ_cons->dA,take_succ_eq_append_getElem->aS,take_zero->aX2
open Nat renaming le_trans->aY2,zero_le->aZ1
open Option renaming none->ak,some->au
open Option.some renaming inj->aV4
set_option linter.unusedVariables false
set_option linter.unusedSimpArgs false
open Go.RowKit Go.Sort
set_option maxRecDepth 100000
set_option maxHeartbeats 12800000
variable {X X1 w:aI} {a:Option Addr} {B c i j n:Nat} {f fr:Fp} {m:Mb} {A:Ma}
theorem ar8 (v : Value) (w : World) : (Go.method 326 47 v "loop.example/g00266/impl.anew").run Tryz.prog w = .ok (165, v) w := by kernel_rfl
theorem ar9 (v : Value) (w : World) : (Go.method 326 68 v "loop.example/g00266/impl.anew").run Tryz.prog w = .ok (216, v) w := by kernel_rfl
def aL3 (w w':aI) (e:Ending) (x:Ml):Prop:=∃ A:Ra,e=aK (.agg (yM x A))/\kW w w' (jL x.row) (jw A x.row)
theorem Yd (w:aI) (g:Nat) {z0 z1 z2 z3 z4 z5 z6 z7 z8 z9: aJ}:eU (fun x=>x=g) w ((((((((((w.setCell ⟨g,0,ak⟩ z0).setCell ⟨g,1,ak⟩ z1).setCell ⟨g,2,ak⟩ z2).setCell ⟨g,3,ak⟩ z3).setCell ⟨g,4,ak⟩ z4).setCell ⟨g,5,ak⟩ z5).setCell ⟨g,6,ak⟩ z6).setCell ⟨g,7,ak⟩ z7).setCell ⟨g,8,ak⟩ z8).setCell ⟨g,9,ak⟩ z9):=by
 have t:∀ {X:aI} {j:Nat} {v:aJ},eU (fun x=>x=g) w X->eU (fun x=>x=g) w (X.setCell ⟨g,j,ak⟩ v):=fun h=>h.trans (eU.set _ g _ _) (fun _ _ h=>h)
 exact t (t (t (t (t (t (t (t (t (eU.set w g 0 z0)))))))))
theorem as1 (Ak:Ra) (x:Ml) (w:aI) (hv:qo w Ak x.row) (hg:0<x.row.got.length) (hs:kK x.row<=1000) :
  ba3 aZ8 216 #[aP #[ah aA x.fr,ah aA x.to,ah aA x.row.ver,aj Ak.ta x.row.txt.length Ak.tc,aj Ak.ga x.row.got.length Ak.gc,aj Ak.sa x.row.dQ.length Ak.sc,aF x.row.wed,aF x.row.dV,ah aA x.row.dW,aj Ak.ma x.row.dU.length Ak.mc]] w fun e w'=>aL3 w w' e x:=by
 have fU:=iq;have hb1:=dX w (aH #[ah aA x.fr,ah aA x.to,ah aA x.row.ver,aj Ak.ta x.row.txt.length Ak.tc,aj Ak.ga x.row.got.length Ak.gc,aj Ak.sa x.row.dQ.length Ak.sc,aF x.row.wed,aF x.row.dV,ah aA x.row.dW,aj Ak.ma x.row.dU.length Ak.mc] 68);have hb2:=dX (w.alloc (aH #[ah aA x.fr,ah aA x.to,ah aA x.row.ver,aj Ak.ta x.row.txt.length Ak.tc,aj Ak.ga x.row.got.length Ak.gc,aj Ak.sa x.row.dQ.length Ak.sc,aF x.row.wed,aF x.row.dV,ah aA x.row.dW,aj Ak.ma x.row.dU.length Ak.mc] 68)) (aH #[ah aA 0,ah aA 0,ah aA 0,aj ak 0 0,aj ak 0 0,aj ak 0 0,aF aC,aF aC,ah aA 0,aj ak 0 0] 68);have hx1:Bx ((w.alloc (aH #[ah aA x.fr,ah aA x.to,ah aA x.row.ver,aj Ak.ta x.row.txt.length Ak.tc,aj Ak.ga x.row.got.length Ak.gc,aj Ak.sa x.row.dQ.length Ak.sc,aF x.row.wed,aF x.row.dV,ah aA x.row.dW,aj Ak.ma x.row.dU.length Ak.mc] 68)).alloc (aH #[ah aA 0,ah aA 0,ah aA 0,aj ak 0 0,aj ak 0 0,aj ak 0 0,aF aC,aF aC,ah aA 0,aj ak 0 0] 68)) w.heap.size 68 #[ah aA x.fr,ah aA x.to,ah aA x.row.ver,aj Ak.ta x.row.txt.length Ak.tc,aj Ak.ga x.row.got.length Ak.gc,aj Ak.sa x.row.dQ.length Ak.sc,aF x.row.wed,aF x.row.dV,ah aA x.row.dW,aj Ak.ma x.row.dU.length Ak.mc]:=(Bx.new w _ _).alloc _
 have hx2:Bx ((w.alloc (aH #[ah aA x.fr,ah aA x.to,ah aA x.row.ver,aj Ak.ta x.row.txt.length Ak.tc,aj Ak.ga x.row.got.length Ak.gc,aj Ak.sa x.row.dQ.length Ak.sc,aF x.row.wed,aF x.row.dV,ah aA x.row.dW,aj Ak.ma x.row.dU.length Ak.mc] 68)).alloc (aH #[ah aA 0,ah aA 0,ah aA 0,aj ak 0 0,aj ak 0 0,aj ak 0 0,aF aC,aF aC,ah aA 0,aj ak 0 0] 68)) (w.heap.size+1) 68 #[ah aA 0,ah aA 0,ah aA 0,aj ak 0 0,aj ak 0 0,aj ak 0 0,aF aC,aF aC,ah aA 0,aj ak 0 0]:=by
  have:=Bx.new (w.alloc (aH #[ah aA x.fr,ah aA x.to,ah aA x.row.ver,aj Ak.ta x.row.txt.length Ak.tc,aj Ak.ga x.row.got.length Ak.gc,aj Ak.sa x.row.dQ.length Ak.sc,aF x.row.wed,aF x.row.dV,ah aA x.row.dW,aj Ak.ma x.row.dU.length Ak.mc] 68)) 68 #[ah aA 0,ah aA 0,ah aA 0,aj ak 0 0,aj ak 0 0,aj ak 0 0,aF aC,aF aC,ah aA 0,aj ak 0 0];simp only[aU1] at this;exact this
 have ql:=eP hb1 hb2;have hsz:w.heap.size+2=((w.alloc (aH #[ah aA x.fr,ah aA x.to,ah aA x.row.ver,aj Ak.ta x.row.txt.length Ak.tc,aj Ak.ga x.row.got.length Ak.gc,aj Ak.sa x.row.dQ.length Ak.sc,aF x.row.wed,aF x.row.dV,ah aA x.row.dW,aj Ak.ma x.row.dU.length Ak.mc] 68)).alloc (aH #[ah aA 0,ah aA 0,ah aA 0,aj ak 0 0,aj ak 0 0,aj ak 0 0,aF aC,aF aC,ah aA 0,aj ak 0 0] 68)).heap.size:=by simp only[aU1]
 have qO:=dP hx1;have lM:=dP hx2;have HB:=dP ql;have HV:=dP hv;have zy:=dP hsz;clear hb1 hb2 hx1 hx2 ql hsz hv;go_enter Tryz.func216,Tryz.ntmps216
 go_upto_region 1 with fail
 generalize (w.alloc (aH #[ah aA x.fr,ah aA x.to,ah aA x.row.ver,aj Ak.ta x.row.txt.length Ak.tc,aj Ak.ga x.row.got.length Ak.gc,aj Ak.sa x.row.dQ.length Ak.sc,aF x.row.wed,aF x.row.dV,ah aA x.row.dW,aj Ak.ma x.row.dU.length Ak.mc] 68)).alloc (aH #[ah aA 0,ah aA 0,ah aA 0,aj ak 0 0,aj ak 0 0,aj ak 0 0,aF aC,aF aC,ah aA 0,aj ak 0 0] 68)=W0 at *;have hbd:=(Same.drewN W0 1).below
 have KS:∀ Z,Below W0.heap.size W0 Z->Z.cell? ⟨w.heap.size,0,ak⟩=au (ah aA x.fr)/\Z.cell? ⟨w.heap.size,1,ak⟩=au (ah aA x.to)/\Z.cell? ⟨w.heap.size,2,ak⟩=au (ah aA x.row.ver)/\Z.cell? ⟨w.heap.size,3,ak⟩=au (aj Ak.ta x.row.txt.length Ak.tc)/\Z.cell? ⟨w.heap.size,4,ak⟩=au (aj Ak.ga x.row.got.length Ak.gc)/\Z.cell? ⟨w.heap.size,5,ak⟩=au (aj Ak.sa x.row.dQ.length Ak.sc)/\Z.cell? ⟨w.heap.size,6,ak⟩=au (aF x.row.wed)/\Z.cell? ⟨w.heap.size,7,ak⟩=au (aF x.row.dV)/\Z.cell? ⟨w.heap.size,8,ak⟩=au (ah aA x.row.dW)/\Z.cell? ⟨w.heap.size,9,ak⟩=au (aj Ak.ma x.row.dU.length Ak.mc):=fun Z hZ=>by
  obtain⟨⟨a0,a1,a2,a3,a4⟩,a5,a6,a7,a8,a9⟩:=Bx.AZ (qO.out.below hZ);exact⟨a0,a1,a2,a3,a4,a5,a6,a7,a8,a9⟩
 have hAn:=CZ Ak x.row W0.drew ((HV.out.below HB.out).below hbd) hg hs;unfold iK fP at hAn;refine lG (S:=fun Z:aI=>Z.cell? ⟨w.heap.size,0,ak⟩=au (ah aA x.fr)/\Z.cell? ⟨w.heap.size,1,ak⟩=au (ah aA x.to)/\Z.cell? ⟨w.heap.size,2,ak⟩=au (ah aA x.row.ver)/\Z.cell? ⟨w.heap.size,3,ak⟩=au (aj Ak.ta x.row.txt.length Ak.tc)/\Z.cell? ⟨w.heap.size,4,ak⟩=au (aj Ak.ga x.row.got.length Ak.gc)/\Z.cell? ⟨w.heap.size,5,ak⟩=au (aj Ak.sa x.row.dQ.length Ak.sc)/\Z.cell? ⟨w.heap.size,6,ak⟩=au (aF x.row.wed)/\Z.cell? ⟨w.heap.size,7,ak⟩=au (aF x.row.dV)/\Z.cell? ⟨w.heap.size,8,ak⟩=au (ah aA x.row.dW)/\Z.cell? ⟨w.heap.size,9,ak⟩=au (aj Ak.ma x.row.dU.length Ak.mc)) 8 fU ((KS _ hbd)) fun hHeld=>?_
 refine fC (i:=0) rfl hHeld ?_;refine fC (i:=1) rfl hHeld ?_;refine fC (i:=2) rfl hHeld ?_;refine fC (i:=3) rfl hHeld ?_;refine fC (i:=4) rfl hHeld ?_;refine fC (i:=5) rfl hHeld ?_;refine iy (i:=6) rfl fun K hK=>?_
 go_simp
 go_at_call 141
 refine hAn.mono ?_;rintro e V1 ⟨Ar,rfl,fr,hr1,hr2,hr3⟩;have kT:=eP hbd hr3;refine hK.out _ _ (KS _ kT) (fun eG=>?_)
 clear hK hHeld;have hHeld:=eG;try simp only[gW]
 unfold iK fP;refine fE (i:=7) rfl ?_;have hR:=lM.out.below kT;obtain⟨⟨t0,t1,t2,t3,t4⟩,t5,t6,t7,t8,t9⟩:=Bx.AZ hR;obtain⟨⟨f0,f1,f2,f3,f4⟩,f5,f6,f7,f8,f9⟩:(V1.frozen? ⟨w.heap.size+1,0,ak⟩=aC/\V1.frozen? ⟨w.heap.size+1,1,ak⟩=aC/\V1.frozen? ⟨w.heap.size+1,2,ak⟩=aC/\V1.frozen? ⟨w.heap.size+1,3,ak⟩=aC/\V1.frozen? ⟨w.heap.size+1,4,ak⟩=aC)/\V1.frozen? ⟨w.heap.size+1,5,ak⟩=aC/\V1.frozen? ⟨w.heap.size+1,6,ak⟩=aC/\V1.frozen? ⟨w.heap.size+1,7,ak⟩=aC/\V1.frozen? ⟨w.heap.size+1,8,ak⟩=aC/\V1.frozen? ⟨w.heap.size+1,9,ak⟩=aC:=⟨hR.f5,hR.f 5,hR.f 6,hR.f 7,hR.f 8,hR.f 9⟩
 have HN:aG (∀ {z0 z1 z2 z3 z4 z5 z6 z7 z8 z9:aJ},kW w ((((((((((V1.setCell ⟨w.heap.size+1,0,ak⟩ z0).setCell ⟨w.heap.size+1,1,ak⟩ z1).setCell ⟨w.heap.size+1,2,ak⟩ z2).setCell ⟨w.heap.size+1,3,ak⟩ z3).setCell ⟨w.heap.size+1,4,ak⟩ z4).setCell ⟨w.heap.size+1,5,ak⟩ z5).setCell ⟨w.heap.size+1,6,ak⟩ z6).setCell ⟨w.heap.size+1,7,ak⟩ z7).setCell ⟨w.heap.size+1,8,ak⟩ z8).setCell ⟨w.heap.size+1,9,ak⟩ z9) (jL x.row) (jw Ar x.row)):=fun {z0 z1 z2 z3 z4 z5 z6 z7 z8 z9}=>by
  have hB1:=eP HB.out kT;have hd:W0.drew.heap.size=W0.heap.size:=rfl;have hs:=zy.out;exact⟨fr,gU hr1 (Yd V1 (w.heap.size+1)) (fun b hb e=>by have:=hr2 b hb;omega),fun b hb=>by have:=hr2 b hb;omega,(Yd V1 (w.heap.size+1)).below hB1 hB1.size (fun b e=>by omega)⟩
 refine oH rfl fun K hK=>?_
 go_simp;refine hK.out _ _ ?_;clear hK hHeld hr1 hr2 hr3 kT hbd KS hAn hR f0 f1 f2 f3 f4 f5 f6 f7 f8 f9;try go_wp2
 refine aY1 (v:=.agg (yM x Ar)) (by simp[results,Tryz.results216,go_sem,yM, *]) rfl ?_
 exact⟨_,rfl,HN.out⟩
theorem Ye {R: List Mb} (h:eF.ow X (iF 5 kC R) (aj a R.length c) f) (hb:Below X.heap.size X X1) {Ar: Ma} (hr:gq X1 (jA m) (jB Ar m) fr) (hfr:∀ b,fr b->X.heap.size<=b) (hl:R.length<=1000000) :
  ∀ Y,Same Y (X1.alloc (aH (ig Ar m) 47))->∃ v' w4,(aV5 #[24,24] 24 #[aj a R.length c,aj (au ⟨X1.heap.size,0,ak⟩) 1 1]).run aZ8 Y=.ok v' w4 /\
   ∃ a' c' f',v'=aj a' (R.length+1) c'/\eF.ow w4 (iF 5 kC (R++[m])) (aj a' (R++[m]).length c') f'/\(∀ b,f' b->f b\/X.heap.size<=b)/\eU f X w4:=by
 intro Y hY;have lQ:=(dX X1 _).trans (hY.below.mono (dX X1 _).size);have h2:=eF.gK (eF.gK h hb) lQ;have uU:=I4 (gy hr lQ);have hpl:=eF.lg h;have I7:=hb.size;obtain⟨a',c',w4,fp',k1,k2,k3,k4⟩:=tK (P:=aZ8) uF (w:=Y) 24 24 47 _ 72 Tryz.underlying24 Tryz.infoMb rfl (by omega) (x:=m) h2 uU (fun b hb1 hb2=>by have:=hpl b hb1;have:=hfr b hb2;omega) (rH uU (Sl m)) X1.heap.size 47 (by rw[hY.heap];exact heap_alloc_new X1 _) (by unfold maxLen;omega) (by omega)
 have hYs:X1.heap.size<Y.heap.size:=by rw[hY.size];simp
 have tN:=eP hb lQ;refine⟨_,w4,k1,a',c',fp',rfl,by rw[dB];exact k2,fun b hb1=>?_,(eU.of_below tN).trans k3 (fun b _ h=>h)⟩
 rcases k4 b hb1 with k|k|k
 ·exact .inl k
 ·exact .inr (hfr b k)
 ·exact .inr (by omega)
theorem Yf {R: List Ml} (h:eF.ow X (iF 10 jU R) (aj a R.length c) f) (hb:Below X.heap.size X X1) {x: Ml} {Ar: Ra} (hr:gq X1 (jL x.row) (jw Ar x.row) fr) (hfr:∀ b,fr b->X.heap.size<=b) (hl:R.length<=1000000) :
  ∀ Y,Same Y (X1.alloc (aH (yM x Ar) 68))->∃ v' w4,(aV5 #[26,26] 26 #[aj a R.length c,aj (au ⟨X1.heap.size,0,ak⟩) 1 1]).run aZ8 Y=.ok v' w4 /\
   ∃ a' c' f',v'=aj a' (R.length+1) c'/\eF.ow w4 (iF 10 jU (R++[x])) (aj a' (R++[x]).length c') f'/\(∀ b,f' b->f b\/X.heap.size<=b)/\eU f X w4:=by
 intro Y hY;have lQ:=(dX X1 _).trans (hY.below.mono (dX X1 _).size);have h2:=eF.gK (eF.gK h hb) lQ;have uU:=Ku (gy hr lQ);have hpl:=eF.lg h;have I7:=hb.size;obtain⟨a',c',w4,fp',k1,k2,k3,k4⟩:=tK (P:=aZ8) ng (w:=Y) 26 26 68 _ 136 Tryz.underlying26 Tryz.infoMl rfl (by omega) (x:=x) h2 uU (fun b hb1 hb2=>by have:=hpl b hb1;have:=hfr b hb2;omega) (rH uU (xK x)) X1.heap.size 68 (by rw[hY.heap];exact heap_alloc_new X1 _) (by unfold maxLen;omega) (by omega)
 have hYs:X1.heap.size<Y.heap.size:=by rw[hY.size];simp
 have tN:=eP hb lQ;refine⟨_,w4,k1,a',c',fp',rfl,by rw[dB];exact k2,fun b hb1=>?_,(eU.of_below tN).trans k3 (fun b _ h=>h)⟩
 rcases k4 b hb1 with k|k|k
 ·exact .inl k
 ·exact .inr (hfr b k)
 ·exact .inr (by omega)
theorem as2 (A:Ga) (g:Gr) (n:Nat) (w:aI) (hv:wu w A g) (ok:OkG g n) :
  ba3 aZ8 67 #[aj A.ma g.mem.length A.mc] w fun e w'=>∃ a c,e=aK (aj a g.mem.length c)/\sJ w w' (iF 5 kC g.mem) (aj a g.mem.length c):=by
 have hb0:=dX w (aH #[] 47);have HB0:=dP hb0;have jD:aG (eF.ow (w.alloc (aH #[] 47)) (iF 5 kC []) (aj (au ⟨w.heap.size,0,ak⟩) 0 0) (fun _=>False)):=⟨au ⟨w.heap.size,0,ak⟩,0,[],ak,fun _=>False,rfl,iV.nil _ _ (kV _ _),⟨rfl,fun _ h=>h⟩,fun _ _ h=>h,fun b=>by simp⟩
 have HV:=dP hv;have iE:=dP ok;have hl5:g.mem.length<=200:=by rw[ok.ml];have:=ok.n5;omega
 clear hb0 hv ok;go_enter Tryz.func67,Tryz.ntmps67
 go_wp2_with fail
 generalize w.alloc (aH #[] 47)=W0 at *
 go_loopw [3,9] (fun v k wr=>∃ (j:Nat) (a:Option Addr) (cc:Nat) (Z:List Mb) (fz:Fp),j<=g.mem.length/\k=ah aA (j:Int)/\v=aj a Z.length cc/\aG (Z=g.mem.take j)/\eF.ow wr (iF 5 kC Z) (aj a Z.length cc) fz/\(∀ b,fz b->w.heap.size<=b)/\Below w.heap.size w wr) (fun _ k _=>g.mem.length-(ba4 k).toNat)
 case atStart=>exact⟨0,some ⟨w.heap.size,0,none⟩,0,[],_,aZ1 _,rfl,rfl,rfl,jD.out,fun b h=>h.elim,HB0.out⟩
 case round =>
  obtain⟨j,a,cc,Z,fz,hj,rfl,rfl,hZ,hO,hfz,hb⟩:=hrel;by_cases hlt:j<g.mem.length
  ·have k1:(j:Int)<g.mem.length:=by omega
   have k0:(0:Int)<=j:=by omega
   obtain⟨gb,off,Ak,hra,⟨d0,d1,d2,d3,d4⟩,nD⟩:=(HV.out.below hb).member hlt;have FK:=iE.out.mem j (by rw[<- iE.out.ml];exact hlt)
   have hrk:∀ k,k<(dY g j).rows.length->0<(dO (dY g j).rows k).got.length/\kK (dO (dY g j).rows k)<=1000:=fun k hk=>by
    have h:=FK.ok k (by rw[<- FK.len];exact hk)
    have:=h.n5;exact⟨by rw[h.gl];omega,by have:=h.c8.2;omega⟩
   have hr5:(dY g j).rows.length<=5:=by rw[FK.len];have:=FK.n5;omega
   have hs6:(dY g j).dR.length<=100:=by have:=FK.sl;omega
   clear FK
   have HN:aG (Z++[dY g j]=g.mem.take (j+1)):=by
    rw[aG,hZ.out,aS hlt];simp[dY,ba0,hlt]
   have E5:Z.length<=1000000:=aY2 (by rw[hZ.out,aU5];omega:Z.length<=200) (by decide)
   rw[hra];have HRa:=dP hra;generalize dY g j=m at *;have hba:=dX wr (aH #[ah aA m.id,ah aA m.n,aj Ak.ra m.rows.length Ak.rc,aj Ak.sa m.dR.length Ak.sc,aF m.done] 47);have hxr:=Bx.new wr 47 #[ah aA m.id,ah aA m.n,aj Ak.ra m.rows.length Ak.rc,aj Ak.sa m.dR.length Ak.sc,aF m.done];have ou:=dP hba;have HB:=dP hb;have HO:=dP (eF.gK hO hba);have hAn:=TA Ak m (wr.alloc (aH #[ah aA m.id,ah aA m.n,aj Ak.ra m.rows.length Ak.rc,aj Ak.sa m.dR.length Ak.sc,aF m.done] 47)) (nD.below hba) hrk hr5 hs6;unfold iL ig at hAn;obtain⟨x0,x1,x2,x3,x4⟩:=Bx.r5 hxr;clear nD hb hO hxr hba hra;go_upto_region 5 with fail
   clear d0 d1 d2 d3 d4;generalize wr.alloc (aH #[ah aA m.id,ah aA m.n,aj Ak.ra m.rows.length Ak.rc,aj Ak.sa m.dR.length Ak.sc,aF m.done] 47)=W5 at *;have hmt:=ar8 (aP #[ah aA m.id,ah aA m.n,aj Ak.ra m.rows.length Ak.rc,aj Ak.sa m.dR.length Ak.sc,aF m.done]);go_wp2_with fail
   refine hAn.mono ?_;rintro e V1 ⟨Ar,rfl,fr,hr1,hr2,hr3⟩;have hA:=Ye HO.out hr3 hr1 hr2 E5;have HR3:=dP hr3;have HR2:=dP hr3.size;have Yc:=dP ou.out.size;clear hAn hmt x0 x1 x2 x3 x4 hr1 hr2 hr3;unfold iL;unfold ig at hA ⊢;go_wp2_with (at_builtin;refine fJ (by rfl) _ _ _ _ (by rfl) _ _ (by rfl) (by rfl) hA ⟨rfl,rfl,rfl,rfl⟩ ?_;rintro v1 w1 ⟨a1,e1,f1,rfl,q1,q2,q3⟩;have tY:aG (eF.ow w1 (iF 5 kC (Z++[m])) (aj a1 (Z++[m]).length e1) f1):=q1;have Ap:aG (∀ b,f1 b->fz b\/W5.heap.size<=b):=q2;have Aq:aG (eU fz W5 w1):=q3;clear q1 q2 q3 hA)
   have HL:aG ((Z++[m]).length=Z.length+1):=by rw[aG,dB];rfl
   have hs1:=HB.out.size;have hs2:=Yc.out;go_roundw
   case rel=>exact⟨j+1,a1,e1,Z++[m],f1,by omega,by go_num,by rw[HL.out],HN.out,tY.out,fun b hb=>(Ap.out b hb).elim (hfz b) (fun h=>by omega),Aq.out.below (eP HB.out ou.out) (by omega) (fun b hb=>hfz b hb)⟩
   case measure=>simp[ba4];omega
  ·have k1:¬ ((j:Int)<g.mem.length):=by omega
   have eZ:Z=g.mem:=by rw[hZ.out,show j=g.mem.length by omega,aV2]
   subst eZ;have HO:aG (sJ w wr (iF 5 kC g.mem) (aj a g.mem.length cc)):=⟨fz,hO,hfz,hb⟩;clear hO hb hZ;go_wp2;go_ret
   exact⟨a,cc,rfl,HO.out⟩
theorem as3 (A:Ga) (g:Gr) (n:Nat) (w:aI) (hv:wu w A g) (ok:OkG g n) :
  ba3 aZ8 69 #[aj A.la g.dS.length A.lc] w fun e w'=>∃ a c,e=aK (aj a g.dS.length c)/\sJ w w' (iF 10 jU g.dS) (aj a g.dS.length c):=by
 have hb0:=dX w (aH #[] 68);have HB0:=dP hb0;have jD:aG (eF.ow (w.alloc (aH #[] 68)) (iF 10 jU []) (aj (au ⟨w.heap.size,0,ak⟩) 0 0) (fun _=>False)):=⟨au ⟨w.heap.size,0,ak⟩,0,[],ak,fun _=>False,rfl,iV.nil _ _ (kV _ _),⟨rfl,fun _ h=>h⟩,fun _ _ h=>h,fun b=>by simp⟩
 have HV:=dP hv;have iE:=dP ok;have hl5:g.dS.length<=200:=by exact ok.pF
 clear hb0 hv ok;go_enter Tryz.func69,Tryz.ntmps69
 go_wp2_with fail
 generalize w.alloc (aH #[] 68)=W0 at *
 go_loopw [3,9] (fun v k wr=>∃ (j:Nat) (a:Option Addr) (cc:Nat) (Z:List Ml) (fz:Fp),j<=g.dS.length/\k=ah aA (j:Int)/\v=aj a Z.length cc/\aG (Z=g.dS.take j)/\eF.ow wr (iF 10 jU Z) (aj a Z.length cc) fz/\(∀ b,fz b->w.heap.size<=b)/\Below w.heap.size w wr) (fun _ k _=>g.dS.length-(ba4 k).toNat)
 case atStart=>exact⟨0,some ⟨w.heap.size,0,none⟩,0,[],_,aZ1 _,rfl,rfl,rfl,jD.out,fun b h=>h.elim,HB0.out⟩
 case round =>
  obtain⟨j,a,cc,Z,fz,hj,rfl,rfl,hZ,hO,hfz,hb⟩:=hrel;by_cases hlt:j<g.dS.length
  ·have k1:(j:Int)<g.dS.length:=by omega
   have k0:(0:Int)<=j:=by omega
   obtain⟨gb,off,Ak,hra,d0,d1,⟨⟨d2,d3,d4,d5⟩,d6,d7,d8,d9⟩,nD⟩:=(HV.out.below hb).letter hlt
   have FK:iR (eX g j).row n:=by
    obtain⟨_,_,_,_,_,_,_,h⟩:=iE.out.jZ _ (FH hlt);exact h
   have hrk:0<(eX g j).row.got.length/\kK (eX g j).row<=1000:=by
    have:=FK.n5;exact⟨by rw[FK.gl];omega,by have:=FK.c8.2;omega⟩
   clear FK
   have HN:aG (Z++[eX g j]=g.dS.take (j+1)):=by
    rw[aG,hZ.out,aS hlt];simp[eX,ba0,hlt]
   have E5:Z.length<=1000000:=aY2 (by rw[hZ.out,aU5];omega:Z.length<=200) (by decide)
   rw[hra];have HRa:=dP hra;generalize eX g j=x at *;have hba:=dX wr (aH #[ah aA x.fr,ah aA x.to,ah aA x.row.ver,aj Ak.ta x.row.txt.length Ak.tc,aj Ak.ga x.row.got.length Ak.gc,aj Ak.sa x.row.dQ.length Ak.sc,aF x.row.wed,aF x.row.dV,ah aA x.row.dW,aj Ak.ma x.row.dU.length Ak.mc] 68);have hxr:=Bx.new wr 68 #[ah aA x.fr,ah aA x.to,ah aA x.row.ver,aj Ak.ta x.row.txt.length Ak.tc,aj Ak.ga x.row.got.length Ak.gc,aj Ak.sa x.row.dQ.length Ak.sc,aF x.row.wed,aF x.row.dV,ah aA x.row.dW,aj Ak.ma x.row.dU.length Ak.mc];have ou:=dP hba;have HB:=dP hb;have HO:=dP (eF.gK hO hba);have hAn:=as1 Ak x (wr.alloc (aH #[ah aA x.fr,ah aA x.to,ah aA x.row.ver,aj Ak.ta x.row.txt.length Ak.tc,aj Ak.ga x.row.got.length Ak.gc,aj Ak.sa x.row.dQ.length Ak.sc,aF x.row.wed,aF x.row.dV,ah aA x.row.dW,aj Ak.ma x.row.dU.length Ak.mc] 68)) (nD.below hba) hrk.1 hrk.2;try unfold yM at hAn
   obtain⟨⟨x0,x1,x2,x3,x4⟩,x5,x6,x7,x8,x9⟩:=Bx.AZ hxr;clear nD hb hO hxr hba hra;go_upto_region 5 with fail
   clear d0 d1 d2 d3 d4 d5 d6 d7 d8 d9;generalize wr.alloc (aH #[ah aA x.fr,ah aA x.to,ah aA x.row.ver,aj Ak.ta x.row.txt.length Ak.tc,aj Ak.ga x.row.got.length Ak.gc,aj Ak.sa x.row.dQ.length Ak.sc,aF x.row.wed,aF x.row.dV,ah aA x.row.dW,aj Ak.ma x.row.dU.length Ak.mc] 68)=W5 at *;have hmt:=ar9 (aP #[ah aA x.fr,ah aA x.to,ah aA x.row.ver,aj Ak.ta x.row.txt.length Ak.tc,aj Ak.ga x.row.got.length Ak.gc,aj Ak.sa x.row.dQ.length Ak.sc,aF x.row.wed,aF x.row.dV,ah aA x.row.dW,aj Ak.ma x.row.dU.length Ak.mc]);go_wp2_with fail
   refine hAn.mono ?_;rintro e V1 ⟨Ar,rfl,fr,hr1,hr2,hr3⟩;have hA:=Yf HO.out hr3 hr1 hr2 E5;have HR3:=dP hr3;have HR2:=dP hr3.size;have Yc:=dP ou.out.size;clear hAn hmt x0 x1 x2 x3 x4 x5 x6 x7 x8 x9 hr1 hr2 hr3;unfold yM at hA ⊢;go_wp2_with (at_builtin;refine fJ (by rfl) _ _ _ _ (by rfl) _ _ (by rfl) (by rfl) hA ⟨rfl,rfl,rfl,rfl⟩ ?_;rintro v1 w1 ⟨a1,e1,f1,rfl,q1,q2,q3⟩;have tY:aG (eF.ow w1 (iF 10 jU (Z++[x])) (aj a1 (Z++[x]).length e1) f1):=q1;have Ap:aG (∀ b,f1 b->fz b\/W5.heap.size<=b):=q2;have Aq:aG (eU fz W5 w1):=q3;clear q1 q2 q3 hA)
   have HL:aG ((Z++[x]).length=Z.length+1):=by rw[aG,dB];rfl
   have hs1:=HB.out.size;have hs2:=Yc.out;go_roundw
   case rel=>exact⟨j+1,a1,e1,Z++[x],f1,by omega,by go_num,by rw[HL.out],HN.out,tY.out,fun b hb=>(Ap.out b hb).elim (hfz b) (fun h=>by omega),Aq.out.below (eP HB.out ou.out) (by omega) (fun b hb=>hfz b hb)⟩
   case measure=>simp[ba4];omega
  ·have k1:¬ ((j:Int)<g.dS.length):=by omega
   have eZ:Z=g.dS:=by rw[hZ.out,show j=g.dS.length by omega,aV2]
   subst eZ;have HO:aG (sJ w wr (iF 10 jU g.dS) (aj a g.dS.length cc)):=⟨fz,hO,hfz,hb⟩;clear hO hb hZ;go_wp2;go_ret
   exact⟨a,cc,rfl,HO.out⟩
theorem Vq {L: List Bool} (hv:Jd w a L) (hl:L.length<=1000000):∀ Y,Same Y (w.alloc (aH #[] 4))->∃ v' w4,(aV5 #[25,25] 25 #[aj (au ⟨w.heap.size,0,ak⟩) 0 0,aj a L.length c]).run aZ8 Y=.ok v' w4/\∃ a' c' f',v'=aj a' L.length c'/\eF.ow w4 (vX L) v' f'/\(∀ b,f' b->w.heap.size<=b)/\Below w.heap.size w w4:=by
 intro Y hY;have nO:=(dX w _).trans (hY.below.mono (dX w _).size);obtain⟨a',c',w4,fp,k1,k2,k3,k4⟩:=EX (w:=Y) (kV w.heap.size 0) (c:=c) (hv.below nO) hl;exact⟨_,w4,k1,a',c',fp,rfl,k2,fun b hb=>by have:=k4 b hb;have:=nO.size;omega,k3.below nO nO.size (fun b h=>h.elim)⟩
theorem as4 (a:Option Addr) (c:Nat) (L:List Bool) (w:aI) (hv:Jd w a L) (hl:L.length<=1000000) :
  ba3 aZ8 68 #[aj a L.length c] w fun e w'=>∃ a' c',e=aK (aj a' L.length c')/\sJ w w' (vX L) (aj a' L.length c'):=by
 have q25:∀ (w:aI) (a:Option Addr) (n c n' c':Nat),(binOp .eql 25 (aj a n c) (aj ak n' c')).run aZ8 w=.ok (aF a.isNone) w:=fun w a n c n' c'=>Lib.run_eql_slice_nil w _ _ a n c n' c' Tryz.underlying25
 cases a with
 | none =>
  have hx:L=[]:=by
   rcases hv with h|⟨b,o,e,_⟩
   ·exact List.eq_nil_of_length_eq_zero h
   ·cases e
  subst hx;clear hv;have HQ:aG (sJ w w (vX []) (aj ak 0 0)):=⟨fun _=>False,Je.2 ⟨ak,0,ak,rfl,iV.nil _ _ (fun _ h=>by cases h),fun b=>by simp⟩,fun _ h=>h.elim,aZ5 _ _⟩
  go_enter Tryz.func68,Tryz.ntmps68
  go_wp2;go_ret
  exact⟨ak,0,rfl,HQ.out⟩
 | some ad =>
  have hA:=Vq (c:=c) hv hl;clear hv;go_enter Tryz.func68,Tryz.ntmps68
  go_wp2_with (at_builtin;refine fJ (by rfl) _ _ _ _ (by rfl) _ _ (by rfl) (by rfl) hA ⟨rfl,rfl,rfl,rfl⟩ ?_;rintro v1 w1 ⟨a1,e1,f1,rfl,q1,q2,q3⟩;have HQ:aG (sJ w w1 (vX L) (aj a1 L.length e1)):=⟨f1,q1,q2,q3⟩;clear q1 q2 q3 hA)
  go_ret
  exact⟨a1,e1,rfl,HQ.out⟩
theorem KH (A:Ga) (g:Gr) (n:Nat) (w:aI) (hv:wu w A g) (ok:OkG g n) :
  ba3 aZ8 35 #[jc A g] w fun e w'=>zH w w' e g:=by
 have fU:=iq;have hb1:=dX w (aH #[aj A.ma g.mem.length A.mc,aj A.ua g.up.length A.uc,aj A.la g.dS.length A.lc] 28);have hb2:=dX (w.alloc (aH #[aj A.ma g.mem.length A.mc,aj A.ua g.up.length A.uc,aj A.la g.dS.length A.lc] 28)) (aH #[aj ak 0 0,aj ak 0 0,aj ak 0 0] 28);have hx1:Bx ((w.alloc (aH #[aj A.ma g.mem.length A.mc,aj A.ua g.up.length A.uc,aj A.la g.dS.length A.lc] 28)).alloc (aH #[aj ak 0 0,aj ak 0 0,aj ak 0 0] 28)) w.heap.size 28 #[aj A.ma g.mem.length A.mc,aj A.ua g.up.length A.uc,aj A.la g.dS.length A.lc]:=(Bx.new w _ _).alloc _
 have hx2:Bx ((w.alloc (aH #[aj A.ma g.mem.length A.mc,aj A.ua g.up.length A.uc,aj A.la g.dS.length A.lc] 28)).alloc (aH #[aj ak 0 0,aj ak 0 0,aj ak 0 0] 28)) (w.heap.size+1) 28 #[aj ak 0 0,aj ak 0 0,aj ak 0 0]:=by
  have:=Bx.new (w.alloc (aH #[aj A.ma g.mem.length A.mc,aj A.ua g.up.length A.uc,aj A.la g.dS.length A.lc] 28)) 28 #[aj ak 0 0,aj ak 0 0,aj ak 0 0];simp only[aU1] at this;exact this
 have ql:=eP hb1 hb2;have hsz:w.heap.size+2=((w.alloc (aH #[aj A.ma g.mem.length A.mc,aj A.ua g.up.length A.uc,aj A.la g.dS.length A.lc] 28)).alloc (aH #[aj ak 0 0,aj ak 0 0,aj ak 0 0] 28)).heap.size:=by simp only[aU1]
 have qO:=dP hx1;have lM:=dP hx2;have HB:=dP ql;have HV:=dP hv;have zy:=dP hsz;have Gn:g.up.length<=1000000:=by rw[ok.ul];have:=ok.n5;omega
 unfold jc jH;clear hb1 hb2 hx1 hx2 ql hsz hv;go_enter Tryz.func35,Tryz.ntmps35
 go_upto_region 1 with fail
 generalize (w.alloc (aH #[aj A.ma g.mem.length A.mc,aj A.ua g.up.length A.uc,aj A.la g.dS.length A.lc] 28)).alloc (aH #[aj ak 0 0,aj ak 0 0,aj ak 0 0] 28)=W0 at *;have hbd:=(Same.drewN W0 1).below;have KS:∀ Z,Below W0.heap.size W0 Z->Z.cell? ⟨w.heap.size,0,ak⟩=au (aj A.ma g.mem.length A.mc)/\Z.cell? ⟨w.heap.size,1,ak⟩=au (aj A.ua g.up.length A.uc)/\Z.cell? ⟨w.heap.size,2,ak⟩=au (aj A.la g.dS.length A.lc):=fun Z hZ=>Bx.g3 (qO.out.below hZ)
 have hA1:=as2 A g n W0.drew ((HV.out.below HB.out).below hbd) ok;have HA2:aG (∀ X,Below W0.heap.size W0 X->ba3 aZ8 68 #[aj A.ua g.up.length A.uc] X fun e w'=>∃ a' c',e=aK (aj a' g.up.length c')/\sJ X w' (vX g.up) (aj a' g.up.length c')):=fun X hX=>as4 A.ua A.uc g.up X (((HV.out.below HB.out).below hX).grs.up) Gn
 have HA3:aG (∀ X,Below W0.heap.size W0 X->ba3 aZ8 69 #[aj A.la g.dS.length A.lc] X fun e w'=>∃ a c,e=aK (aj a g.dS.length c)/\sJ X w' (iF 10 jU g.dS) (aj a g.dS.length c)):=fun X hX=>as3 A g n X ((HV.out.below HB.out).below hX) ok
 refine lG (S:=fun Z:aI=>Z.cell? ⟨w.heap.size,0,ak⟩=au (aj A.ma g.mem.length A.mc)/\Z.cell? ⟨w.heap.size,1,ak⟩=au (aj A.ua g.up.length A.uc)/\Z.cell? ⟨w.heap.size,2,ak⟩=au (aj A.la g.dS.length A.lc)) 10 fU ((KS _ hbd)) fun hHeld=>?_
 refine fC (i:=0) rfl hHeld ?_;refine fC (i:=1) rfl hHeld ?_;refine fC (i:=3) rfl hHeld ?_;refine fC (i:=4) rfl hHeld ?_;refine fC (i:=6) rfl hHeld ?_;refine fC (i:=7) rfl hHeld ?_;refine iy (i:=2) rfl fun K hK=>?_
 go_simp
 go_at_call 67
 refine hA1.mono ?_;rintro e V1 ⟨a1,c1,rfl,f1,o1,p1,b1⟩;have hb1:=eP hbd b1;refine hK.out _ _ (KS _ hb1) (fun eG=>?_)
 clear hK hHeld;have hHeld:=eG;try simp only[gW]
 refine iy (i:=5) rfl fun K hK=>?_
 go_simp
 go_at_call 68
 refine (HA2.out V1 hb1).mono ?_;rintro e V2 ⟨a2,c2,rfl,f2,o2,p2,b2⟩;have hb2:=eP hb1 b2;refine hK.out _ _ (KS _ hb2) (fun eG=>?_)
 clear hK hHeld;have hHeld:=eG;try simp only[gW]
 refine iy (i:=8) rfl fun K hK=>?_
 go_simp
 go_at_call 69
 refine (HA3.out V2 hb2).mono ?_;rintro e V3 ⟨a3,c3,rfl,f3,o3,p3,b3⟩;have hb3:=eP hb2 b3;refine hK.out _ _ (KS _ hb3) (fun eG=>?_)
 clear hK hHeld;have hHeld:=eG;try simp only[gW]
 refine fE (i:=9) rfl ?_;have hR:=lM.out.below hb3;obtain⟨t0,t1,t2⟩:=Bx.g3 hR;obtain⟨q0,q1,q2⟩:=hR.f3
 have HN:aG (∀ {z0 z1 z2:aJ},kW w (((V3.setCell ⟨w.heap.size+1,0,ak⟩ z0).setCell ⟨w.heap.size+1,1,ak⟩ z1).setCell ⟨w.heap.size+1,2,ak⟩ z2) (fK g) (jC ⟨a1,c1,a2,c2,a3,c3⟩ g)):=fun {z0 z1 z2}=>by
  have hB1:=eP HB.out hb3;have hd:W0.drew.heap.size=W0.heap.size:=rfl;have hs:=zy.out;have l1:=eF.lg o1;have l2:=eF.lg o2;have s1:=b1.size;have s2:=b2.size;have hw:=qF V3 (w.heap.size+1) (a:=z0) (b:=z1) (c:=z2);refine⟨_,qE (eF.lC (eF.gK (eF.gK o1 b2) b3) hw (fun b hb e=>by have:=p1 b hb;omega)) (qE (eF.lC (eF.gK o2 b3) hw (fun b hb e=>by have:=p2 b hb;omega)) (qE (eF.lC o3 hw (fun b hb e=>by have:=p3 b hb;omega)) (⟨rfl,fun _ h=>h⟩:gq _ [] [] (fun _=>False)) (fun _ _ h=>h)) (fun b h1 h2=>?_)) (fun b h1 h2=>?_),fun b hb=>?_,hw.below hB1 hB1.size (fun b e=>by omega)⟩
  ·rcases h2 with h2|h2
   ·have:=l2 b h1;have:=p3 b h2;omega
   ·exact h2
  ·rcases h2 with h2|h2|h2
   ·have:=l1 b h1;have:=p2 b h2;omega
   ·have:=l1 b h1;have:=p3 b h2;omega
   ·exact h2
  ·rcases hb with hb|hb|hb|hb
   ·have:=p1 b hb;omega
   ·have:=p2 b hb;omega
   ·have:=p3 b hb;omega
   ·exact hb.elim
 refine oH rfl fun K hK=>?_
 go_simp;refine hK.out _ _ ?_;clear hK hHeld o1 o2 o3 p1 p2 p3 b1 b2 b3 hb1 hb2 hb3 hbd KS hA1 hR q0 q1 q2;try go_wp2
 refine aY1 (v:=jc ⟨a1,c1,a2,c2,a3,c3⟩ g) (by simp[results,Tryz.results35,go_sem,jc,jH, *]) rfl ?_
 exact⟨_,rfl,HN.out⟩
theorem KJ {r: Rw} (h:iR r n):tC r/\kK r<=1000:=by
 have h5:=h.n5;have hv:=h.ver;have hc:=h.c8;refine⟨?_,by omega⟩
 unfold tC jo
 cases hr:r.dV with
 | false=>have:=(h.not hr).1;exact⟨by omega,by omega⟩
 | true=>have:=(h.dV hr).2.1;exact⟨by omega,by omega⟩
theorem ad5 {b off: Nat} {L: List Mb} {f0: Fp} (h:eF.ow X (iF 5 kC L) (aj (au ⟨b,off,ak⟩) L.length c) f0) {a k: Nat} (ha:L[a]?=au m) (hk:k<m.rows.length) (hf:qK (dO m.rows k)) (h6:tC (dO m.rows k)) (hs:kK (dO m.rows k)<=1048576):∃ rb ro rc Ak,f0 b/\f0 rb/\X.cell? ⟨b,off+a*5+2,ak⟩=au (aj (au ⟨rb,ro,ak⟩) m.rows.length rc) /\
  C8 X rb (ro+k*8) (ah aA (dO m.rows k).ver) (aj Ak.ta (dO m.rows k).txt.length Ak.tc) (aj Ak.ga (dO m.rows k).got.length Ak.gc) (aj Ak.sa (dO m.rows k).dQ.length Ak.sc) (aF (dO m.rows k).wed) (aF (dO m.rows k).dV) (ah aA (dO m.rows k).dW) (aj Ak.ma (dO m.rows k).dU.length Ak.mc)/\qo X Ak (dO m.rows k):=by
 obtain⟨g',off',f,e,h1,h2,h3,_⟩:=yE uF (by omega) h ha
 cases e
 obtain⟨rb,ro,rc,f',r1,_,r3,r4,⟨vs,hpc,hov,_⟩,_⟩:=h3.el (F:=jr) jW (by omega) (j:=2) (L:=m.rows) rfl (iZ hk)
 obtain⟨Ak,rfl,hl⟩:=wQ hov;have mQ:(fP Ak (dO m.rows k)).toList.length=8:=rfl;have q:=hpc.cell;exact⟨rb,ro,rc,Ak,h1,h2 _ r3,r1,⟨⟨q 0 (by rw[mQ];omega),q 1 (by rw[mQ];omega),q 2 (by rw[mQ];omega),q 3 (by rw[mQ];omega)⟩,q 4 (by rw[mQ];omega),q 5 (by rw[mQ];omega),q 6 (by rw[mQ];omega),q 7 (by rw[mQ];omega)⟩,zV (uV hl (lo:=0) (fun b _=>aZ1 b)) hf h6 hs⟩
theorem Gi (h:i≠j) (v:aJ):(w.setCell ⟨B,i,ak⟩ v).cell? ⟨B,j,ak⟩=w.cell? ⟨B,j,ak⟩:=by
 apply World.cell?_setCell_other
 simp[h]
theorem TF (B o:Nat) (g:Gr) (n a b:Nat) (fp:Fp) (w:aI) (h:iO w B o (fK g) fp) (ok:OkG g n) (ha:a<n) :
  ba3 aZ8 110 #[aO (au ⟨B,o,ak⟩),ah aA (a:Int),ah aA (b:Int)] w fun e w'=>e=aK (.tuple #[])/\fH w w' B o (fK (iT g (a:Int) (b:Int))) fp/\w'.cell? ⟨B,o+1,ak⟩=w.cell? ⟨B,o+1,ak⟩:=by
 have fU:=iq;have jy:=ok.n5;have hal:a<g.mem.length:=by rw[ok.ml];exact ha
 have M:=ok.mem a ha;have har:a<(dY g a).rows.length:=by rw[M.len];exact ha
 have R:=M.ok a ha;have Dx:=ok.pF;obtain⟨bb,off,c,G0⟩:=Gw.start h (by omega)
 obtain⟨u,f,f0,hu,hfz,how,hfB,hBl,hfl,hmem,hap,hput⟩:=G0.full;have how':=how;obtain⟨la,lc,_,_,_,rfl,_⟩:=how';have r64:=KJ R;obtain⟨rb,ro,rc,Ak,p1,p2,p3,⟨⟨d0,d1,d2,d3⟩,d4,d5,d6,d7⟩,hrs⟩:=ad5 hmem (sG hal) har R.fit r64.1 (by have:=r64.2;omega)
 have hg0:0<(dO (dY g a).rows a).got.length:=by rw[R.gl];omega
 have hsr:=r64.2;have c0:=G0.mem;have oN:=dP G0;have Ah:=dP hput;have qp:=dP how;have Jf:=dP hfl;have LJ:aG (¬ f B/\¬ f bb/\¬ f rb):=⟨hfB,(hap _ p1).1,(hap _ p2).1⟩;have OM:aG (iT g (a:Int) (b:Int)=if g.dS.length<200 then { g with dS:=g.dS++[⟨(a:Int),(b:Int),dO (dY g a).rows a⟩] } else g):=by rw[aG,iT];simp only[Int.toNat_natCast]
 have Jb:=dP hrs;have HBl:=dP hBl;clear hput how hfl hap hmem h hrs p1 p2 hfB G0 r64;by_cases hlt:g.dS.length<200;rotate_left
 ·have g2:¬ ((g.dS.length:Int)<200):=by omega
  have HZ:aG (iT g (a:Int) (b:Int)=g):=by rw[aG,OM.out,if_neg hlt]
  clear d0 d1 d2 d3 d4 d5 d6 d7 p3;go_enter Tryz.func110,Tryz.ntmps110
  go_wp2;go_end0;exact⟨rfl,by rw[HZ.out];exact oN.out.iw,rfl⟩
 have g2:(g.dS.length:Int)<200:=by omega
 have HZ:aG (iT g (a:Int) (b:Int)={ g with dS:=g.dS++[⟨(a:Int),(b:Int),dO (dY g a).rows a⟩] }):=by rw[aG,OM.out,if_pos hlt]
 have a0:(0:Int)<=a:=by omega
 have a1:(a:Int)<g.mem.length:=by omega
 have a2:(a:Int)<((dY g a).rows.length:Int):=by omega
 have hS0:PS B o bb (off+a*5+2) rb (ro+a*8) (aj la g.dS.length lc) (aj (au ⟨bb,off,ak⟩) g.mem.length c) (aj (au ⟨rb,ro,ak⟩) (dY g a).rows.length rc) (ah aA (dO (dY g a).rows a).ver) (aj Ak.ta (dO (dY g a).rows a).txt.length Ak.tc) (aj Ak.ga (dO (dY g a).rows a).got.length Ak.gc) (aj Ak.sa (dO (dY g a).rows a).dQ.length Ak.sc) (aF (dO (dY g a).rows a).wed) (aF (dO (dY g a).rows a).dV) (ah aA (dO (dY g a).rows a).dW) (aj Ak.ma (dO (dY g a).rows a).dU.length Ak.mc) w:=⟨hu,c0,p3,d0,d1,d2,d3,d4,d5,d6,d7⟩;have Gt:=dP hS0;generalize hrr:dO (dY g a).rows a=r at *;have hbd:=(Same.drewN w 1).below;clear d0 d1 d2 d3 d4 d5 d6 d7 p3 c0 OM hrr M R;go_enter Tryz.func110,Tryz.ntmps110
 go_wp2_with fail
 clear hu;refine lG (S:=PS B o bb (off+a*5+2) rb (ro+a*8) (aj la g.dS.length lc) (aj (au ⟨bb,off,ak⟩) g.mem.length c) (aj (au ⟨rb,ro,ak⟩) (dY g a).rows.length rc) (ah aA r.ver) (aj Ak.ta r.txt.length Ak.tc) (aj Ak.ga r.got.length Ak.gc) (aj Ak.sa r.dQ.length Ak.sc) (aF r.wed) (aF r.dV) (ah aA r.dW) (aj Ak.ma r.dU.length Ak.mc)) 24 fU ((hS0.below hbd)) fun hHeld=>?_
 refine fE (i:=0) rfl ?_;refine fE (i:=1) rfl ?_;refine fE (i:=2) rfl ?_;refine fE (i:=3) rfl ?_;refine fC (i:=4) rfl hHeld ?_;refine fE (i:=5) rfl ?_;refine fE (i:=6) rfl ?_;refine fE (i:=7) rfl ?_;refine fE (i:=8) rfl ?_;refine fE (i:=9) rfl ?_;refine fC (i:=10) rfl hHeld ?_;refine fE (i:=11) rfl ?_;refine fE (i:=12) rfl ?_;refine fE (i:=13) rfl ?_;refine fC (i:=14) rfl hHeld ?_;refine fE (i:=15) rfl ?_;refine fE (i:=16) rfl ?_;refine fC (i:=17) rfl hHeld ?_;refine iy (i:=18) rfl fun K hK=>?_
 go_simp
 go_at_call 141
 refine (CZ Ak r _ (Jb.out.below hbd) hg0 hsr).mono ?_;rintro e w1 ⟨Ar,rfl,fr,hr1,hr2,hr3⟩;have hb1:=eP hbd hr3;have hA:=Gw.UY (x:=⟨(a:Int),(b:Int),r⟩) qp.out Jf.out Ah.out hb1 hr1 (fun b hb=>hr2 b hb) (by omega)
 refine hK.out _ _ (Gt.out.below hb1) (fun eG=>?_)
 clear hK hHeld;have hHeld:=eG;try simp only[gW]
 unfold iK;unfold fP;unfold yM at hA;refine fE (i:=19) rfl ?_;refine iy (i:=20) rfl fun K hK=>?_
 go_simp;refine hK.out _ _ (Gt.out.below (hb1.trans ((dX w1 _).mono hb1.size))) (fun eG=>?_)
 clear hK hHeld;have hHeld:=eG;try simp only[gW]
 refine iy (i:=21) rfl fun K hK=>?_
 refine jm (by rfl) _ _ _ _ (by rfl) (aj la g.dS.length lc) _ (by rfl) (by rfl) hA ⟨rfl,rfl,rfl,rfl⟩ ?_
 rintro v9 w4 ⟨a9,c9,rfl,hw4,q1,q2,EU⟩;refine hK.out _ _ (Gt.out.wrt hw4 LJ.out.1 LJ.out.2.1 LJ.out.2.2) (fun eG=>?_)
 clear hK hHeld;have hHeld:=eG;try simp only[gW]
 refine fE (i:=22) rfl ?_;refine fE (i:=23) rfl ?_;refine oH rfl fun K hK=>?_
 go_simp;refine hK.out _ _ ?_;have HG9:=dP EU;have HU9:aG ((w4.setCell ⟨B,o+2,ak⟩ (aj a9 (g.dS.length+1) c9)).cell? ⟨B,o+1,ak⟩=w.cell? ⟨B,o+1,ak⟩):=(Gi (by omega) _).trans (bT (hw4.block B HBl.out LJ.out.1))
 clear EU hA hr1 hr2 hr3 q1 q2 hw4;generalize w4.setCell ⟨B,o+2,ak⟩ (aj a9 (g.dS.length+1) c9)=W9 at *;go_wp2;go_end0;exact⟨rfl,by rw[HZ.out];exact HG9.out.iw,HU9.out⟩
theorem TG (B o:Nat) (g:Gr) (n a:Nat) (fp:Fp) (w:aI) (h:iO w B o (fK g) fp) (ok:OkG g n) (ha:a<n) :
  ba3 aZ8 71 #[aO (au ⟨B,o,ak⟩),ah aA (a:Int)] w fun e w'=>e=aK (.tuple #[])/\fH w w' B o (fK (kS g (a:Int))) fp/\w'.cell? ⟨B,o+1,ak⟩=w.cell? ⟨B,o+1,ak⟩:=by
 have jy:=ok.n5;have HZ:aG (kS g (a:Int)=oO g (a:Int) n):=by rw[aG,kS,oO,ok.ml]
 have H0:=dP (fH.refl h);have iE:=dP (Kv ok ha)
 have HP:aG (∀ (k:Nat) (wr:aI),k<n->fH w wr B o (fK (oO g (a:Int) k)) fp->ba3 aZ8 110 #[aO (au ⟨B,o,ak⟩),ah aA (a:Int),ah aA (k:Int)] wr fun e w'=>e=aK (.tuple #[])/\(fH w w' B o (fK (iT (oO g (a:Int) k) (a:Int) (k:Int))) fp/\w'.cell? ⟨B,o+1,ak⟩=wr.cell? ⟨B,o+1,ak⟩)):=fun k wr hk hb=>by
  obtain⟨gI,hp,_,hgo⟩:=hb.next;exact (TF B o _ n a k gI wr hp (iE.out k (by omega)) ha).mono (fun e w' ⟨e1,e2⟩=>⟨e1,hgo _ _ rfl e2.1,e2.2⟩)
 obtain⟨bb,off,c,G0⟩:=Gw.start h (by rw[ok.ml];omega)
 have c0:=G0.mem;rw[ok.ml] at c0;clear h G0;go_enter Tryz.func71,Tryz.ntmps71
 go_wp2_with fail
 clear c0
 go_loopw [10] (fun i wr=>∃ k:Nat,k<=n/\i=ah aA (k:Int)/\aG (wr.cell? ⟨B,o+1,ak⟩=w.cell? ⟨B,o+1,ak⟩)/\fH w wr B o (fK (oO g (a:Int) k)) fp) (fun i _=>n-(ba4 i).toNat)
 case atStart=>exact⟨0,aZ1 _,rfl,rfl,H0.out⟩
 case round =>
  obtain⟨k,hk,rfl,HUr,hb⟩:=hrel;have HB:=dP hb;clear hb;by_cases hlt:k<n
  ·have k1:(k:Int)<n:=by omega
   have WT:=HP.out k wr hlt HB.out;by_cases hka:(k:Int)=a
   ·have g1:((k:Int) != (a:Int))=aC:=by simpa using hka
    have HN:aG (fH w wr B o (fK (oO g (a:Int) (k+1))) fp):=by rw[aG,yN,if_pos hka];exact HB.out
    clear hka WT;go_wp2;go_roundw
    case rel=>exact⟨k+1,by omega,by go_num,HUr,HN.out⟩
    case measure=>simp[ba4];omega
   ·have g1:((k:Int) != (a:Int))=aB:=by simpa using hka
    have HM:aG (iT (oO g (a:Int) k) (a:Int) (k:Int)=oO g (a:Int) (k+1)):=by rw[aG,yN,if_neg hka]
    clear hka;go_wp2_with (go_at_call 110;refine WT.mono ?_;rintro e w1 ⟨rfl,hb1⟩;have HB1:aG (fH w w1 B o (fK (oO g (a:Int) (k+1))) fp):=(by rw[aG,<- HM.out];exact hb1.1);have Yg:aG (w1.cell? ⟨B,o+1,ak⟩=w.cell? ⟨B,o+1,ak⟩):=hb1.2.trans HUr.out;clear hb1)
    go_roundw
    case rel=>exact⟨k+1,by omega,by go_num,Yg,HB1.out⟩
    case measure=>simp[ba4];omega
  ·have k1:¬ ((k:Int)<n):=by omega
   have e:k=n:=by omega
   have HF:aG (fH w wr B o (fK (kS g (a:Int))) fp):=by rw[aG,HZ.out,<- e];exact HB.out
   clear e;go_wp2;go_end0;exact⟨rfl,HF.out,HUr.out⟩
theorem as5 (B o:Nat) (g:Gr) (n a b:Nat) (fp:Fp) (w:aI) (h:iO w B o (fK g) fp) (ok:OkG g n) (ha:a<n) :
  ba3 aZ8 110 #[aO (au ⟨B,o,ak⟩),ah aA (a:Int),ah aA (b:Int)] w fun e w'=>e=aK (.tuple #[])/\fH w w' B o (fK (iT g (a:Int) (b:Int))) fp:=(TF B o g n a b fp w h ok ha).mono (fun _ _ h=>⟨h.1,h.2.1⟩)
theorem as6 (B o:Nat) (g:Gr) (n a:Nat) (fp:Fp) (w:aI) (h:iO w B o (fK g) fp) (ok:OkG g n) (ha:a<n) :
  ba3 aZ8 71 #[aO (au ⟨B,o,ak⟩),ah aA (a:Int)] w fun e w'=>e=aK (.tuple #[])/\fH w w' B o (fK (kS g (a:Int))) fp:=(TG B o g n a fp w h ok ha).mono (fun _ _ h=>⟨h.1,h.2.1⟩)
theorem JF (h:iP m i n):Fq m:=by
 have h5:=h.n5;have hi:=h.lt;refine⟨by rw[h.hid];exact⟨by omega,by omega⟩,by rw[h.hn];exact⟨by omega,by omega⟩,fun r hr=>?_⟩
 have ok:=h.rowOk r hr;have hv:=ok.ver
 cases e:r.dV with
 | true=>have:=(ok.dV e).2.1;exact⟨⟨by omega,by omega⟩,by omega,by omega⟩
 | false=>rw[tC,(ok.not e).1];exact⟨⟨by omega,by omega⟩,by omega,by omega⟩
theorem Yh {g: Gr} (h:OkG g n):Vj g:=by
 refine⟨fun m hm=>?_,fun x hx=>?_⟩
 ·obtain⟨k,hk,rfl⟩:=List.mem_iff_getElem.1 hm
  have:=h.mem k (by rw[<- h.ml];exact hk)
  have e:dY g k=g.mem[k]:=by simp[dY,ba0,hk]
  rw[e] at this;exact JF this
 ·obtain⟨a,b,e1,e2,h1,h2,_,ok⟩:=h.jZ x hx
  have h5:=h.n5;have hv:=ok.ver;refine⟨by rw[e1];exact⟨by omega,by omega⟩,by rw[e2];exact⟨by omega,by omega⟩, ?_⟩
  cases e:x.row.dV with
  | true=>have:=(ok.dV e).2.1;exact⟨⟨by omega,by omega⟩,by omega,by omega⟩
  | false=>rw[tC,(ok.not e).1];exact⟨⟨by omega,by omega⟩,by omega,by omega⟩
theorem ad6 {dQ: List Int} (hj:j<n) (hi:(i:Int)∉dQ):(decide ((j:Int)=i)||uS i n dQ (j:Int))=!decide ((j:Int)∈dQ):=by
 by_cases e:j=i
 ·subst e
  simp[hi]
 ·have e2:inB (j:Int) 0 ((n:Int)-1)=aB:=iQ.2 (by omega)
  have e3:¬ ((j:Int)=i):=by omega
  rw[uS,e2,decide_eq_true e3,decide_eq_false e3];simp
theorem KN (w0:aI) (B:Nat) (m:Mb) (i n:Nat) (fp:Fp) (g off c:Nat) (w:aI) (M:Iw w0 w B m fp g off c) (ok:iP m i n) :
  ba3 aZ8 168 #[aO (au ⟨B,0,ak⟩)] w fun e w'=>OZ w w' e (lN (fA n (dO m.rows i).dQ)):=by
 have hil:i<m.rows.length:=by rw[ok.len];exact ok.lt
 have HM:=dP M;have hr:=ok.ok i ok.lt;have jy:=hr.n5;have hln:=ok.len;have hb0:=dX w (aH #[] 2);have HB0:=dP hb0;have jD:aG (eF.ow (w.alloc (aH #[] 2)) (gQ []) (aj (au ⟨w.heap.size,0,ak⟩) 0 0) (fun _=>False)):=jv.2 ⟨_,0,ak,rfl,iV.nil _ _ (kV _ _),fun b=>by simp⟩
 have c1:=(M.step hb0).rws;rw[hln] at c1;have hC:=zN B (au ⟨g,off,ak⟩) n c _ c1;clear M hb0 c1;go_enter Tryz.func168,Tryz.ntmps168
 go_wp2_with (go_at_call 166;refine fV hC ?_)
 clear hC;generalize w.alloc (aH #[] 2)=W0 at *
 go_loopw [3,8] (fun v k wr=>∃ (j:Nat) (a:Option Addr) (cc:Nat) (Z:List Int) (fz:Fp),j<=n/\k=ah aA (j:Int)/\v=aj a Z.length cc/\aG (Z=lN (fA j (dO m.rows i).dQ))/\eF.ow wr (gQ Z) (aj a Z.length cc) fz/\(∀ b,fz b->w.heap.size<=b)/\Below w.heap.size w wr) (fun _ k _=>n-(ba4 k).toNat)
 case atStart=>exact⟨0,some ⟨w.heap.size,0,none⟩,0,[],_,aZ1 _,rfl,rfl,rfl,jD.out,fun b h=>h.elim,HB0.out⟩
 case round =>
  obtain⟨j,a,cc,Z,fz,hj,rfl,rfl,hZ,hO,hfz,hb⟩:=hrel;have M1:=HM.out.step hb;obtain⟨c0,c4⟩:=M1.id';have c2:=M1.rws;rw[ok.hid] at c0;rw[hln] at c2;by_cases hlt:j<n
  ·have k1:(j:Int)<n:=by omega
   obtain⟨Ak,⟨⟨d0,d1,d2,d3⟩,d4,d5,d6,d7⟩,hrs⟩:=M1.row ok.fit hil;have hOt:=Tn B i n g off c Ak.sa Ak.sc (dO m.rows i).dQ (j:Int) wr c0 c2 ok.lt jy.2 d3 hrs.dQ hrs.ms;have HO:=dP hO;have HB:=dP hb;have E5:Z.length<=1000000:=by rw[hZ.out,jq];have:=tX j (dO m.rows i).dQ;omega
   have HN:aG (lN (fA (j+1) (dO m.rows i).dQ)=if (j:Int)∈(dO m.rows i).dQ then Z else Z++[(j:Int)]):=by
    rw[aG,hZ.out,Jk];by_cases hm:(j:Int)∈(dO m.rows i).dQ<;>simp[hm,lN]
   have HOL:=dP (ad6 hlt ok.self);have wj:wrap64 ((j:Int)+1)=(j:Int)+1:=by unfold wrap64;omega
   clear d0 d1 d2 d3 d4 d5 d6 d7 c2 c4 hrs M1 hO hb;generalize uS i n (dO m.rows i).dQ (j:Int)=ob at *;go_upto_region 5 with fail
   go_cut [21] from 11 to 21 (fun v X=>v=aF (!decide ((j:Int)∈(dO m.rows i).dQ))/\Below wr.heap.size wr X)
   case first =>
    by_cases ej:j=i
    ·have e1:((j:Int)==(i:Int))=aB:=by simp[ej]
     have HV:aG ((!decide ((j:Int)∈(dO m.rows i).dQ))=aB):=by rw[aG,<- HOL.out,ej];simp
     clear ej;go_wp2_with fail
     go_meet
     case rel=>exact⟨by rw[HV.out],aZ5 _ _⟩
    ·have e1:((j:Int)==(i:Int))=aC:=by simp;omega
     have HV:aG ((!decide ((j:Int)∈(dO m.rows i).dQ))=ob):=by rw[aG,<- HOL.out,decide_eq_false (by omega)];simp
     clear ej;go_wp2_with (go_at_call 177;refine hOt.mono ?_;rintro e w1 ⟨rfl,hb1⟩;have HB1:aG (Below wr.heap.size wr w1):=hb1;clear hb1)
     go_meet
     case rel=>exact⟨by rw[HV.out],HB1.out⟩
   case rest =>
    obtain⟨rfl,hBc⟩:=hcut;generalize wc=V at *;have HB1:=dP (eP HB.out hBc);clear hOt;by_cases hm:(j:Int)∈(dO m.rows i).dQ
    ·have xw:aG (eF.ow V (gQ Z) (aj a Z.length cc) fz):=eF.gK HO.out hBc
     rw[if_pos hm] at HN;rw[decide_eq_true hm];clear hm hBc;go_wp2;go_roundw
     case rel=>exact⟨j+1,a,cc,Z,fz,by omega,by go_num,rfl,HN.out.symm,xw.out,hfz,HB1.out⟩
     case measure=>simp[ba4];omega
    ·obtain⟨a',c',ea,hA⟩:=pO (j:Int) (eF.gK HO.out hBc) E5
     cases ea
     have hbs:=hBc.size;have aM4:=HB.out.size;rw[if_neg hm] at HN;rw[decide_eq_false hm];clear hm hBc;go_wp2_with (at_builtin;refine fJ (by rfl) _ _ _ _ (by rfl) _ _ (by rfl) (by rfl) hA ⟨rfl,rfl,rfl,rfl⟩ ?_;rintro v1 w1 ⟨a1,e1,f1,rfl,q1,q2,q3⟩;have tY:aG (eF.ow w1 (gQ (Z++[(j:Int)])) (aj a1 (Z.length+1) e1) f1):=q1;have Ap:aG (∀ b,f1 b->fz b\/V.heap.size<=b):=q2;have Aq:aG (eU fz V w1):=q3;clear q1 q2 q3 hA)
     have HL:aG ((Z++[(j:Int)]).length=Z.length+1):=by rw[aG,dB];rfl
     go_roundw
     case rel=>exact⟨j+1,a1,e1,Z++[(j:Int)],f1,by omega,by go_num,by rw[HL.out],HN.out.symm,by rw[HL.out];exact tY.out,fun b hb=>(Ap.out b hb).elim (hfz b) (fun h=>by omega),Aq.out.below HB1.out (by omega) (fun b hb=>hfz b hb)⟩
     case measure=>simp[ba4];omega
  ·have k1:¬ ((j:Int)<n):=by omega
   have ej:j=n:=by omega
   have HZ:aG (Z=lN (fA n (dO m.rows i).dQ)):=by rw[aG,hZ.out,ej]
   have HO:aG (sJ w wr (gQ Z) (aj a Z.length cc)):=⟨fz,hO,hfz,hb⟩;clear ej hO hb M1 c0 c2 c4;go_wp2;go_ret
   rw[<- HZ.out];exact⟨a,cc,rfl,HO.out⟩
theorem aE7 (h:gq w (jA m) (jB A m) f):gq w (nG m) (FI A m).toList f:=by
 obtain⟨u1,vU,f1,g1,e1,o1,h2,d1,i1⟩:=h
 cases e1
 obtain⟨u2,xu,f2,g2,e2,o2,h3,d2,i2⟩:=h2
 cases e2
 exact vC ⟨_,_,f1,g1,rfl,o1,⟨_,_,f2,g2,rfl,o2,vC h3,d2,i2⟩,d1,i1⟩
theorem aE8 {us: List aJ} (h:gq w (nG m) us f):∃ A:Ma,us=(FI A m).toList/\gq w (jA m) (jB A m) f:=by
 obtain⟨us0,rfl,hq1⟩:=qM h;obtain⟨u1,vU,f1,g1,rfl,o1,h2,d1,i1⟩:=hq1;obtain⟨u2,xu,f2,g2,rfl,o2,h3,d2,i2⟩:=h2;obtain⟨Oq,rfl,⟨rfl,h4⟩⟩:=qM h3;have Sj:=o1;obtain⟨ra,rc,_,_,_,rfl,_⟩:=Sj;obtain⟨sa,sc,_,rfl,_⟩:=jv.1 o2;exact⟨⟨ra,rc,sa,sc⟩,rfl,⟨_,_,f1,g1,rfl,o1,⟨_,_,f2,g2,rfl,o2,⟨rfl,h4⟩,d2,i2⟩,d1,i1⟩⟩
theorem iO.c4 (h:iO w B 0 (nG m) f):∃ A:Ma,C4 w B (ah aA m.id) (aj A.ra m.rows.length A.rc) (aj A.sa m.dR.length A.sc) (aF m.done)/\(w.frozen? ⟨B,0,ak⟩=aC/\w.frozen? ⟨B,1,ak⟩=aC/\w.frozen? ⟨B,2,ak⟩=aC/\w.frozen? ⟨B,3,ak⟩=aC)/\gq w (jA m) (jB A m) f:=by
 obtain⟨vs,hpc,hov,_⟩:=h;obtain⟨A,rfl,hl⟩:=aE8 hov;have hl4:(FI A m).toList.length=4:=rfl;have c:=hpc.cell;have f:=hpc.free;exact⟨A,⟨c 0 (by rw[hl4];omega),c 1 (by rw[hl4];omega),c 2 (by rw[hl4];omega),c 3 (by rw[hl4];omega)⟩,⟨f 0 (by rw[hl4];omega),f 1 (by rw[hl4];omega),f 2 (by rw[hl4];omega),f 3 (by rw[hl4];omega)⟩,hl⟩
theorem ad7 {T: TypeId} {fp: Fp} (h:Bx w B T (FI A m)) (hl:gq w (jA m) (jB A m) fp) (hB:¬ fp B):iO w B 0 (nG m) fp:=⟨_,h.pc,aE7 hl,hB⟩
theorem TI (A:Ma) (m:Mb) (w:aI) (hn:m.n=(m.rows.length:Int)) :
  ba3 aZ8 139 #[JE A m] w fun e w'=>e=aK (iL A m)/\Below w.heap.size w w':=by
 have fU:=iq;have hb1:=dX w (aH #[ah aA m.id,aj A.ra m.rows.length A.rc,aj A.sa m.dR.length A.sc,aF m.done] 183);have hb2:=dX (w.alloc (aH #[ah aA m.id,aj A.ra m.rows.length A.rc,aj A.sa m.dR.length A.sc,aF m.done] 183)) (aH #[ah aA 0,ah aA 0,aj ak 0 0,aj ak 0 0,aF aC] 47);have hx1:Bx ((w.alloc (aH #[ah aA m.id,aj A.ra m.rows.length A.rc,aj A.sa m.dR.length A.sc,aF m.done] 183)).alloc (aH #[ah aA 0,ah aA 0,aj ak 0 0,aj ak 0 0,aF aC] 47)) w.heap.size 183 #[ah aA m.id,aj A.ra m.rows.length A.rc,aj A.sa m.dR.length A.sc,aF m.done]:=(Bx.new w _ _).alloc _
 have hx2:Bx ((w.alloc (aH #[ah aA m.id,aj A.ra m.rows.length A.rc,aj A.sa m.dR.length A.sc,aF m.done] 183)).alloc (aH #[ah aA 0,ah aA 0,aj ak 0 0,aj ak 0 0,aF aC] 47)) (w.heap.size+1) 47 #[ah aA 0,ah aA 0,aj ak 0 0,aj ak 0 0,aF aC]:=by
  have:=Bx.new (w.alloc (aH #[ah aA m.id,aj A.ra m.rows.length A.rc,aj A.sa m.dR.length A.sc,aF m.done] 183)) 47 #[ah aA 0,ah aA 0,aj ak 0 0,aj ak 0 0,aF aC];simp only[aU1] at this;exact this
 have ql:=eP hb1 hb2;unfold JE FI;have lM:=dP hx2;have HB:=dP ql;obtain⟨c0,c1,c2,c3⟩:=Bx.r4 hx1;have HN:=dP hn;clear hb1 hb2 hx1 hx2 ql hn;go_enter Tryz.func139,Tryz.ntmps139
 go_upto_region 1 with fail
 generalize ((w.alloc (aH #[ah aA m.id,aj A.ra m.rows.length A.rc,aj A.sa m.dR.length A.sc,aF m.done] 183)).alloc (aH #[ah aA 0,ah aA 0,aj ak 0 0,aj ak 0 0,aF aC] 47))=W0 at *;have T:∀ {x v},W0.cell? x=au v->∀ q:Bk W0,q.w.cell? x=au v:=fun h q=>fM q.h h
 have y0:=T c0;have y1:=T c1;have y2:=T c2;have y3:=T c3;have hC:∀ q:Bk W0,ba3 aZ8 166 #[aO (au ⟨w.heap.size,0,ak⟩)] q.w fun e w'=>e=aK (ah aA (m.rows.length:Int))/\Below q.w.heap.size q.w w':=fun q=>(zN w.heap.size A.ra m.rows.length A.rc q.w (y1 q)).mono (fun e w' h=>⟨h.1,by rw[h.2];exact aZ5 _ _⟩)
 clear T c0 c1 c2 c3;refine gJ (C:=fun w'=>∃ p:Bk W0,w'=p.w) 13 fU (by kernel_rfl) ⟨⟨W0.drewN 1,fO (aZ5 _ _)⟩,rfl⟩ ?_
 simp only[dA,aX2]
 repeat (go_big_quiet_step ((first|(go_at_call 166;exact eY _ (hC _))|rfl)))
 refine aZ2 (iI fun wE eH=>?_)
 simp only[cZ,aX0]
 have hR:=lM.out.below eH;have HB1:=dP (eP HB.out eH);obtain⟨z0,z1,z2,z3,z4⟩:=Bx.r5 hR;obtain⟨f0,f1,f2,f3,f4⟩:=hR.f5;clear y0 y1 y2 y3 hC eH hR lM;go_wp2;refine aY1 (v:=iL A m) (by simp[results,Tryz.results139,go_sem,iL,ig,HN.out, *]) rfl ?_
 exact⟨rfl,(qN wE (w.heap.size+1)).below HB1.out HB1.out.size (fun b e=>by omega)⟩
theorem as7 (F:Nat) (C:Array aJ) (m:Mb) (B wb:Nat) (fp:Fp) (X:aI) (R:Ending->aI->Prop) (hE:∀ (args:Array aJ) (w:aI),(callFunc F args).run aZ8 w=.ok (.enter F args) w) (h:iO X B 0 (nG m) fp) (hw:X.cell? ⟨wb,0,ak⟩=au (.func (.func F) #[] C))
  (hF:m.done=aC->ba3 aZ8 F (#[aO (au ⟨B,0,ak⟩)]++C) X R) (hD:m.done=aB->∀ e,Gu e->R e X) (hR:∀ e w',R e w'->e=aK (.tuple #[])\/Gu e) :
  ba3 aZ8 138 #[aO (au ⟨B,0,ak⟩),aO (au ⟨wb,0,ak⟩)] X R:=by
 obtain⟨A,⟨c0,c1,c2,c3⟩,_,_⟩:=h.c4
 cases hd:m.done with
 | true =>
  have HD:=dP (hD hd);rw[hd] at c3;clear hD hF hd h hR;go_enter Tryz.func138,Tryz.ntmps138
  go_wp2_with (go_at_call 86;refine (oZ _).mono ?_;rintro e w' ⟨⟨T,v,rfl⟩,hw'⟩;rw[hw'];clear hw')
  exact⟨rfl,HD.out _ ⟨_,_,rfl⟩⟩
 | false =>
  have hFF:=hF hd;rw[hd] at c3;have HR:=dP hR;clear hD hF hd h hR;go_enter Tryz.func138,Tryz.ntmps138
  go_wp2_with (go_at_call 86;refine fV (vF _) ?_)
  refine hFF.mono ?_;intro e w1 hRe;rcases HR.out e w1 hRe with rfl|⟨T,v,rfl⟩
  ·have Jj:aG (R (aK (.tuple #[])) w1):=hRe
   clear hRe hFF c0 c1 c2 c3;go_wp2
   first|go_end0|go_ret
   exact Jj.out
  ·exact⟨rfl,hRe⟩
def uj (m m':Mb) (flag:Bool):Mb×Bool:=if gZ m=aB then (if m.done=aB then (m,aC) else if flag=aB then (m',aB) else (m,aC)) else (kY,aC)
def Qp (X:aI) (B:Nat) (fp:Fp) (m':Mb) (b:Bool) (w':aI):Prop:=if b=aB then fH X w' B 0 (nG m') fp else ∃ m1,fH X w' B 0 (nG m1) fp
theorem Qp.wrt {X w':aI} {B:Nat} {fp:Fp} {m':Mb} {b:Bool} (h:Qp X B fp m' b w'):eU (fun x=>fp x\/x=B) X w':=by
 unfold Qp at h
 split at h
 ·exact h.wrt
 ·obtain⟨m1,h⟩:=h
  exact h.wrt
theorem KP (F:Nat) (C:Array aJ) (A:Ma) (m m':Mb) (flag:Bool) (w:aI) (hv:ug w A m) (hE:∀ (args:Array aJ) (w:aI),(callFunc F args).run aZ8 w=.ok (.enter F args) w)
  (hm':gZ m=aB->flag=aB->m'.n=(m'.rows.length:Int))
  (hF:∀ X B fp i n,Below w.heap.size w X->iO X B 0 (nG m) fp->iP m i n->m.done=aC->ba3 aZ8 F (#[aO (au ⟨B,0,ak⟩)]++C) X fun e w'=>(flag=aB/\e=aK (.tuple #[])/\fH X w' B 0 (nG m') fp)\/(flag=aC/\Gu e/\∃ m1,fH X w' B 0 (nG m1) fp)) :
  ba3 aZ8 108 #[iL A m,.func (.func F) #[] C] w fun e w'=>I8 w w' e (uj m m' flag).1 (uj m m' flag).2:=by
 have hmf:∀ (fn:Fn) (first cap:Array aJ) (w:aI),(aW8 fn first cap).run aZ8 w=.ok (.func fn first cap) w:=fun _ _ _ _=>rfl
 have hb1:=dX w (aH #[ah aA m.id,ah aA m.n,aj A.ra m.rows.length A.rc,aj A.sa m.dR.length A.sc,aF m.done] 47);have hb2:=dX (w.alloc (aH #[ah aA m.id,ah aA m.n,aj A.ra m.rows.length A.rc,aj A.sa m.dR.length A.sc,aF m.done] 47)) (aH #[.func (.func F) #[] C] 140);have hb3:=dX ((w.alloc (aH #[ah aA m.id,ah aA m.n,aj A.ra m.rows.length A.rc,aj A.sa m.dR.length A.sc,aF m.done] 47)).alloc (aH #[.func (.func F) #[] C] 140)) (aH #[ah aA 0,ah aA 0,aj ak 0 0,aj ak 0 0,aF aC] 47);have hx1:Bx (((w.alloc (aH #[ah aA m.id,ah aA m.n,aj A.ra m.rows.length A.rc,aj A.sa m.dR.length A.sc,aF m.done] 47)).alloc (aH #[.func (.func F) #[] C] 140)).alloc (aH #[ah aA 0,ah aA 0,aj ak 0 0,aj ak 0 0,aF aC] 47)) w.heap.size 47 #[ah aA m.id,ah aA m.n,aj A.ra m.rows.length A.rc,aj A.sa m.dR.length A.sc,aF m.done]:=((Bx.new w _ _).alloc _).alloc _
 have hx2:Bx (((w.alloc (aH #[ah aA m.id,ah aA m.n,aj A.ra m.rows.length A.rc,aj A.sa m.dR.length A.sc,aF m.done] 47)).alloc (aH #[.func (.func F) #[] C] 140)).alloc (aH #[ah aA 0,ah aA 0,aj ak 0 0,aj ak 0 0,aF aC] 47)) (w.heap.size+1) 140 #[.func (.func F) #[] C]:=by
  have:=(Bx.new (w.alloc (aH #[ah aA m.id,ah aA m.n,aj A.ra m.rows.length A.rc,aj A.sa m.dR.length A.sc,aF m.done] 47)) 140 #[.func (.func F) #[] C]).alloc (aH #[ah aA 0,ah aA 0,aj ak 0 0,aj ak 0 0,aF aC] 47);simp only[aU1] at this;exact this
 have hx3:Bx (((w.alloc (aH #[ah aA m.id,ah aA m.n,aj A.ra m.rows.length A.rc,aj A.sa m.dR.length A.sc,aF m.done] 47)).alloc (aH #[.func (.func F) #[] C] 140)).alloc (aH #[ah aA 0,ah aA 0,aj ak 0 0,aj ak 0 0,aF aC] 47)) (w.heap.size+1+1) 47 #[ah aA 0,ah aA 0,aj ak 0 0,aj ak 0 0,aF aC]:=by
  have:=Bx.new ((w.alloc (aH #[ah aA m.id,ah aA m.n,aj A.ra m.rows.length A.rc,aj A.sa m.dR.length A.sc,aF m.done] 47)).alloc (aH #[.func (.func F) #[] C] 140)) 47 #[ah aA 0,ah aA 0,aj ak 0 0,aj ak 0 0,aF aC];simp only[aU1] at this;exact this
 have ql:=eP hb1 hb2;have KF:=eP ql hb3;have hM0:=Qi A m (((w.alloc (aH #[ah aA m.id,ah aA m.n,aj A.ra m.rows.length A.rc,aj A.sa m.dR.length A.sc,aF m.done] 47)).alloc (aH #[.func (.func F) #[] C] 140)).alloc (aH #[ah aA 0,ah aA 0,aj ak 0 0,aj ak 0 0,aF aC] 47)) (hv.below KF);unfold iL ig at *;have qO:=dP hx1;have lM:=dP hx2;have Aa:=dP hx3;have HB0:=dP KF;have HV:=dP hv;obtain⟨c0,c1,c2,c3,c4⟩:=Bx.r5 hx1;clear hb1 hb2 hb3 hx1 hx2 hx3 ql KF hv
 cases hok:gZ m with
 | false =>
  have HZ:aG (uj m m' flag=(kY,aC)):=by rw[aG,uj,if_neg (by rw[hok];decide)]
  rw[hok] at hM0;clear hok hm' hF;go_enter Tryz.func108,Tryz.ntmps108
  go_wp2_with fail
  generalize (((w.alloc (aH #[ah aA m.id,ah aA m.n,aj A.ra m.rows.length A.rc,aj A.sa m.dR.length A.sc,aF m.done] 47)).alloc (aH #[.func (.func F) #[] C] 140)).alloc (aH #[ah aA 0,ah aA 0,aj ak 0 0,aj ak 0 0,aF aC] 47))=W0 at *;refine hM0.mono ?_;rintro e w1 ⟨rfl,hb1⟩;have hR:=Aa.out.below hb1;have HB1:=dP (eP HB0.out hb1);obtain⟨z0,z1,z2,z3,z4⟩:=Bx.r5 hR;obtain⟨f0,f1,f2,f3,f4⟩:=hR.f5;clear hR hb1 c0 c1 c2 c3 c4 hM0;go_wp2;refine aY1 (v:=.tuple #[iL ⟨ak,0,ak,0⟩ kY,aF aC]) (by simp[results,Tryz.results108,go_sem,iL,ig,kY, *]) rfl ?_
  rw[HZ.out];exact⟨_,rfl,ER ((qN w1 (w.heap.size+1+1)).below HB1.out HB1.out.size (fun b h=>by omega))⟩
 | true =>
 obtain⟨i,n,ok⟩:=lH.1 hok;have HZ:aG (uj m m' flag=if m.done=aB then (m,aC) else if flag=aB then (m',aB) else (m,aC)):=by rw[aG,uj,if_pos hok]
 have HM':=dP (hm' hok);have Sr:aG (m.n=(m.rows.length:Int)):=by rw[aG,ok.hn,ok.len]
 rw[hok] at hM0;have HF:=dP hF;clear hok hm' hF;go_enter Tryz.func108,Tryz.ntmps108
 go_wp2_with fail
 generalize (((w.alloc (aH #[ah aA m.id,ah aA m.n,aj A.ra m.rows.length A.rc,aj A.sa m.dR.length A.sc,aF m.done] 47)).alloc (aH #[.func (.func F) #[] C] 140)).alloc (aH #[ah aA 0,ah aA 0,aj ak 0 0,aj ak 0 0,aF aC] 47))=W0 at *;refine hM0.mono ?_;rintro e w1 ⟨rfl,hb1⟩;have HB1:=dP (eP HB0.out hb1);have zn:=dP (qO.out.below hb1);have Tv:=dP (lM.out.below hb1);have HY3:=dP (Aa.out.below hb1);clear hb1 c0 c1 c2 c3 c4 hM0 qO lM Aa HB0;have Qq:=TB A m i n w1 (HV.out.below HB1.out) ok;unfold iL ig at Qq;obtain⟨c0,c1,c2,c3,c4⟩:=Bx.r5 zn.out;go_wp2_with fail
 refine Qq.mono ?_;rintro e w2 ⟨A2,rfl,fp,hl2,hf2,hb2⟩;unfold JE FI;have HB2:=dP (eP HB1.out hb2);have HZ1:=dP (zn.out.below hb2);have HZ2:=dP (Tv.out.below hb2);have HZ3:=dP (HY3.out.below hb2);have hlt2:=jh hl2;have hw1:=HY3.out.lt;have hs2:=hb2.size;clear c0 c1 c2 c3 c4 Qq
 -- the copy lies in a box of its own
 have hba:=dX w2 (aH #[ah aA m.id,aj A2.ra m.rows.length A2.rc,aj A2.sa m.dR.length A2.sc,aF m.done] 183);have hxb:=Bx.new w2 183 #[ah aA m.id,aj A2.ra m.rows.length A2.rc,aj A2.sa m.dR.length A2.sc,aF m.done];have hP3:iO (w2.alloc (aH #[ah aA m.id,aj A2.ra m.rows.length A2.rc,aj A2.sa m.dR.length A2.sc,aF m.done] 183)) w2.heap.size 0 (nG m) fp:=ad7 hxb (gy hl2 hba) (fun k=>by have:=hlt2 _ k;omega)
 have HB3:=dP (eP HB2.out hba);have Yg:=dP (HZ1.out.below hba);have HU2:=dP (HZ2.out.below hba);have HU3:=dP (HZ3.out.below hba);have hB3:=hxb.lt;have hfl:∀ b,fp b->w.heap.size+1+1<b/\b<w2.heap.size:=fun b hb=>⟨by have:=hf2 b hb;omega,hlt2 b hb⟩
 clear hxb hl2 hf2 hlt2 hb2 hba zn Tv HY3 HZ1 HZ2 HZ3;go_upto_region 4 with fail
 generalize w2.alloc (aH #[ah aA m.id,aj A2.ra m.rows.length A2.rc,aj A2.sa m.dR.length A2.sc,aF m.done] 183)=V3 at *;generalize w2.heap.size=B at *;have hbt:=dX V3 (aH #[aF aC] 4);have hP4:=hP3.below hbt;have hB4:=eP HB3.out hbt;have hw4:=(HU2.out.below hbt).at 0 (v:=.func (.func F) #[] C) rfl;have aS5:=(Bx.new V3 4 #[aF aC]).lt
 have hT:=Iq 138 #[] #[aO (au ⟨B,0,ak⟩),aO (au ⟨w.heap.size+1,0,ak⟩)] V3 (fun b X=>b=(!m.done&&flag)/\Qp (V3.alloc (aH #[aF aC] 4)) B fp m' b X) (fun _ _=>enters_of Tryz.func138 (by kernel_rfl) rfl _ _)
  ((as7 F C m B (w.heap.size + 1) fp _ (fun e w' => (m.done = aC /\ flag = aB /\ e = aK (.tuple #[]) /\ fH (V3.alloc (aH #[aF aC] 4)) w' B 0 (nG m') fp) \/ ((m.done = aB \/ flag = aC) /\ Gu e /\ ∃ m1,fH (V3.alloc (aH #[aF aC] 4)) w' B 0 (nG m1) fp)) hE hP4 hw4 (fun hd => (HF.out _ B fp i n hB4 hP4 ok hd).mono (fun e w' h => by
   rcases h with ⟨h1,h2,h3⟩|⟨h1,h2,h3⟩
   ·exact .inl ⟨hd,h1,h2,h3⟩
   ·exact .inr ⟨.inr h1,h2,h3⟩)) (fun hd e hg=>.inr ⟨.inl hd,hg,m,fH.refl hP4⟩) (fun e w' h=>by
   rcases h with ⟨_,_,h,_⟩|⟨_,h,_⟩
   ·exact .inl h
   ·exact .inr h)).mono (fun e w' h=>by
   rcases h with ⟨h1,h2,h3,h4⟩|⟨h1,h2,h3⟩
   ·exact .inl ⟨h3,by rw[h1,h2];rfl,by unfold Qp;rw[if_pos rfl];exact h4⟩
   ·refine .inr ⟨h2, ?_,by unfold Qp;rw[if_neg (by decide)];exact h3⟩
    rcases h1 with h1|h1<;>rw[h1]<;>simp)) (fun b X h=>(Bx.new V3 4 #[aF aC]).wrt h.2.wrt (fun k=>by rcases k with k|k;have:=hfl _ k;omega;omega))
 clear hP3 hbt hP4 hB4 hw4;have aP5:=Yg;go_wp2_with fail
 refine hT.mono ?_;rintro e Y ⟨b,X,rfl,⟨hbv,uN⟩,Hf⟩;have TJ:=uN.wrt;have hX0:Below w.heap.size w (V3.alloc (aH #[aF aC] 4)):=HB3.out.trans ((dX V3 _).mono HB3.out.size);have Cm:Below w.heap.size w X:=TJ.below hX0 hX0.size (fun x hx=>by rcases hx with hx|hx;have:=hfl x hx;omega;omega)
 have Yi:Below w.heap.size w Y:=Hf.below Cm Cm.size (fun x hx=>by have:=HB3.out.size;omega)
 have keep:∀ {k:Nat} {T:TypeId} {cs:Array aJ},k<w.heap.size+1+1+1->Bx V3 k T cs->Bx Y k T cs:=fun {k T cs} hk hx=>((hx.alloc (aH #[aF aC] 4)).wrt TJ (fun kk=>by rcases kk with kk|kk;have:=hfl _ kk;omega;omega)).wrt Hf (fun kk=>by omega)
 have HT1:aG (Bx Y w.heap.size 47 #[ah aA m.id,ah aA m.n,aj A.ra m.rows.length A.rc,aj A.sa m.dR.length A.sc,aF m.done]):=keep (by omega) Yg.out
 have HT3:aG (Bx Y (w.heap.size+1+1) 47 #[ah aA 0,ah aA 0,aj ak 0 0,aj ak 0 0,aF aC]):=keep (by omega) HU3.out
 have hsz:(V3.alloc (aH #[aF aC] 4)).heap.size=V3.heap.size+1:=aU1 _ _
 have hpl:∃ (mm:Mb) (gI:Fp),iO Y B 0 (nG mm) gI/\(∀ x,gI x->w.heap.size+1+1<x)/\(b=aB->mm=m'):=by
  have key:∀ mm,fH (V3.alloc (aH #[aF aC] 4)) X B 0 (nG mm) fp->∃ gI,iO Y B 0 (nG mm) gI/\∀ x,gI x->w.heap.size+1+1<x:=fun mm hb=>by
   obtain⟨gI,h1,h2⟩:=hb.lY
   have h3:∀ x,gI x->w.heap.size+1+1<x/\x≠V3.heap.size:=fun x hx=>by
    rcases h2 x hx with k|k
    ·have:=hfl x k;omega
    ·have:=HB3.out.size;omega
   exact⟨gI,h1.wrt Hf (fun x hx e=>by rcases hx with hx|hx;exact (h3 x hx).2 e;omega),fun x hx=>(h3 x hx).1⟩
  unfold Qp at uN
  cases b with
  | true =>
   rw[if_pos rfl] at uN;obtain⟨gI,h1,h2⟩:=key m' uN;exact⟨m',gI,h1,h2,fun _=>rfl⟩
  | false =>
   rw[if_neg (by decide)] at uN
   obtain⟨m1,uN⟩:=uN;obtain⟨gI,h1,h2⟩:=key m1 uN;exact⟨m1,gI,h1,h2,fun h=>by cases h⟩
 obtain⟨mm,gI,hPY,hf1,hmm⟩:=hpl;have MR:=dP Yi;have hBl:=hPY.lt;obtain⟨A3,⟨y0,y1,y2,y3⟩,⟨q0,q1,q2,q3⟩,hl3⟩:=hPY.c4;clear hT uN TJ hX0 Cm Yi keep Hf Yg aP5 HU2 HU3 hPY hsz
 cases b with
 | true =>
  have hmm':=hmm rfl;subst hmm'
  have hdf:m.done=aC/\flag=aB:=by
   cases hd:m.done<;>cases hf:flag<;>rw[hd,hf] at hbv<;>simp at hbv ⊢
  have HZf:aG (uj m mm flag=(mm,aB)):=by rw[aG,HZ.out,if_neg (by rw[hdf.1];decide),if_pos hdf.2]
  have Qr:=TI A3 mm Y (HM'.out hdf.2);unfold JE FI at Qr;clear hmm hbv hdf q0 q1 q2 q3;go_wp2_with fail
  refine Qr.mono ?_;rintro e Y2 ⟨rfl,hb2⟩;have hR:=HT3.out.below hb2
  have HN:aG (∀ {z0 z1 z2 z3 z4:aJ},kW w (((((Y2.setCell ⟨w.heap.size+1+1,0,ak⟩ z0).setCell ⟨w.heap.size+1+1,1,ak⟩ z1).setCell ⟨w.heap.size+1+1,2,ak⟩ z2).setCell ⟨w.heap.size+1+1,3,ak⟩ z3).setCell ⟨w.heap.size+1+1,4,ak⟩ z4) (jA mm) (jB A3 mm)):=fun {z0 z1 z2 z3 z4}=>by
   have hB2:=eP MR.out hb2;exact⟨gI,gU (gy hl3 hb2) (qN Y2 (w.heap.size+1+1)) (fun x hx e=>by have:=hf1 x hx;omega),fun x hx=>by have:=hf1 x hx;omega,(qN Y2 (w.heap.size+1+1)).below hB2 hB2.size (fun x e=>by omega)⟩
  unfold iL ig;obtain⟨z0,z1,z2,z3,z4⟩:=Bx.r5 hR;obtain⟨r0,r1,r2,r3,r4⟩:=hR.f5;clear Qr hR hb2 hl3 y0 y1 y2 y3;go_wp2;refine aY1 (v:=.tuple #[iL A3 mm,aF aB]) (by simp[results,Tryz.results108,go_sem,iL,ig, *]) rfl ?_
  rw[HZf.out];exact⟨_,rfl,HN.out⟩
 | false =>
  have HZf:aG (uj m m' flag=(m,aC)):=by
   rw[aG,HZ.out]
   cases hd:m.done<;>cases hf:flag<;>rw[hd,hf] at hbv<;>simp at hbv ⊢
  have Qq:=TB A m i n Y (HV.out.below MR.out) ok;unfold iL ig at Qq;obtain⟨c0,c1,c2,c3,c4⟩:=Bx.r5 HT1.out
  have HQ:aG (∀ Z,Below Y.heap.size Y Z->(∃ v0 v1 v2 v3,Z.cell? ⟨B,0,ak⟩=au v0/\Z.cell? ⟨B,1,ak⟩=au v1/\Z.cell? ⟨B,2,ak⟩=au v2/\Z.cell? ⟨B,3,ak⟩=au v3)/\Z.frozen? ⟨B,0,ak⟩=aC/\Z.frozen? ⟨B,1,ak⟩=aC/\Z.frozen? ⟨B,2,ak⟩=aC/\Z.frozen? ⟨B,3,ak⟩=aC):=fun Z hZ=>by
   have e:=hZ.block B hBl;have t:∀ {j v},Y.cell? ⟨B,j,ak⟩=au v->Z.cell? ⟨B,j,ak⟩=au v:=fun h=>(bT e).trans h
   have u:∀ {j},Y.frozen? ⟨B,j,ak⟩=aC->Z.frozen? ⟨B,j,ak⟩=aC:=fun h=>by simp only[World.frozen?,e] at h ⊢;exact h
   exact⟨⟨_,_,_,_,t y0,t y1,t y2,t y3⟩,u q0,u q1,u q2,u q3⟩
  clear hmm hbv q0 q1 q2 q3 y0 y1 y2 y3 hl3;go_wp2_with fail
  refine Qq.mono ?_;rintro e Y1 ⟨A4,rfl,ES,hl4,hf4,hb4⟩;unfold JE FI;obtain⟨⟨v0,v1,v2,v3,g0,g1,g2,g3⟩,p0,p1,p2,p3⟩:=HQ.out Y1 hb4;have hsY:=hb4.size;have Qs:eU (fun x=>x=B) Y1 ((((Y1.setCell ⟨B,0,ak⟩ (ah aA m.id)).setCell ⟨B,1,ak⟩ (aj A4.ra m.rows.length A4.rc)).setCell ⟨B,2,ak⟩ (aj A4.sa m.dR.length A4.sc)).setCell ⟨B,3,ak⟩ (aF m.done)):=Vo Y1 B
  have hl5:gq ((((Y1.setCell ⟨B,0,ak⟩ (ah aA m.id)).setCell ⟨B,1,ak⟩ (aj A4.ra m.rows.length A4.rc)).setCell ⟨B,2,ak⟩ (aj A4.sa m.dR.length A4.sc)).setCell ⟨B,3,ak⟩ (aF m.done)) (jA m) (jB A4 m) ES:=gU hl4 Qs (fun x hx e=>by have:=hf4 x hx;omega)
  have qZ:aG (Below w.heap.size w ((((Y1.setCell ⟨B,0,ak⟩ (ah aA m.id)).setCell ⟨B,1,ak⟩ (aj A4.ra m.rows.length A4.rc)).setCell ⟨B,2,ak⟩ (aj A4.sa m.dR.length A4.sc)).setCell ⟨B,3,ak⟩ (aF m.done))):=Qs.below (eP MR.out hb4) (eP MR.out hb4).size (fun x e=>by omega)
  have hT5:Bx ((((Y1.setCell ⟨B,0,ak⟩ (ah aA m.id)).setCell ⟨B,1,ak⟩ (aj A4.ra m.rows.length A4.rc)).setCell ⟨B,2,ak⟩ (aj A4.sa m.dR.length A4.sc)).setCell ⟨B,3,ak⟩ (aF m.done)) (w.heap.size+1+1) 47 #[ah aA 0,ah aA 0,aj ak 0 0,aj ak 0 0,aF aC]:=(HT3.out.below hb4).wrt Qs (fun e=>by omega)
  have HT5:=dP hT5;have Qn:=dP hl5;have x0:((((Y1.setCell ⟨B,0,ak⟩ (ah aA m.id)).setCell ⟨B,1,ak⟩ (aj A4.ra m.rows.length A4.rc)).setCell ⟨B,2,ak⟩ (aj A4.sa m.dR.length A4.sc)).setCell ⟨B,3,ak⟩ (aF m.done)).cell? ⟨B,0,ak⟩=au (ah aA m.id):=by simp[go_sem,g0,g1,g2,g3]
  have x1:((((Y1.setCell ⟨B,0,ak⟩ (ah aA m.id)).setCell ⟨B,1,ak⟩ (aj A4.ra m.rows.length A4.rc)).setCell ⟨B,2,ak⟩ (aj A4.sa m.dR.length A4.sc)).setCell ⟨B,3,ak⟩ (aF m.done)).cell? ⟨B,1,ak⟩=au (aj A4.ra m.rows.length A4.rc):=by simp[go_sem,g0,g1,g2,g3]
  have x2:((((Y1.setCell ⟨B,0,ak⟩ (ah aA m.id)).setCell ⟨B,1,ak⟩ (aj A4.ra m.rows.length A4.rc)).setCell ⟨B,2,ak⟩ (aj A4.sa m.dR.length A4.sc)).setCell ⟨B,3,ak⟩ (aF m.done)).cell? ⟨B,2,ak⟩=au (aj A4.sa m.dR.length A4.sc):=by simp[go_sem,g0,g1,g2,g3]
  have x3:((((Y1.setCell ⟨B,0,ak⟩ (ah aA m.id)).setCell ⟨B,1,ak⟩ (aj A4.ra m.rows.length A4.rc)).setCell ⟨B,2,ak⟩ (aj A4.sa m.dR.length A4.sc)).setCell ⟨B,3,ak⟩ (aF m.done)).cell? ⟨B,3,ak⟩=au (aF m.done):=by simp[go_sem,g0,g1,g2,g3]
  have Qr:=TI A4 m ((((Y1.setCell ⟨B,0,ak⟩ (ah aA m.id)).setCell ⟨B,1,ak⟩ (aj A4.ra m.rows.length A4.rc)).setCell ⟨B,2,ak⟩ (aj A4.sa m.dR.length A4.sc)).setCell ⟨B,3,ak⟩ (aF m.done)) Sr.out;unfold JE FI at Qr;have yP:aG (∀ x,ES x->w.heap.size+1+1<x):=fun x hx=>by have:=hf4 x hx;have:=HT3.out.lt;omega
  clear hl4 hf4 hl5 hT5 Qs Qq c0 c1 c2 c3 c4 HQ;go_upto_region 7 with fail
  generalize ((((Y1.setCell ⟨B,0,ak⟩ (ah aA m.id)).setCell ⟨B,1,ak⟩ (aj A4.ra m.rows.length A4.rc)).setCell ⟨B,2,ak⟩ (aj A4.sa m.dR.length A4.sc)).setCell ⟨B,3,ak⟩ (aF m.done))=Y5 at *;clear g0 g1 g2 g3 p0 p1 p2 p3;go_wp2_with fail
  refine Qr.mono ?_;rintro e Y2 ⟨rfl,hb2⟩;have hR:=HT5.out.below hb2
  have HN:aG (∀ {z0 z1 z2 z3 z4:aJ},kW w (((((Y2.setCell ⟨w.heap.size+1+1,0,ak⟩ z0).setCell ⟨w.heap.size+1+1,1,ak⟩ z1).setCell ⟨w.heap.size+1+1,2,ak⟩ z2).setCell ⟨w.heap.size+1+1,3,ak⟩ z3).setCell ⟨w.heap.size+1+1,4,ak⟩ z4) (jA m) (jB A4 m)):=fun {z0 z1 z2 z3 z4}=>by
   have hB2:=eP qZ.out hb2;exact⟨ES,gU (gy Qn.out hb2) (qN Y2 (w.heap.size+1+1)) (fun x hx e=>by have:=yP.out x hx;omega),fun x hx=>by have:=yP.out x hx;omega,(qN Y2 (w.heap.size+1+1)).below hB2 hB2.size (fun x e=>by omega)⟩
  unfold iL ig;obtain⟨z0,z1,z2,z3,z4⟩:=Bx.r5 hR;obtain⟨r0,r1,r2,r3,r4⟩:=hR.f5;clear Qr hR hb2 x0 x1 x2 x3;go_wp2;refine aY1 (v:=.tuple #[iL A4 m,aF aC]) (by simp[results,Tryz.results108,go_sem,iL,ig, *]) rfl ?_
  rw[HZf.out];exact⟨_,rfl,HN.out⟩
section
theorem KQ (g q:Nat) (ver:Int) (X:aI) (hc:X.cell? ⟨g,q,ak⟩=au (ah aA ver)) (hf:X.frozen? ⟨g,q,ak⟩=aC) (h0:0<=ver) (hv:ver<1000000) :
  ba3 aZ8 148 #[aO (au ⟨g,q,ak⟩)] X fun e w'=>e=aK (.tuple #[])/\w'=X.setCell ⟨g,q,ak⟩ (ah aA (ver+1)):=by
 have hw:wrap64 (ver+1)=ver+1:=by unfold wrap64;omega
 go_enter Tryz.func148,Tryz.ntmps148
 go_wp2_with (go_at_call 86;refine fV (vF _) ?_)
 first|go_end0|go_ret
 exact⟨rfl,rfl⟩
theorem as8 (g q:Nat) (ver:Int) (X:aI) (hc:X.cell? ⟨g,q,ak⟩=au (ah aA ver)) (hv:¬ ver<1000000) :
  ba3 aZ8 148 #[aO (au ⟨g,q,ak⟩)] X fun e w'=>Gu e/\w'=X:=by
 go_enter Tryz.func148,Tryz.ntmps148
 go_wp2_with (go_at_call 86;refine (oZ _).mono ?_;rintro e w' ⟨⟨T,v,rfl⟩,hw'⟩;rw[hw'];clear hw')
 exact⟨rfl,⟨_,_,rfl⟩,rfl⟩
attribute [local irreducible] sv
theorem as9 (B:Nat) (m:Mb) (i n:Nat) (t:List UInt8) (fp:Fp) (w:aI) (h:iO w B 0 (nG m) fp) (ok:iP m i n) (hd:m.done=aC) (ht:t.length<=1048576) :
  ba3 aZ8 156 #[aO (au ⟨B,0,ak⟩),aN (sv t)] w fun e w'=>((gX m t).2=aB/\e=aK (.tuple #[])/\fH w w' B 0 (nG (gX m t).1) fp)\/((gX m t).2=aC/\Gu e/\∃ m1,fH w w' B 0 (nG m1) fp):=by
 have fU:=iq;have hil:i<m.rows.length:=by rw[ok.len];exact ok.lt
 obtain⟨g,off,c,M0⟩:=Iw.start h (by omega)
 obtain⟨c0,c3⟩:=M0.id';have c1:=M0.rws;rw[ok.hid] at c0;have ru:=oK B i m.rows.length g off c w c0 c1 hil;have kU:=dP M0;have az8:=zL t;have hr:=ok.ok i ok.lt
 have Ih:aG (gX m t=if (dO m.rows i).wed=aB\/m.done=aB\/(dO m.rows i).txt.length=12\/20<t.length\/(dO m.rows i).ver=1000000 then (m,aC) else ({ m with rows:=m.rows.set i { dO m.rows i with txt:=(dO m.rows i).txt++[t],got:=(dO m.rows i).got.set i (el (dO m.rows i).got i+1),ver:=(dO m.rows i).ver+1 } },aB)):=by
  have e:m.i=i:=by unfold Mb.i;rw[ok.hid];rfl
  rw[aG,gX,Mb.put,Mb.own,e]
 have jY:aG (((dO m.rows i).wed=aB\/m.done=aB\/(dO m.rows i).txt.length=12\/20<t.length\/(dO m.rows i).ver=1000000)->(gX m t).2=aC):=fun h=>by rw[Ih.out,if_pos h]
 have yX:aG (¬ ((dO m.rows i).wed=aB\/m.done=aB\/(dO m.rows i).txt.length=12\/20<t.length\/(dO m.rows i).ver=1000000)->gX m t=({ m with rows:=m.rows.set i { dO m.rows i with txt:=(dO m.rows i).txt++[t],got:=(dO m.rows i).got.set i (el (dO m.rows i).got i+1),ver:=(dO m.rows i).ver+1 } },aB)):=fun h=>by rw[Ih.out,if_neg h]
 have htl:=hr.tl;clear Ih c0 c1 c3 M0 h;go_enter Tryz.func156,Tryz.ntmps156
 go_wp2_with fail
 refine ru.mono ?_;rintro e wA ⟨rfl,wz⟩;have M1:=kU.out.step wz;have fZ:=dP M1;obtain⟨Ak,⟨⟨d0,d1,d2,d3⟩,d4,d5,d6,d7⟩,hrs⟩:=M1.row ok.fit hil;have MS:aG (∃ m1,fH w wA B 0 (nG m1) fp):=⟨m,M1.iw⟩;clear ru hrs d0 d2 d3 d5 d6 d7 M1 wz kU
 cases hwd:(dO m.rows i).wed with
 | true =>
  have HZ:=dP (jY.out (.inl hwd));rw[hwd] at d4;go_wp2_with (go_at_call 86;refine (oZ _).mono ?_;rintro e w' ⟨⟨T,v,rfl⟩,hw'⟩;rw[hw'];clear hw')
  exact⟨rfl,.inr ⟨HZ.out,⟨_,_,rfl⟩,MS.out⟩⟩
 | false =>
 rw[hwd] at d4;by_cases h12:(dO m.rows i).txt.length=12
 ·have HZ:aG ((gX m t).2=aC):=jY.out (.inr (.inr (.inl h12)))
  have e12:¬ (((dO m.rows i).txt.length:Int)<12):=by omega
  clear h12;go_wp2_with (go_at_call 86;refine (oZ _).mono ?_;rintro e w' ⟨⟨T,v,rfl⟩,hw'⟩;rw[hw'];clear hw')
  exact⟨rfl,.inr ⟨HZ.out,⟨_,_,rfl⟩,MS.out⟩⟩
 have e12:((dO m.rows i).txt.length:Int)<12:=by omega
 by_cases h20:20<t.length
 ·have HZ:aG ((gX m t).2=aC):=jY.out (.inr (.inr (.inr (.inl h20))))
  have e23:decide ((t.length:Int)<=20)=aC:=decide_eq_false (by omega)
  clear h20;go_wp2_with (go_at_call 86;(try rw[e23]);refine (oZ _).mono ?_;rintro e w' ⟨⟨T,v,rfl⟩,hw'⟩;rw[hw'];clear hw')
  exact⟨rfl,.inr ⟨HZ.out,⟨_,_,rfl⟩,MS.out⟩⟩
 have e20:(t.length:Int)<=20:=by omega
 have HH:aG (¬ ((dO m.rows i).wed=aB)/\¬ m.done=aB/\¬ (dO m.rows i).txt.length=12/\¬ 20<t.length):=⟨by rw[hwd];decide,by rw[hd];decide,h12,h20⟩
 clear h12 h20 hwd MS;go_upto_region 2 with (go_at_call 86;refine fV (vF _) ?_)
 clear d4 e12 e20;obtain⟨u,f,hu,hfz,how,hlt,hset⟩:=fZ.out.at hil (j:=1) rfl;have hbd:=(Same.drewN wA 1).below;have hu':∀ X,Below wA.heap.size wA X->X.cell? ⟨g,off+i*8+1,ak⟩=au u:=fun X hX=>fM hX hu
 have MV:=clone_any t wA.drew ht;obtain⟨ta,tc,_,rfl,_⟩:=qI.1 how;have HS:=dP hset;clear d1 hset hlt fZ;refine lG (S:=fun X:aI=>X.cell? ⟨g,off+i*8+1,ak⟩=au (aj ta (dO m.rows i).txt.length tc)) 11 fU ((hu' _ hbd)) fun hHeld=>?_
 refine fC (i:=0) rfl hHeld ?_;refine fC (i:=1) rfl hHeld ?_;refine fC (i:=2) rfl hHeld ?_;refine fC (i:=3) rfl hHeld ?_;refine fC (i:=4) rfl hHeld ?_;refine fC (i:=5) rfl hHeld ?_;refine iy (i:=6) rfl fun K hK=>?_
 go_simp
 go_at_call 93
 refine MV.mono ?_;rintro e V1 ⟨rfl,hb1⟩;have kT:=eP hbd hb1;obtain⟨ta',tc',et,hA⟩:=zG t (eF.gK how kT) (by omega)
 cases et
 have hba:=dX V1 (aH #[aN (sv t)] 9);refine hK.out _ _ (hu' _ kT) (fun eG=>?_)
 clear hK hHeld;have hHeld:=eG;try simp only[gW]
 refine iy (i:=7) rfl fun K hK=>?_
 go_simp;refine hK.out _ _ (hu' _ (eP kT hba)) (fun eG=>?_)
 clear hK hHeld;have hHeld:=eG;try simp only[gW]
 refine iy (i:=8) rfl fun K hK=>?_
 refine jm (by rfl) _ _ _ _ (by rfl) (aj ta (dO m.rows i).txt.length tc) _ (by rfl) (by rfl) hA ⟨rfl,rfl,rfl,rfl⟩ ?_
 rintro v9 w1 ⟨a1,e1,f1,rfl,k1,k2,k3⟩;have hs1:=kT.size;obtain⟨q1,q2,M2,_⟩:=HS.out w1 _ _ f1 { dO m.rows i with txt:=(dO m.rows i).txt++[t] } rfl ((eU.of_below kT).trans k3 (fun _ _ h=>h)) k1 (fun b hb=>(k2 b hb).imp id (fun h=>by omega))
 have ji:=dP M2;refine hK.out _ _ q1 (fun eG=>?_)
 clear hK hHeld;have hHeld:=eG;try simp only[gW]
 refine iy (i:=9) rfl fun K hK=>?_
 go_simp;refine hK.out _ _ q1 (fun eG=>?_)
 clear hK hHeld;have hHeld:=eG;try simp only[gW]
 refine iy (i:=10) rfl fun K hK=>?_
 go_simp;refine hK.out _ _ q1 (fun eG=>?_)
 clear hK hHeld;have hHeld:=eG;try simp only[gW]
 refine oH rfl fun K hK=>?_
 go_simp;refine hK.out _ _ ?_;clear hHeld hK M2 k1 k2 k3 hA HS q1 q2 hu' hu how hfz MV kT hbd hb1 hba;go_upto_region 3 with fail
 generalize w1.setCell ⟨g,off+i*8+1,ak⟩ (aj a1 ((dO m.rows i).txt.length+1) e1)=W5 at *;generalize hr1:({ dO m.rows i with txt:=(dO m.rows i).txt++[t] }:Rw)=r1 at *
 have hgl:r1.got=(dO m.rows i).got:=by rw[<- hr1]
 have hvl:r1.ver=(dO m.rows i).ver:=by rw[<- hr1]
 have Dy:dO (m.rows.set i r1) i=r1:=iW hil;have vH:i<(m.rows.set i r1).length:=by rw[aV3];exact hil
 have hgi:i<r1.got.length:=by rw[hgl,hr.gl];exact ok.lt
 obtain⟨u,f,hu,hfz,how,hlt,hset⟩:=ji.out.at vH (j:=2) (cl:=gQ r1.got) (by rw[Dy];rfl)
 obtain⟨gb,go,gc,rfl,hfg,hge,hgz,hgs⟩:=l9 how hgi;obtain⟨c0,c4⟩:=ji.out.id';simp only at c0
 rw[ok.hid] at c0;have i0:(0:Int)<=i:=by omega
 have i2:(i:Int)<r1.got.length:=by omega
 have p0:∀ q:Bk W5,q.w.cell? ⟨B,0,ak⟩=_:=fun q=>fM q.h c0
 have p2:∀ q:Bk W5,q.w.cell? ⟨g,off+i*8+2,ak⟩=_:=fun q=>fM q.h hu
 have p3:∀ q:Bk W5,q.w.cell? ⟨gb,go+i,ak⟩=_:=fun q=>fM q.h hge
 have ZT:-1000<=el r1.got i/\el r1.got i<=1000:=by
  have hg:=(jG hr.n5 hr.gl).1 ⟨hr.got,hr.g12⟩ i ok.lt;rw[hgl];omega
 have hwx:wrap64 (el r1.got i+1)=el r1.got i+1:=by unfold wrap64;omega
 have HEL:aG (el r1.got i=el (dO m.rows i).got i):=by rw[aG,hgl]
 have HGL:=dP hgl;have HVL:=dP hvl;have Xb:=dP Dy;have HR1:=dP hr1;clear hu hfz hge hgz hgs how hset c0 c4 ZT hgl hvl Dy hr1;generalize el r1.got i=x at *;refine gJ (C:=fun w'=>∃ p:Bk W5,w'=p.w) 13 fU (by kernel_rfl) ⟨⟨W5.drewN 1,fO (aZ5 _ _)⟩,rfl⟩ ?_
 simp only[dA,aX2]
 repeat (go_big_quiet_step ((first|rfl)))
 refine aZ2 (iI fun wE eH=>?_)
 simp only[cZ,aX0]
 have hu3:=p2 ⟨wE,eH⟩;simp only at hu3
 have M3:=ji.out.step eH;obtain⟨u,f3,hu,hfz,how,hlt3,hset⟩:=M3.at vH (j:=2) (cl:=gQ r1.got) (by rw[Xb.out];rfl)
 obtain rfl:=aV4 (hu.symm.trans hu3);obtain⟨gb',go',gc',e4,UZ,hge,hgz,hgs⟩:=l9 how hgi
 cases e4
 obtain⟨k1,k2⟩:=hgs (x+1);obtain⟨_,_,_,xA⟩:=hset _ (gQ (r1.got.set i (x+1))) _ f3 { r1 with got:=r1.got.set i (x+1) } (by rw[Xb.out];rfl) k2 k1 (fun b hb=>.inl hb)
 have lU:=dP (xA rfl);clear xA hgs k1 k2 hset M3 how hu hu3 hfz p0 p2 p3 hlt3 hlt;go_upto_region 4 with fail
 generalize wE.setCell ⟨gb,go+i,ak⟩ (ah aA (x+1))=W7 at *;clear hge hgz;rw[aY4] at lU;generalize hr2:({ r1 with got:=r1.got.set i (x+1) }:Rw)=r2 at *
 have uP:i<(m.rows.set i r2).length:=by rw[aV3];exact hil
 have hv2:r2.ver=(dO m.rows i).ver:=by rw[<- hr2];exact HVL.out
 have hs2:dO (m.rows.set i r2) i=r2:=iW hil;obtain⟨v1,v2,pR⟩:=lU.out.put uP (j:=0) (x:=ah aA r2.ver) (y:=ah aA (r2.ver+1)) (r':={ r2 with ver:=r2.ver+1 }) (by rw[hs2];rfl) (by rw[hs2];rfl)
 have hvb:=hr.ver;simp only[Nat.add_zero] at v1 v2 pR;rw[aY4] at pR;have iM:=dP pR
 have HFin:aG ((dO m.rows i).ver≠1000000->({ m with rows:=m.rows.set i { r2 with ver:=r2.ver+1 } }:Mb)=(gX m t).1/\(gX m t).2=aB):=fun hne=>by
  rw[yX.out (by obtain⟨h1,h2,h3,h4⟩:=HH.out;rintro (h|h|h|h|h);exact h1 h;exact h2 h;exact h3 h;exact h4 h;exact hne h)]
  refine⟨?_,rfl⟩;rw[<- hr2,<- HR1.out,HEL.out]
 by_cases kD:(dO m.rows i).ver=1000000
 ·have JG:=as8 g (off+i*8) r2.ver W7 v1 (by omega)
  have HZ:=dP (jY.out (.inr (.inr (.inr (.inr kD)))));clear pR hr2 hs2 hv2 hvb HFin;go_wp2_with (go_at_call 148;refine JG.mono ?_;rintro e w' ⟨⟨T,v,rfl⟩,hw'⟩;rw[hw'];clear hw')
  exact⟨rfl,.inr ⟨HZ.out,⟨_,_,rfl⟩,_,lU.out.iw⟩⟩
 ·have JG:=KQ g (off+i*8) r2.ver W7 v1 v2 (by omega) (by omega)
  have HF:=HFin.out kD;have HF2:=dP HF;clear pR hr2 hs2 hv2 hvb HFin HF kD;go_wp2_with (go_at_call 148;refine fV JG ?_)
  first|go_end0|go_ret
  exact .inl ⟨HF2.out.2,rfl,by rw[<- HF2.out.1];exact iM.out.iw⟩
end
section
attribute [local irreducible] sv
theorem at1 (m:Mb) (t:List UInt8):Kz m t=uj m (gX m t).1 (gX m t).2:=by
 unfold Kz uj
 split
 ·by_cases hd:m.done=aB
  ·rw[if_pos hd,gX,if_pos (.inr (.inl hd))]
  ·rw[if_neg hd]
   cases hf:(gX m t).2 with
   | true=>rw[if_pos rfl,<- hf]
   | false =>
    rw[if_neg (by decide)]
    unfold gX at hf ⊢
    split at hf
    ·rename_i h;rw[if_pos h]
    ·cases hf
 ·rfl
theorem ad8 (B:Nat) (t:List UInt8) (tb:Nat) (X:aI) (R:Ending->aI->Prop) (hc:X.cell? ⟨tb,0,ak⟩=au (aN (sv t))) (hS:ba3 aZ8 156 #[aO (au ⟨B,0,ak⟩),aN (sv t)] X R) (hR:∀ e w',R e w'->e=aK (.tuple #[])\/Gu e) :
  ba3 aZ8 155 #[aO (au ⟨B,0,ak⟩),aO (au ⟨tb,0,ak⟩)] X R:=by
 have HR:=dP hR;clear hR;go_enter Tryz.func155,Tryz.ntmps155
 go_wp2_with fail
 refine hS.mono ?_;intro e w1 hRe;rcases HR.out e w1 hRe with rfl|⟨T,v,rfl⟩
 ·have Jj:aG (R (aK (.tuple #[])) w1):=hRe
  clear hRe hS;go_wp2
  first|go_end0|go_ret
  exact Jj.out
 ·exact⟨rfl,hRe⟩
theorem at6:aq1:=by
 intro A m t w hv ht;have hmf:∀ (fn:Fn) (first cap:Array aJ) (w:aI),(aW8 fn first cap).run aZ8 w=.ok (.func fn first cap) w:=fun _ _ _ _=>rfl
 have a0:=dX w (aH #[ah aA m.id,ah aA m.n,aj A.ra m.rows.length A.rc,aj A.sa m.dR.length A.sc,aF m.done] 47);have hb0:=a0;have a1:=dX (w.alloc (aH #[ah aA m.id,ah aA m.n,aj A.ra m.rows.length A.rc,aj A.sa m.dR.length A.sc,aF m.done] 47)) (aH #[aN (sv t)] 9);have hb1:=eP hb0 a1;have a2:=dX ((w.alloc (aH #[ah aA m.id,ah aA m.n,aj A.ra m.rows.length A.rc,aj A.sa m.dR.length A.sc,aF m.done] 47)).alloc (aH #[aN (sv t)] 9)) (aH #[ah aA 0,ah aA 0,aj ak 0 0,aj ak 0 0,aF aC] 47);have hb2:=eP hb1 a2
 have hx0:Bx (((w.alloc (aH #[ah aA m.id,ah aA m.n,aj A.ra m.rows.length A.rc,aj A.sa m.dR.length A.sc,aF m.done] 47)).alloc (aH #[aN (sv t)] 9)).alloc (aH #[ah aA 0,ah aA 0,aj ak 0 0,aj ak 0 0,aF aC] 47)) (w.heap.size) 47 #[ah aA m.id,ah aA m.n,aj A.ra m.rows.length A.rc,aj A.sa m.dR.length A.sc,aF m.done]:=by
  have:=((Bx.new w 47 #[ah aA m.id,ah aA m.n,aj A.ra m.rows.length A.rc,aj A.sa m.dR.length A.sc,aF m.done]).alloc (aH #[aN (sv t)] 9)).alloc (aH #[ah aA 0,ah aA 0,aj ak 0 0,aj ak 0 0,aF aC] 47);try simp only[aU1] at this
  exact this
 have hx1:Bx (((w.alloc (aH #[ah aA m.id,ah aA m.n,aj A.ra m.rows.length A.rc,aj A.sa m.dR.length A.sc,aF m.done] 47)).alloc (aH #[aN (sv t)] 9)).alloc (aH #[ah aA 0,ah aA 0,aj ak 0 0,aj ak 0 0,aF aC] 47)) (w.heap.size+1) 9 #[aN (sv t)]:=by
  have:=(Bx.new (w.alloc (aH #[ah aA m.id,ah aA m.n,aj A.ra m.rows.length A.rc,aj A.sa m.dR.length A.sc,aF m.done] 47)) 9 #[aN (sv t)]).alloc (aH #[ah aA 0,ah aA 0,aj ak 0 0,aj ak 0 0,aF aC] 47);try simp only[aU1] at this
  exact this
 have hx2:Bx (((w.alloc (aH #[ah aA m.id,ah aA m.n,aj A.ra m.rows.length A.rc,aj A.sa m.dR.length A.sc,aF m.done] 47)).alloc (aH #[aN (sv t)] 9)).alloc (aH #[ah aA 0,ah aA 0,aj ak 0 0,aj ak 0 0,aF aC] 47)) (w.heap.size+1+1) 47 #[ah aA 0,ah aA 0,aj ak 0 0,aj ak 0 0,aF aC]:=by
  have:=Bx.new ((w.alloc (aH #[ah aA m.id,ah aA m.n,aj A.ra m.rows.length A.rc,aj A.sa m.dR.length A.sc,aF m.done] 47)).alloc (aH #[aN (sv t)] 9)) 47 #[ah aA 0,ah aA 0,aj ak 0 0,aj ak 0 0,aF aC];try simp only[aU1] at this
  exact this
 have hP:=hv.below hb2
 have uN:=KP 155 #[aO (au ⟨w.heap.size+1,0,ak⟩)] A m (gX m t).1 (gX m t).2 (((w.alloc (aH #[ah aA m.id,ah aA m.n,aj A.ra m.rows.length A.rc,aj A.sa m.dR.length A.sc,aF m.done] 47)).alloc (aH #[aN (sv t)] 9)).alloc (aH #[ah aA 0,ah aA 0,aj ak 0 0,aj ak 0 0,aF aC] 47)) hP (fun _ _=>enters_of Tryz.func155 (by kernel_rfl) rfl _ _)
  (fun hok hf => by
   obtain⟨i,n,ok⟩:=lH.1 hok;have:=(Gf ok t).1;rw[this.hn,this.len])
  (fun X B fp i n hX hpl ok hd => ad8 B t (w.heap.size + 1) X _ ((hx1.below hX).at 0 rfl) (as9 B m i n t fp X hpl ok hd ht) (fun e w' h => by
   rcases h with ⟨_,h,_⟩|⟨_,h,_⟩
   ·exact .inl h
   ·exact .inr h))
 have HZ0:=at1 m t;unfold iL ig at uN;have hWl:=hx2.lt;obtain⟨c0,c1,c2,c3,c4⟩:=Bx.r5 hx0;have HR0:=dP hx2;have HB0:=dP hb2;have HZ:=dP HZ0;clear a0 a1 a2 hb0 hb1 hb2 hx0 hx1 hx2 hP hv HZ0;unfold iL ig;generalize uj m (gX m t).1 (gX m t).2=pm at *;go_enter Tryz.func124,Tryz.ntmps124
 go_wp2_with fail
 generalize (((w.alloc (aH #[ah aA m.id,ah aA m.n,aj A.ra m.rows.length A.rc,aj A.sa m.dR.length A.sc,aF m.done] 47)).alloc (aH #[aN (sv t)] 9)).alloc (aH #[ah aA 0,ah aA 0,aj ak 0 0,aj ak 0 0,aF aC] 47))=W0 at *;refine uN.mono ?_;rintro e w1 ⟨A2,rfl,fp,hl,hf,hb⟩;have hR:=HR0.out.below hb;have hsz:=hb.size
 have HN:aG (∀ {z0 z1 z2 z3 z4:aJ},kW w (((((w1.setCell ⟨w.heap.size+1+1,0,ak⟩ z0).setCell ⟨w.heap.size+1+1,1,ak⟩ z1).setCell ⟨w.heap.size+1+1,2,ak⟩ z2).setCell ⟨w.heap.size+1+1,3,ak⟩ z3).setCell ⟨w.heap.size+1+1,4,ak⟩ z4) (jA pm.1) (jB A2 pm.1)):=fun {z0 z1 z2 z3 z4}=>by
  have hB1:=eP HB0.out hb;exact⟨fp,gU hl (qN w1 (w.heap.size+1+1)) (fun x hx e=>by have:=hf x hx;omega),fun x hx=>by have:=hf x hx;omega,(qN w1 (w.heap.size+1+1)).below hB1 hB1.size (fun x e=>by omega)⟩
 obtain⟨z0,z1,z2,z3,z4⟩:=Bx.r5 hR;obtain⟨r0,r1,r2,r3,r4⟩:=hR.f5;clear uN hl hf hb hR c0 c1 c2 c3 c4;unfold iL ig;go_wp2;refine aY1 (v:=.tuple #[iL A2 pm.1,aF pm.2]) (by simp[results,Tryz.results124,go_sem,iL,ig, *]) rfl ?_
 rw[HZ.out];exact⟨_,rfl,HN.out⟩
end
section
attribute [local irreducible] sv
theorem Yj (ok:iP m i n) (fr:Int) (r:Rw) (hd:m.done=aC):(fG m fr r).2=(uS i n (dO m.rows i).dQ fr&&(gu r m.n&&decide ((dO m.rows fr.toNat).ver<r.ver)))/\((fG m fr r).2=aB->(fG m fr r).1={ m with rows:=m.rows.set fr.toNat r }):=by
 have e:m.i=i:=by unfold Mb.i;rw[ok.hid];rfl
 unfold fG uS;rw[Mb.own,e,hd,ok.hid,ok.hn]
 split
 ·rename_i h
  refine⟨?_,fun h=>by cases h⟩
  rcases h with h|h|h|h|h|h
  ·rw[h];simp
  ·rw[h];simp
  ·rw[decide_eq_false (p:=fr∉_) (by simpa using h)];simp
  ·cases h
  ·rw[h];simp
  ·rw[decide_eq_false (p:=_<r.ver) (by omega)];simp
 ·rename_i h
  refine⟨?_,fun _=>rfl⟩
  simp only[not_or,Bool.not_eq_false,Int.not_le] at h;obtain⟨h1,h2,h3,_,h5,h6⟩:=h;rw[h1,h5,decide_eq_true h2,decide_eq_true h3,decide_eq_true h6]
  rfl
theorem ad9 (B:Nat) (m:Mb) (i n:Nat) (fr:Int) (Ar:Ra) (r:Rw) (fp:Fp) (w:aI) (h:iO w B 0 (nG m) fp) (ok:iP m i n) (hd:m.done=aC) (nD:qo w Ar r) :
  ba3 aZ8 150 #[aO (au ⟨B,0,ak⟩),ah aA fr,iK Ar r] w fun e w'=>((fG m fr r).2=aB/\e=aK (.tuple #[])/\fH w w' B 0 (nG (fG m fr r).1) fp)\/((fG m fr r).2=aC/\Gu e/\∃ m1,fH w w' B 0 (nG m1) fp):=by
 have fU:=iq;have hil:i<m.rows.length:=by rw[ok.len];exact ok.lt
 have jy:=ok.n5;obtain⟨g,off,c,M0⟩:=Iw.start h (by omega)
 have hba:=dX w (aH #[ah aA r.ver,aj Ar.ta r.txt.length Ar.tc,aj Ar.ga r.got.length Ar.gc,aj Ar.sa r.dQ.length Ar.sc,aF r.wed,aF r.dV,ah aA r.dW,aj Ar.ma r.dU.length Ar.mc] 44);have hxr:=Bx.new w 44 #[ah aA r.ver,aj Ar.ta r.txt.length Ar.tc,aj Ar.ga r.got.length Ar.gc,aj Ar.sa r.dQ.length Ar.sc,aF r.wed,aF r.dV,ah aA r.dW,aj Ar.ma r.dU.length Ar.mc];have M1:=M0.step hba;have ae0:=nD.below hba;obtain⟨HP1,HP2⟩:=Yj ok fr r hd;have HH1:=dP HP1;have HH2:=dP HP2;clear HP1 HP2 h M0;unfold iK fP;generalize rV:w.alloc (aH #[ah aA r.ver,aj Ar.ta r.txt.length Ar.tc,aj Ar.ga r.got.length Ar.gc,aj Ar.sa r.dQ.length Ar.sc,aF r.wed,aF r.dV,ah aA r.dW,aj Ar.ma r.dU.length Ar.mc] 44)=W1 at *;have HW:=dP hxr.lt;have fZ:=dP M1;have qV:=dP hxr;have XZ:=dP ae0;obtain⟨c0,c3⟩:=M1.id';have c1:=M1.rws;rw[ok.hid] at c0;obtain⟨Ak,⟨⟨d0,d1,d2,d3⟩,d4,d5,d6,d7⟩,hrs⟩:=M1.row ok.fit hil;have T:∀ {x v},W1.cell? x=au v->∀ q:Bk W1,q.w.cell? x=au v:=fun h q=>fM q.h h
 have hO:∀ q:Bk W1,ba3 aZ8 177 #[aO (au ⟨B,0,ak⟩),ah aA fr] q.w fun e w'=>e=aK (aF (uS i n (dO m.rows i).dQ fr))/\Below q.w.heap.size q.w w':=fun q=>Tn B i n g off c Ak.sa Ak.sc (dO m.rows i).dQ fr q.w (T c0 q) (by rw[<- ok.len];exact T c1 q) ok.lt jy.2 (T d3 q) (hrs.dQ.below q.h (Nat.le_refl _)) hrs.ms
 have hC:∀ q:Bk W1,ba3 aZ8 166 #[aO (au ⟨B,0,ak⟩)] q.w fun e w'=>e=aK (ah aA m.n)/\Below q.w.heap.size q.w w':=fun q=>(zN B (au ⟨g,off,ak⟩) m.rows.length c q.w (T c1 q)).mono (fun e w' h=>⟨by rw[h.1,ok.hn,ok.len],by rw[h.2];exact aZ5 _ _⟩)
 have hR:∀ q:Bk W1,ba3 aZ8 51 #[aP #[ah aA r.ver,aj Ar.ta r.txt.length Ar.tc,aj Ar.ga r.got.length Ar.gc,aj Ar.sa r.dQ.length Ar.sc,aF r.wed,aF r.dV,ah aA r.dW,aj Ar.ma r.dU.length Ar.mc],ah aA m.n] q.w fun e w'=>e=aK (aF (gu r m.n))/\Below q.w.heap.size q.w w':=fun q=>Ir Ar r m.n q.w (ae0.below q.h)
 have y1:=T c1;obtain⟨⟨x0,x1,x2,x3⟩,x4,x5,x6,x7⟩:=Bx.r8 hxr;have u0:=T x0;have u1:=T x1;have u2:=T x2;have u3:=T x3;have u4:=T x4;have u5:=T x5;have u6:=T x6;have u7:=T x7;have MS:aG (∀ wE,Below W1.heap.size W1 wE->∃ m1,fH w wE B 0 (nG m1) fp):=fun wE hb=>⟨m,(fZ.out.step hb).iw⟩
 have Yk:aG (uS i n (dO m.rows i).dQ fr=aB->∃ F:Nat,fr=(F:Int)/\F<m.rows.length):=fun h=>by
  unfold uS at h;simp only[Bool.and_eq_true] at h;have:=iQ.1 h.2.1;exact⟨fr.toNat,by omega,by rw[ok.len];omega⟩
 have HT:aG (∀ {x v},W1.cell? x=au v->∀ q:Bk W1,q.w.cell? x=au v):=@T;clear nD hba hxr M1 ae0 x0 x1 x2 x3 x4 x5 x6 x7 c0 c1 c3 d0 d1 d2 d3 d4 d5 d6 d7 hrs T;have hw0:w.alloc (aH #[ah aA r.ver,aj Ar.ta r.txt.length Ar.tc,aj Ar.ga r.got.length Ar.gc,aj Ar.sa r.dQ.length Ar.sc,aF r.wed,aF r.dV,ah aA r.dW,aj Ar.ma r.dU.length Ar.mc] 44)=W1:=rV;clear rV
 cases e1:uS i n (dO m.rows i).dQ fr with
 | false =>
  have HZ:aG ((fG m fr r).2=aC):=by rw[aG,HH1.out,e1];rfl
  rw[e1] at hO;clear e1;go_enter Tryz.func150,Tryz.ntmps150
  go_wp2_with fail
  clear hw0;refine gJ (C:=fun w'=>∃ p:Bk W1,w'=p.w) 25 fU (by kernel_rfl) ⟨⟨W1.drewN 1,fO (aZ5 _ _)⟩,rfl⟩ ?_
  simp only[dA,aX2]
  repeat (go_big_quiet_step ((first|(go_at_call 177;exact eY _ (hO _))|rfl)))
  refine aZ2 (iI fun wE eH=>?_)
  simp only[cZ,aX0]
  have HG:=MS.out wE eH;have HG2:=dP HG;clear hO hC hR y1 u0 u1 u2 u3 u4 u5 u6 u7 eH HG;go_wp2_with (go_at_call 86;refine (oZ _).mono ?_;rintro e w' ⟨⟨T,v,rfl⟩,hw'⟩;rw[hw'];clear hw')
  exact⟨rfl,.inr ⟨HZ.out,⟨_,_,rfl⟩,HG2.out⟩⟩
 | true =>
 obtain⟨F,rfl,uH⟩:=Yk.out e1;rw[e1] at hO
 cases e2:gu r m.n with
 | false =>
  have HZ:aG ((fG m (F:Int) r).2=aC):=by rw[aG,HH1.out,e1,e2];rfl
  rw[e2] at hR;clear e1 e2;go_enter Tryz.func150,Tryz.ntmps150
  go_wp2_with fail
  clear hw0;refine gJ (C:=fun w'=>∃ p:Bk W1,w'=p.w) 25 fU (by kernel_rfl) ⟨⟨W1.drewN 1,fO (aZ5 _ _)⟩,rfl⟩ ?_
  simp only[dA,aX2]
  repeat (go_big_quiet_step ((first|(go_at_call 177;exact eY _ (hO _))|(go_at_call 166;exact eY _ (hC _))|(go_at_call 51;exact eY _ (hR _))|rfl)))
  refine aZ2 (iI fun wE eH=>?_)
  simp only[cZ,aX0]
  have HG:=MS.out wE eH;have HG2:=dP HG;clear hO hC hR y1 u0 u1 u2 u3 u4 u5 u6 u7 eH HG;go_wp2_with (go_at_call 86;refine (oZ _).mono ?_;rintro e w' ⟨⟨T,v,rfl⟩,hw'⟩;rw[hw'];clear hw')
  exact⟨rfl,.inr ⟨HZ.out,⟨_,_,rfl⟩,HG2.out⟩⟩
 | true =>
 rw[e2] at hR;obtain⟨Af,⟨⟨d0,d1,d2,d3⟩,d4,d5,d6,d7⟩,_⟩:=fZ.out.row ok.fit uH;have GN:aG ((fG m (F:Int) r).2=decide ((dO m.rows F).ver<r.ver)):=by rw[aG,HH1.out,e1,e2];simp
 have v0:=HT.out d0;have v1:=HT.out d1;have v2:=HT.out d2;have v3:=HT.out d3;have v4:=HT.out d4;have v5:=HT.out d5;have v6:=HT.out d6;have v7:=HT.out d7;have hL:∀ q:Bk W1,ba3 aZ8 178 #[aP #[ah aA r.ver,aj Ar.ta r.txt.length Ar.tc,aj Ar.ga r.got.length Ar.gc,aj Ar.sa r.dQ.length Ar.sc,aF r.wed,aF r.dV,ah aA r.dW,aj Ar.ma r.dU.length Ar.mc],iK Af (dO m.rows F)] q.w fun e w'=>e=aK (aF (decide ((dO m.rows F).ver<r.ver)))/\Below q.w.heap.size q.w w':=fun q=>ac7 Ar Af r (dO m.rows F) q.w
 unfold iK fP at hL;have F0:(0:Int)<=F:=by omega
 have F1:(F:Int)<m.rows.length:=by omega
 have hokr:iR r n:=qh.1 (by rw[<- ok.hn];exact e2)
 clear e1 e2 d0 d1 d2 d3 d4 d5 d6 d7
 cases e3:decide ((dO m.rows F).ver<r.ver) with
 | false =>
  have HZ:aG ((fG m (F:Int) r).2=aC):=by rw[aG,GN.out,e3]
  rw[e3] at hL;clear e3;go_enter Tryz.func150,Tryz.ntmps150
  go_wp2_with fail
  clear hw0;refine gJ (C:=fun w'=>∃ p:Bk W1,w'=p.w) 25 fU (by kernel_rfl) ⟨⟨W1.drewN 1,fO (aZ5 _ _)⟩,rfl⟩ ?_
  simp only[dA,aX2]
  repeat (go_big_quiet_step ((first|(go_at_call 177;exact eY _ (hO _))|(go_at_call 166;exact eY _ (hC _))|(go_at_call 51;exact eY _ (hR _))|(go_at_call 178;exact eY _ (hL _))|rfl)))
  refine aZ2 (iI fun wE eH=>?_)
  simp only[cZ,aX0]
  have HG:=MS.out wE eH;have HG2:=dP HG;clear hO hC hR hL y1 u0 u1 u2 u3 u4 u5 u6 u7 v0 v1 v2 v3 v4 v5 v6 v7 eH HG;go_wp2_with (go_at_call 86;refine (oZ _).mono ?_;rintro e w' ⟨⟨T,v,rfl⟩,hw'⟩;rw[hw'];clear hw')
  exact⟨rfl,.inr ⟨HZ.out,⟨_,_,rfl⟩,HG2.out⟩⟩
 | true =>
 have HZ:aG ((fG m (F:Int) r).2=aB):=by rw[aG,GN.out,e3]
 rw[e3] at hL;clear e3;go_enter Tryz.func150,Tryz.ntmps150
 go_wp2_with fail
 clear hw0;refine gJ (C:=fun w'=>∃ p:Bk W1,w'=p.w) 25 fU (by kernel_rfl) ⟨⟨W1.drewN 1,fO (aZ5 _ _)⟩,rfl⟩ ?_
 simp only[dA,aX2]
 repeat (go_big_quiet_step ((first|(go_at_call 177;exact eY _ (hO _))|(go_at_call 166;exact eY _ (hC _))|(go_at_call 51;exact eY _ (hR _))|(go_at_call 178;exact eY _ (hL _))|rfl)))
 refine aZ2 (iI fun wE eH=>?_)
 simp only[cZ,aX0]
 have M2:=fZ.out.step eH;have ji:=dP M2;have aE9:=XZ.out.below eH;have aF0:=qV.out.below eH;clear hO hC hR hL y1 u0 u1 u2 u3 u4 u5 u6 u7 v0 v1 v2 v3 v4 v5 v6 v7
 have KS:∀ X,Below wE.heap.size wE X->X.cell? ⟨B,1,ak⟩=au (aj (au ⟨g,off,ak⟩) m.rows.length c)/\X.cell? ⟨w.heap.size,0,ak⟩=au (ah aA r.ver)/\X.cell? ⟨w.heap.size,1,ak⟩=au (aj Ar.ta r.txt.length Ar.tc)/\X.cell? ⟨w.heap.size,2,ak⟩=au (aj Ar.ga r.got.length Ar.gc)/\X.cell? ⟨w.heap.size,3,ak⟩=au (aj Ar.sa r.dQ.length Ar.sc)/\X.cell? ⟨w.heap.size,4,ak⟩=au (aF r.wed)/\X.cell? ⟨w.heap.size,5,ak⟩=au (aF r.dV)/\X.cell? ⟨w.heap.size,6,ak⟩=au (ah aA r.dW)/\X.cell? ⟨w.heap.size,7,ak⟩=au (aj Ar.ma r.dU.length Ar.mc):=fun X hX=>by
  obtain⟨⟨x0,x1,x2,x3⟩,x4,x5,x6,x7⟩:=Bx.r8 (aF0.below hX);exact⟨fM hX M2.rws,x0,x1,x2,x3,x4,x5,x6,x7⟩
 have hbd:=(Same.drewN wE 1).below;have hAn:=CZ Ar r wE.drew (aE9.below hbd) (by rw[hokr.gl];omega) (by have:=hokr.c8.2;omega)
 unfold iK fP at hAn;clear aE9 aF0 eH M2;go_upto_region 2 with (go_at_call 86;refine fV (vF _) ?_)
 refine lG (S:=fun X:aI=>X.cell? ⟨B,1,ak⟩=au (aj (au ⟨g,off,ak⟩) m.rows.length c)/\X.cell? ⟨w.heap.size,0,ak⟩=au (ah aA r.ver)/\X.cell? ⟨w.heap.size,1,ak⟩=au (aj Ar.ta r.txt.length Ar.tc)/\X.cell? ⟨w.heap.size,2,ak⟩=au (aj Ar.ga r.got.length Ar.gc)/\X.cell? ⟨w.heap.size,3,ak⟩=au (aj Ar.sa r.dQ.length Ar.sc)/\X.cell? ⟨w.heap.size,4,ak⟩=au (aF r.wed)/\X.cell? ⟨w.heap.size,5,ak⟩=au (aF r.dV)/\X.cell? ⟨w.heap.size,6,ak⟩=au (ah aA r.dW)/\X.cell? ⟨w.heap.size,7,ak⟩=au (aj Ar.ma r.dU.length Ar.mc)) 9 fU ((KS _ hbd)) fun hHeld=>?_
 refine fC (i:=0) rfl hHeld ?_;refine fC (i:=1) rfl hHeld ?_;refine fC (i:=2) rfl hHeld ?_;refine fC (i:=3) rfl hHeld ?_;refine fC (i:=4) rfl hHeld ?_;refine fC (i:=5) rfl hHeld ?_;refine fC (i:=6) rfl hHeld ?_;refine iy (i:=7) rfl fun K hK=>?_
 go_simp
 go_at_call 141
 refine hAn.mono ?_;rintro e V1 ⟨A2,rfl,f2,hl2,hf2,hb2⟩;have kT:=eP hbd hb2;have hd2:wE.drew.heap.size=wE.heap.size:=rfl;have M3:=ji.out.OU uH kT hl2 (fun b hb=>by have:=hf2 b hb;omega)
 have M4:=ji.out.step kT;obtain⟨Ag,⟨⟨k0,k1,k2,k3⟩,k4,k5,k6,k7⟩,_⟩:=M4.row ok.fit uH;obtain⟨⟨j0,j1,j2,j3⟩,j4,j5,j6,j7⟩:=M4.free uH;have lT:aG _:=M3;refine hK.out _ _ (KS _ kT) (fun eG=>?_)
 clear hK hHeld;have hHeld:=eG;try simp only[gW]
 refine iy (i:=8) rfl fun K hK=>?_
 go_simp;refine hK.out _ _ (KS _ kT) (fun eG=>?_)
 clear hK hHeld;have hHeld:=eG;try simp only[gW]
 unfold iK fP;refine oH rfl fun K hK=>?_
 go_simp;refine hK.out _ _ ?_;clear hHeld hK M3 M4 hl2 hf2 hb2 k0 k1 k2 k3 k4 k5 k6 k7 j0 j1 j2 j3 j4 j5 j6 j7 KS hbd kT hAn;have HF2:aG ((fG m (F:Int) r).1={ m with rows:=m.rows.set F r }):=by rw[aG,HH2.out HZ.out];rfl
 go_wp2
 first|go_end0|go_ret
 exact .inl ⟨HZ.out,rfl,by rw[HF2.out];exact lT.out.iw⟩
end
section
attribute [local irreducible] sv
theorem Yl (m:Mb) (fr:Int) (r:Rw):KA m fr r=uj m (fG m fr r).1 (fG m fr r).2:=by
 unfold KA uj
 split
 ·by_cases hd:m.done=aB
  ·rw[if_pos hd,fG,if_pos (.inr (.inr (.inr (.inl hd))))]
  ·rw[if_neg hd]
   cases hf:(fG m fr r).2 with
   | true=>rw[if_pos rfl,<- hf]
   | false =>
    rw[if_neg (by decide)]
    unfold fG at hf ⊢
    split at hf
    ·rename_i h;rw[if_pos h]
    ·cases hf
 ·rfl
theorem ae1 (B:Nat) (fr:Int) (Ar:Ra) (r:Rw) (b1 b2:Nat) (X:aI) (R:Ending->aI->Prop) (hc:X.cell? ⟨b1,0,ak⟩=au (ah aA fr)) (hx:Bx X b2 44 #[ah aA r.ver,aj Ar.ta r.txt.length Ar.tc,aj Ar.ga r.got.length Ar.gc,aj Ar.sa r.dQ.length Ar.sc,aF r.wed,aF r.dV,ah aA r.dW,aj Ar.ma r.dU.length Ar.mc]) (hS:ba3 aZ8 150 #[aO (au ⟨B,0,ak⟩),ah aA fr,aP #[ah aA r.ver,aj Ar.ta r.txt.length Ar.tc,aj Ar.ga r.got.length Ar.gc,aj Ar.sa r.dQ.length Ar.sc,aF r.wed,aF r.dV,ah aA r.dW,aj Ar.ma r.dU.length Ar.mc]] X R) (hR:∀ e w',R e w'->e=aK (.tuple #[])\/Gu e) :
  ba3 aZ8 149 #[aO (au ⟨B,0,ak⟩),aO (au ⟨b1,0,ak⟩),aO (au ⟨b2,0,ak⟩)] X R:=by
 have HR:=dP hR;clear hR;obtain⟨⟨x0,x1,x2,x3⟩,x4,x5,x6,x7⟩:=Bx.r8 hx;clear hx;go_enter Tryz.func149,Tryz.ntmps149
 go_wp2_with fail
 refine hS.mono ?_;intro e w1 hRe;rcases HR.out e w1 hRe with rfl|⟨T,v,rfl⟩
 ·have Jj:aG (R (aK (.tuple #[])) w1):=hRe
  clear hRe hS;go_wp2
  first|go_end0|go_ret
  exact Jj.out
 ·exact⟨rfl,hRe⟩
theorem Ym:XO:=by
 intro A m fr Ar r w hv h6 nD;have hmf:∀ (fn:Fn) (first cap:Array aJ) (w:aI),(aW8 fn first cap).run aZ8 w=.ok (.func fn first cap) w:=fun _ _ _ _=>rfl
 have a0:=dX w (aH #[ah aA m.id,ah aA m.n,aj A.ra m.rows.length A.rc,aj A.sa m.dR.length A.sc,aF m.done] 47);have hb0:=a0;have a1:=dX (w.alloc (aH #[ah aA m.id,ah aA m.n,aj A.ra m.rows.length A.rc,aj A.sa m.dR.length A.sc,aF m.done] 47)) (aH #[ah aA fr] 2);have hb1:=eP hb0 a1;have a2:=dX ((w.alloc (aH #[ah aA m.id,ah aA m.n,aj A.ra m.rows.length A.rc,aj A.sa m.dR.length A.sc,aF m.done] 47)).alloc (aH #[ah aA fr] 2)) (aH #[ah aA r.ver,aj Ar.ta r.txt.length Ar.tc,aj Ar.ga r.got.length Ar.gc,aj Ar.sa r.dQ.length Ar.sc,aF r.wed,aF r.dV,ah aA r.dW,aj Ar.ma r.dU.length Ar.mc] 44);have hb2:=eP hb1 a2;have a3:=dX (((w.alloc (aH #[ah aA m.id,ah aA m.n,aj A.ra m.rows.length A.rc,aj A.sa m.dR.length A.sc,aF m.done] 47)).alloc (aH #[ah aA fr] 2)).alloc (aH #[ah aA r.ver,aj Ar.ta r.txt.length Ar.tc,aj Ar.ga r.got.length Ar.gc,aj Ar.sa r.dQ.length Ar.sc,aF r.wed,aF r.dV,ah aA r.dW,aj Ar.ma r.dU.length Ar.mc] 44)) (aH #[ah aA 0,ah aA 0,aj ak 0 0,aj ak 0 0,aF aC] 47);have hb3:=eP hb2 a3
 have hx0:Bx ((((w.alloc (aH #[ah aA m.id,ah aA m.n,aj A.ra m.rows.length A.rc,aj A.sa m.dR.length A.sc,aF m.done] 47)).alloc (aH #[ah aA fr] 2)).alloc (aH #[ah aA r.ver,aj Ar.ta r.txt.length Ar.tc,aj Ar.ga r.got.length Ar.gc,aj Ar.sa r.dQ.length Ar.sc,aF r.wed,aF r.dV,ah aA r.dW,aj Ar.ma r.dU.length Ar.mc] 44)).alloc (aH #[ah aA 0,ah aA 0,aj ak 0 0,aj ak 0 0,aF aC] 47)) (w.heap.size) 47 #[ah aA m.id,ah aA m.n,aj A.ra m.rows.length A.rc,aj A.sa m.dR.length A.sc,aF m.done]:=by
  have:=(((Bx.new w 47 #[ah aA m.id,ah aA m.n,aj A.ra m.rows.length A.rc,aj A.sa m.dR.length A.sc,aF m.done]).alloc (aH #[ah aA fr] 2)).alloc (aH #[ah aA r.ver,aj Ar.ta r.txt.length Ar.tc,aj Ar.ga r.got.length Ar.gc,aj Ar.sa r.dQ.length Ar.sc,aF r.wed,aF r.dV,ah aA r.dW,aj Ar.ma r.dU.length Ar.mc] 44)).alloc (aH #[ah aA 0,ah aA 0,aj ak 0 0,aj ak 0 0,aF aC] 47);try simp only[aU1] at this
  exact this
 have hx1:Bx ((((w.alloc (aH #[ah aA m.id,ah aA m.n,aj A.ra m.rows.length A.rc,aj A.sa m.dR.length A.sc,aF m.done] 47)).alloc (aH #[ah aA fr] 2)).alloc (aH #[ah aA r.ver,aj Ar.ta r.txt.length Ar.tc,aj Ar.ga r.got.length Ar.gc,aj Ar.sa r.dQ.length Ar.sc,aF r.wed,aF r.dV,ah aA r.dW,aj Ar.ma r.dU.length Ar.mc] 44)).alloc (aH #[ah aA 0,ah aA 0,aj ak 0 0,aj ak 0 0,aF aC] 47)) (w.heap.size+1) 2 #[ah aA fr]:=by
  have:=((Bx.new (w.alloc (aH #[ah aA m.id,ah aA m.n,aj A.ra m.rows.length A.rc,aj A.sa m.dR.length A.sc,aF m.done] 47)) 2 #[ah aA fr]).alloc (aH #[ah aA r.ver,aj Ar.ta r.txt.length Ar.tc,aj Ar.ga r.got.length Ar.gc,aj Ar.sa r.dQ.length Ar.sc,aF r.wed,aF r.dV,ah aA r.dW,aj Ar.ma r.dU.length Ar.mc] 44)).alloc (aH #[ah aA 0,ah aA 0,aj ak 0 0,aj ak 0 0,aF aC] 47);try simp only[aU1] at this
  exact this
 have hx2:Bx ((((w.alloc (aH #[ah aA m.id,ah aA m.n,aj A.ra m.rows.length A.rc,aj A.sa m.dR.length A.sc,aF m.done] 47)).alloc (aH #[ah aA fr] 2)).alloc (aH #[ah aA r.ver,aj Ar.ta r.txt.length Ar.tc,aj Ar.ga r.got.length Ar.gc,aj Ar.sa r.dQ.length Ar.sc,aF r.wed,aF r.dV,ah aA r.dW,aj Ar.ma r.dU.length Ar.mc] 44)).alloc (aH #[ah aA 0,ah aA 0,aj ak 0 0,aj ak 0 0,aF aC] 47)) (w.heap.size+1+1) 44 #[ah aA r.ver,aj Ar.ta r.txt.length Ar.tc,aj Ar.ga r.got.length Ar.gc,aj Ar.sa r.dQ.length Ar.sc,aF r.wed,aF r.dV,ah aA r.dW,aj Ar.ma r.dU.length Ar.mc]:=by
  have:=(Bx.new ((w.alloc (aH #[ah aA m.id,ah aA m.n,aj A.ra m.rows.length A.rc,aj A.sa m.dR.length A.sc,aF m.done] 47)).alloc (aH #[ah aA fr] 2)) 44 #[ah aA r.ver,aj Ar.ta r.txt.length Ar.tc,aj Ar.ga r.got.length Ar.gc,aj Ar.sa r.dQ.length Ar.sc,aF r.wed,aF r.dV,ah aA r.dW,aj Ar.ma r.dU.length Ar.mc]).alloc (aH #[ah aA 0,ah aA 0,aj ak 0 0,aj ak 0 0,aF aC] 47);try simp only[aU1] at this
  exact this
 have hx3:Bx ((((w.alloc (aH #[ah aA m.id,ah aA m.n,aj A.ra m.rows.length A.rc,aj A.sa m.dR.length A.sc,aF m.done] 47)).alloc (aH #[ah aA fr] 2)).alloc (aH #[ah aA r.ver,aj Ar.ta r.txt.length Ar.tc,aj Ar.ga r.got.length Ar.gc,aj Ar.sa r.dQ.length Ar.sc,aF r.wed,aF r.dV,ah aA r.dW,aj Ar.ma r.dU.length Ar.mc] 44)).alloc (aH #[ah aA 0,ah aA 0,aj ak 0 0,aj ak 0 0,aF aC] 47)) (w.heap.size+1+1+1) 47 #[ah aA 0,ah aA 0,aj ak 0 0,aj ak 0 0,aF aC]:=by
  have:=Bx.new (((w.alloc (aH #[ah aA m.id,ah aA m.n,aj A.ra m.rows.length A.rc,aj A.sa m.dR.length A.sc,aF m.done] 47)).alloc (aH #[ah aA fr] 2)).alloc (aH #[ah aA r.ver,aj Ar.ta r.txt.length Ar.tc,aj Ar.ga r.got.length Ar.gc,aj Ar.sa r.dQ.length Ar.sc,aF r.wed,aF r.dV,ah aA r.dW,aj Ar.ma r.dU.length Ar.mc] 44)) 47 #[ah aA 0,ah aA 0,aj ak 0 0,aj ak 0 0,aF aC];try simp only[aU1] at this
  exact this
 have hP:=hv.below hb3
 have uN:=KP 149 #[aO (au ⟨w.heap.size+1,0,ak⟩),aO (au ⟨w.heap.size+1+1,0,ak⟩)] A m (fG m fr r).1 (fG m fr r).2 ((((w.alloc (aH #[ah aA m.id,ah aA m.n,aj A.ra m.rows.length A.rc,aj A.sa m.dR.length A.sc,aF m.done] 47)).alloc (aH #[ah aA fr] 2)).alloc (aH #[ah aA r.ver,aj Ar.ta r.txt.length Ar.tc,aj Ar.ga r.got.length Ar.gc,aj Ar.sa r.dQ.length Ar.sc,aF r.wed,aF r.dV,ah aA r.dW,aj Ar.ma r.dU.length Ar.mc] 44)).alloc (aH #[ah aA 0,ah aA 0,aj ak 0 0,aj ak 0 0,aF aC] 47)) hP (fun _ _=>enters_of Tryz.func149 (by kernel_rfl) rfl _ _)
  (fun hok hf => by
   obtain⟨i,n,ok⟩:=lH.1 hok;have:=(tJ ok fr r).1;rw[this.hn,this.len])
  (fun X B fp i n hX hpl ok hd => ae1 B fr Ar r (w.heap.size + 1) (w.heap.size + 1 + 1) X _ ((hx1.below hX).at 0 rfl) (hx2.below hX) (ad9 B m i n fr Ar r fp X hpl ok hd ((nD.below hb3).below hX)) (fun e w' h => by
   rcases h with ⟨_,h,_⟩|⟨_,h,_⟩
   ·exact .inl h
   ·exact .inr h))
 have HZ0:=Yl m fr r;clear nD;unfold iL ig at uN;have hWl:=hx3.lt;obtain⟨c0,c1,c2,c3,c4⟩:=Bx.r5 hx0;have HR0:=dP hx3;have HB0:=dP hb3;have HZ:=dP HZ0;clear a0 a1 a2 a3 hb0 hb1 hb2 hb3 hx0 hx1 hx2 hx3 hP hv HZ0;unfold iL ig iK fP;generalize uj m (fG m fr r).1 (fG m fr r).2=pm at *;go_enter Tryz.func111,Tryz.ntmps111
 go_wp2_with fail
 generalize ((((w.alloc (aH #[ah aA m.id,ah aA m.n,aj A.ra m.rows.length A.rc,aj A.sa m.dR.length A.sc,aF m.done] 47)).alloc (aH #[ah aA fr] 2)).alloc (aH #[ah aA r.ver,aj Ar.ta r.txt.length Ar.tc,aj Ar.ga r.got.length Ar.gc,aj Ar.sa r.dQ.length Ar.sc,aF r.wed,aF r.dV,ah aA r.dW,aj Ar.ma r.dU.length Ar.mc] 44)).alloc (aH #[ah aA 0,ah aA 0,aj ak 0 0,aj ak 0 0,aF aC] 47))=W0 at *;refine uN.mono ?_;rintro e w1 ⟨A2,rfl,fp,hl,hf,hb⟩;have hR:=HR0.out.below hb;have hsz:=hb.size
 have HN:aG (∀ {z0 z1 z2 z3 z4:aJ},kW w (((((w1.setCell ⟨w.heap.size+1+1+1,0,ak⟩ z0).setCell ⟨w.heap.size+1+1+1,1,ak⟩ z1).setCell ⟨w.heap.size+1+1+1,2,ak⟩ z2).setCell ⟨w.heap.size+1+1+1,3,ak⟩ z3).setCell ⟨w.heap.size+1+1+1,4,ak⟩ z4) (jA pm.1) (jB A2 pm.1)):=fun {z0 z1 z2 z3 z4}=>by
  have hB1:=eP HB0.out hb;exact⟨fp,gU hl (qN w1 (w.heap.size+1+1+1)) (fun x hx e=>by have:=hf x hx;omega),fun x hx=>by have:=hf x hx;omega,(qN w1 (w.heap.size+1+1+1)).below hB1 hB1.size (fun x e=>by omega)⟩
 obtain⟨z0,z1,z2,z3,z4⟩:=Bx.r5 hR;obtain⟨r0,r1,r2,r3,r4⟩:=hR.f5;clear uN hl hf hb hR c0 c1 c2 c3 c4;unfold iL ig;go_wp2;refine aY1 (v:=.tuple #[iL A2 pm.1,aF pm.2]) (by simp[results,Tryz.results111,go_sem,iL,ig, *]) rfl ?_
 rw[HZ.out];exact⟨_,rfl,HN.out⟩
end
end Go.Proofs.YtafimeakbdmkjaaGreat