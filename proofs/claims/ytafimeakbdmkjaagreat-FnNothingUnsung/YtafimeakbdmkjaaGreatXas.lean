/-
  Texts in one.
-/
import Derived.Test.YtafimeakbdmkjaaGreatXaa
import Derived.Test.YtafimeakbdmkjaaGreatXaq
import Derived.Test.YtafimeakbdmkjaaGreatXar
import Derived.Test.YtafimeakbdmkjaaGreatXah
import Derived.Test.YtafimeakbdmkjaaGreatXag
import Derived.Test.YtafimeakbdmkjaaGreatXae
import Derived.Test.YtafimeakbdmkjaaGreatXai
import Derived.Test.YtafimeakbdmkjaaGreatXan
namespace Go.Proofs.YtafimeakbdmkjaaGreat
open Bool renaming false->aC,true->aB
open Go renaming Addr->dH,Calls->dF,Value->aJ,World->aI,bodyPost_ret->bY,maxLen->dD,wpQuiet_nil->dh
open Go.Builtin renaming append_->bU
open Go.Ending renaming returned->aK
open Go.IntKind renaming i64->aA
open Go.Obj renaming cells->aH
open Go.Proofs.Tryz renaming prog->dA
open Go.RowKit renaming Hid->aG,intOf->dG
open Go.RowKit.Below renaming refl->dw
open Go.Value renaming agg->aP,bool->aF,int->ah,pointer->aO,slice->aj
open Go.World renaming cell?_of_block->bf,size_alloc->bH
open List renaming length_append->bD,length_take->bM,mem_iff_getElem->bg,take_succ_eq_append_getElem->aQ
open Nat renaming le_trans->bZ,zero_le->cZ
open Option renaming none->ak,some->au
set_option linter.unusedVariables false
set_option linter.unusedSimpArgs false
open Go.RowKit Go.Sort
set_option maxRecDepth 100000
set_option maxHeartbeats 12800000
variable {X X1 w:aI} {a:Option dH} {B c i j n:Nat} {f fr:Fp} {m:Mb} {A:Ma}
theorem ao5 (v : Value) (w : World) : (Go.method 326 47 v "loop.example/g00266/impl.anew").run Tryz.prog w = .ok (165, v) w := by kernel_rfl
theorem ao6 (v : Value) (w : World) : (Go.method 326 68 v "loop.example/g00266/impl.anew").run Tryz.prog w = .ok (216, v) w := by kernel_rfl
def aG7 (w w':aI) (e:Ending) (x:Ml):Prop:=∃ A:Ra,e=aK (.agg (yU x A))/\kE w w' (jM x.row) (jr A x.row)
theorem Xw (w:aI) (g:Nat) {z0 z1 z2 z3 z4 z5 z6 z7 z8 z9: aJ}:eX (fun x=>x=g) w ((((((((((w.setCell ⟨g,0,ak⟩ z0).setCell ⟨g,1,ak⟩ z1).setCell ⟨g,2,ak⟩ z2).setCell ⟨g,3,ak⟩ z3).setCell ⟨g,4,ak⟩ z4).setCell ⟨g,5,ak⟩ z5).setCell ⟨g,6,ak⟩ z6).setCell ⟨g,7,ak⟩ z7).setCell ⟨g,8,ak⟩ z8).setCell ⟨g,9,ak⟩ z9):=by
 have t:∀ {X:aI} {j:Nat} {v:aJ},eX (fun x=>x=g) w X->eX (fun x=>x=g) w (X.setCell ⟨g,j,ak⟩ v):=fun h=>h.trans (eX.set _ g _ _) (fun _ _ h=>h)
 exact t (t (t (t (t (t (t (t (t (eX.set w g 0 z0)))))))))
theorem ao7 (Ak:Ra) (x:Ml) (w:aI) (hv:ql w Ak x.row) (hg:0<x.row.got.length) (hs:kH x.row<=1000) :
  dF dA 216 #[aP #[ah aA x.fr,ah aA x.to,ah aA x.row.ver,aj Ak.ta x.row.txt.length Ak.tc,aj Ak.ga x.row.got.length Ak.gc,aj Ak.sa x.row.dQ.length Ak.sc,aF x.row.wed,aF x.row.dV,ah aA x.row.dW,aj Ak.ma x.row.dU.length Ak.mc]] w fun e w'=>aG7 w w' e x:=by
 have gq:=iD;have hb1:=dX w (aH #[ah aA x.fr,ah aA x.to,ah aA x.row.ver,aj Ak.ta x.row.txt.length Ak.tc,aj Ak.ga x.row.got.length Ak.gc,aj Ak.sa x.row.dQ.length Ak.sc,aF x.row.wed,aF x.row.dV,ah aA x.row.dW,aj Ak.ma x.row.dU.length Ak.mc] 68);have hb2:=dX (w.alloc (aH #[ah aA x.fr,ah aA x.to,ah aA x.row.ver,aj Ak.ta x.row.txt.length Ak.tc,aj Ak.ga x.row.got.length Ak.gc,aj Ak.sa x.row.dQ.length Ak.sc,aF x.row.wed,aF x.row.dV,ah aA x.row.dW,aj Ak.ma x.row.dU.length Ak.mc] 68)) (aH #[ah aA 0,ah aA 0,ah aA 0,aj ak 0 0,aj ak 0 0,aj ak 0 0,aF aC,aF aC,ah aA 0,aj ak 0 0] 68);have hx1:Bx ((w.alloc (aH #[ah aA x.fr,ah aA x.to,ah aA x.row.ver,aj Ak.ta x.row.txt.length Ak.tc,aj Ak.ga x.row.got.length Ak.gc,aj Ak.sa x.row.dQ.length Ak.sc,aF x.row.wed,aF x.row.dV,ah aA x.row.dW,aj Ak.ma x.row.dU.length Ak.mc] 68)).alloc (aH #[ah aA 0,ah aA 0,ah aA 0,aj ak 0 0,aj ak 0 0,aj ak 0 0,aF aC,aF aC,ah aA 0,aj ak 0 0] 68)) w.heap.size 68 #[ah aA x.fr,ah aA x.to,ah aA x.row.ver,aj Ak.ta x.row.txt.length Ak.tc,aj Ak.ga x.row.got.length Ak.gc,aj Ak.sa x.row.dQ.length Ak.sc,aF x.row.wed,aF x.row.dV,ah aA x.row.dW,aj Ak.ma x.row.dU.length Ak.mc]:=(Bx.new w _ _).alloc _
 have hx2:Bx ((w.alloc (aH #[ah aA x.fr,ah aA x.to,ah aA x.row.ver,aj Ak.ta x.row.txt.length Ak.tc,aj Ak.ga x.row.got.length Ak.gc,aj Ak.sa x.row.dQ.length Ak.sc,aF x.row.wed,aF x.row.dV,ah aA x.row.dW,aj Ak.ma x.row.dU.length Ak.mc] 68)).alloc (aH #[ah aA 0,ah aA 0,ah aA 0,aj ak 0 0,aj ak 0 0,aj ak 0 0,aF aC,aF aC,ah aA 0,aj ak 0 0] 68)) (w.heap.size+1) 68 #[ah aA 0,ah aA 0,ah aA 0,aj ak 0 0,aj ak 0 0,aj ak 0 0,aF aC,aF aC,ah aA 0,aj ak 0 0]:=by
  have:=Bx.new (w.alloc (aH #[ah aA x.fr,ah aA x.to,ah aA x.row.ver,aj Ak.ta x.row.txt.length Ak.tc,aj Ak.ga x.row.got.length Ak.gc,aj Ak.sa x.row.dQ.length Ak.sc,aF x.row.wed,aF x.row.dV,ah aA x.row.dW,aj Ak.ma x.row.dU.length Ak.mc] 68)) 68 #[ah aA 0,ah aA 0,ah aA 0,aj ak 0 0,aj ak 0 0,aj ak 0 0,aF aC,aF aC,ah aA 0,aj ak 0 0];simp only[bH] at this;exact this
 have pK:=eU hb1 hb2;have hsz:w.heap.size+2=((w.alloc (aH #[ah aA x.fr,ah aA x.to,ah aA x.row.ver,aj Ak.ta x.row.txt.length Ak.tc,aj Ak.ga x.row.got.length Ak.gc,aj Ak.sa x.row.dQ.length Ak.sc,aF x.row.wed,aF x.row.dV,ah aA x.row.dW,aj Ak.ma x.row.dU.length Ak.mc] 68)).alloc (aH #[ah aA 0,ah aA 0,ah aA 0,aj ak 0 0,aj ak 0 0,aj ak 0 0,aF aC,aF aC,ah aA 0,aj ak 0 0] 68)).heap.size:=by simp only[bH]
 have qH:=dP hx1;have l9:=dP hx2;have HB:=dP pK;have HV:=dP hv;have Bh:=dP hsz;clear hb1 hb2 hx1 hx2 pK hsz hv;go_enter Tryz.func216,Tryz.ntmps216
 go_upto_region 1 with fail
 generalize (w.alloc (aH #[ah aA x.fr,ah aA x.to,ah aA x.row.ver,aj Ak.ta x.row.txt.length Ak.tc,aj Ak.ga x.row.got.length Ak.gc,aj Ak.sa x.row.dQ.length Ak.sc,aF x.row.wed,aF x.row.dV,ah aA x.row.dW,aj Ak.ma x.row.dU.length Ak.mc] 68)).alloc (aH #[ah aA 0,ah aA 0,ah aA 0,aj ak 0 0,aj ak 0 0,aj ak 0 0,aF aC,aF aC,ah aA 0,aj ak 0 0] 68)=W0 at *;have hbd:=(Same.drewN W0 1).below
 have KS:∀ Z,Below W0.heap.size W0 Z->Z.cell? ⟨w.heap.size,0,ak⟩=au (ah aA x.fr)/\Z.cell? ⟨w.heap.size,1,ak⟩=au (ah aA x.to)/\Z.cell? ⟨w.heap.size,2,ak⟩=au (ah aA x.row.ver)/\Z.cell? ⟨w.heap.size,3,ak⟩=au (aj Ak.ta x.row.txt.length Ak.tc)/\Z.cell? ⟨w.heap.size,4,ak⟩=au (aj Ak.ga x.row.got.length Ak.gc)/\Z.cell? ⟨w.heap.size,5,ak⟩=au (aj Ak.sa x.row.dQ.length Ak.sc)/\Z.cell? ⟨w.heap.size,6,ak⟩=au (aF x.row.wed)/\Z.cell? ⟨w.heap.size,7,ak⟩=au (aF x.row.dV)/\Z.cell? ⟨w.heap.size,8,ak⟩=au (ah aA x.row.dW)/\Z.cell? ⟨w.heap.size,9,ak⟩=au (aj Ak.ma x.row.dU.length Ak.mc):=fun Z hZ=>by
  obtain⟨⟨a0,a1,a2,a3,a4⟩,a5,a6,a7,a8,a9⟩:=Bx.DJ (qH.out.below hZ);exact⟨a0,a1,a2,a3,a4,a5,a6,a7,a8,a9⟩
 have hAn:=CW Ak x.row W0.drew ((HV.out.below HB.out).below hbd) hg hs;unfold iK fQ at hAn;refine lU (S:=fun Z:aI=>Z.cell? ⟨w.heap.size,0,ak⟩=au (ah aA x.fr)/\Z.cell? ⟨w.heap.size,1,ak⟩=au (ah aA x.to)/\Z.cell? ⟨w.heap.size,2,ak⟩=au (ah aA x.row.ver)/\Z.cell? ⟨w.heap.size,3,ak⟩=au (aj Ak.ta x.row.txt.length Ak.tc)/\Z.cell? ⟨w.heap.size,4,ak⟩=au (aj Ak.ga x.row.got.length Ak.gc)/\Z.cell? ⟨w.heap.size,5,ak⟩=au (aj Ak.sa x.row.dQ.length Ak.sc)/\Z.cell? ⟨w.heap.size,6,ak⟩=au (aF x.row.wed)/\Z.cell? ⟨w.heap.size,7,ak⟩=au (aF x.row.dV)/\Z.cell? ⟨w.heap.size,8,ak⟩=au (ah aA x.row.dW)/\Z.cell? ⟨w.heap.size,9,ak⟩=au (aj Ak.ma x.row.dU.length Ak.mc)) 8 gq ((KS _ hbd)) fun hHeld=>?_
 refine fC (i:=0) rfl hHeld ?_;refine fC (i:=1) rfl hHeld ?_;refine fC (i:=2) rfl hHeld ?_;refine fC (i:=3) rfl hHeld ?_;refine fC (i:=4) rfl hHeld ?_;refine fC (i:=5) rfl hHeld ?_;refine iJ (i:=6) rfl fun K hK=>?_
 go_simp
 go_at_call 141
 refine hAn.mono ?_;rintro e V1 ⟨Ar,rfl,fr,hr1,hr2,hr3⟩;have uM:=eU hbd hr3;refine hK.out _ _ (KS _ uM) (fun eP=>?_)
 clear hK hHeld;have hHeld:=eP;try simp only[iC]
 unfold iK fQ;refine fE (i:=7) rfl ?_;have hR:=l9.out.below uM;obtain⟨⟨t0,t1,t2,t3,t4⟩,t5,t6,t7,t8,t9⟩:=Bx.DJ hR;obtain⟨⟨f0,f1,f2,f3,f4⟩,f5,f6,f7,f8,f9⟩:(V1.frozen? ⟨w.heap.size+1,0,ak⟩=aC/\V1.frozen? ⟨w.heap.size+1,1,ak⟩=aC/\V1.frozen? ⟨w.heap.size+1,2,ak⟩=aC/\V1.frozen? ⟨w.heap.size+1,3,ak⟩=aC/\V1.frozen? ⟨w.heap.size+1,4,ak⟩=aC)/\V1.frozen? ⟨w.heap.size+1,5,ak⟩=aC/\V1.frozen? ⟨w.heap.size+1,6,ak⟩=aC/\V1.frozen? ⟨w.heap.size+1,7,ak⟩=aC/\V1.frozen? ⟨w.heap.size+1,8,ak⟩=aC/\V1.frozen? ⟨w.heap.size+1,9,ak⟩=aC:=⟨hR.f5,hR.f 5,hR.f 6,hR.f 7,hR.f 8,hR.f 9⟩
 have HN:aG (∀ {z0 z1 z2 z3 z4 z5 z6 z7 z8 z9:aJ},kE w ((((((((((V1.setCell ⟨w.heap.size+1,0,ak⟩ z0).setCell ⟨w.heap.size+1,1,ak⟩ z1).setCell ⟨w.heap.size+1,2,ak⟩ z2).setCell ⟨w.heap.size+1,3,ak⟩ z3).setCell ⟨w.heap.size+1,4,ak⟩ z4).setCell ⟨w.heap.size+1,5,ak⟩ z5).setCell ⟨w.heap.size+1,6,ak⟩ z6).setCell ⟨w.heap.size+1,7,ak⟩ z7).setCell ⟨w.heap.size+1,8,ak⟩ z8).setCell ⟨w.heap.size+1,9,ak⟩ z9) (jM x.row) (jr Ar x.row)):=fun {z0 z1 z2 z3 z4 z5 z6 z7 z8 z9}=>by
  have hB1:=eU HB.out uM;have hd:W0.drew.heap.size=W0.heap.size:=rfl;have hs:=Bh.out;exact⟨fr,iy hr1 (Xw V1 (w.heap.size+1)) (fun b hb e=>by have:=hr2 b hb;omega),fun b hb=>by have:=hr2 b hb;omega,(Xw V1 (w.heap.size+1)).below hB1 hB1.size (fun b e=>by omega)⟩
 refine oV rfl fun K hK=>?_
 go_simp;refine hK.out _ _ ?_;clear hK hHeld hr1 hr2 hr3 uM hbd KS hAn hR f0 f1 f2 f3 f4 f5 f6 f7 f8 f9;try go_wp2
 refine bY (v:=.agg (yU x Ar)) (by simp[results,Tryz.results216,go_sem,yU, *]) rfl ?_
 exact⟨_,rfl,HN.out⟩
theorem Xx {R: List Mb} (h:dY.ow X (iH 5 jY R) (aj a R.length c) f) (hb:Below X.heap.size X X1) {Ar: Ma} (hr:gB X1 (jB m) (jC Ar m) fr) (hfr:∀ b,fr b->X.heap.size<=b) (hl:R.length<=1000000) :
  ∀ Y,Same Y (X1.alloc (aH (iq Ar m) 47))->∃ v' w4,(bU #[24,24] 24 #[aj a R.length c,aj (au ⟨X1.heap.size,0,ak⟩) 1 1]).run dA Y=.ok v' w4 /\
   ∃ a' c' f',v'=aj a' (R.length+1) c'/\dY.ow w4 (iH 5 jY (R++[m])) (aj a' (R++[m]).length c') f'/\(∀ b,f' b->f b\/X.heap.size<=b)/\eX f X w4:=by
 intro Y hY;have lg:=(dX X1 _).trans (hY.below.mono (dX X1 _).size);have h2:=dY.ig (dY.ig h hb) lg;have uQ:=II (gG hr lg);have hpl:=dY.kW h;have BX:=hb.size;obtain⟨a',c',w4,fp',k1,k2,k3,k4⟩:=sW (P:=dA) uz (w:=Y) 24 24 47 _ 72 Tryz.underlying24 Tryz.infoMb rfl (by omega) (x:=m) h2 uQ (fun b hb1 hb2=>by have:=hpl b hb1;have:=hfr b hb2;omega) (tu uQ (Rz m)) X1.heap.size 47 (by rw[hY.heap];exact heap_alloc_new X1 _) (by unfold dD;omega) (by omega)
 have hYs:X1.heap.size<Y.heap.size:=by rw[hY.size];simp
 have sZ:=eU hb lg;refine⟨_,w4,k1,a',c',fp',rfl,by rw[bD];exact k2,fun b hb1=>?_,(eX.of_below sZ).trans k3 (fun b _ h=>h)⟩
 rcases k4 b hb1 with k|k|k
 ·exact .inl k
 ·exact .inr (hfr b k)
 ·exact .inr (by omega)
theorem Xy {R: List Ml} (h:dY.ow X (iH 10 kS R) (aj a R.length c) f) (hb:Below X.heap.size X X1) {x: Ml} {Ar: Ra} (hr:gB X1 (jM x.row) (jr Ar x.row) fr) (hfr:∀ b,fr b->X.heap.size<=b) (hl:R.length<=1000000) :
  ∀ Y,Same Y (X1.alloc (aH (yU x Ar) 68))->∃ v' w4,(bU #[26,26] 26 #[aj a R.length c,aj (au ⟨X1.heap.size,0,ak⟩) 1 1]).run dA Y=.ok v' w4 /\
   ∃ a' c' f',v'=aj a' (R.length+1) c'/\dY.ow w4 (iH 10 kS (R++[x])) (aj a' (R++[x]).length c') f'/\(∀ b,f' b->f b\/X.heap.size<=b)/\eX f X w4:=by
 intro Y hY;have lg:=(dX X1 _).trans (hY.below.mono (dX X1 _).size);have h2:=dY.ig (dY.ig h hb) lg;have uQ:=JX (gG hr lg);have hpl:=dY.kW h;have BX:=hb.size;obtain⟨a',c',w4,fp',k1,k2,k3,k4⟩:=sW (P:=dA) rD (w:=Y) 26 26 68 _ 136 Tryz.underlying26 Tryz.infoMl rfl (by omega) (x:=x) h2 uQ (fun b hb1 hb2=>by have:=hpl b hb1;have:=hfr b hb2;omega) (tu uQ (zK x)) X1.heap.size 68 (by rw[hY.heap];exact heap_alloc_new X1 _) (by unfold dD;omega) (by omega)
 have hYs:X1.heap.size<Y.heap.size:=by rw[hY.size];simp
 have sZ:=eU hb lg;refine⟨_,w4,k1,a',c',fp',rfl,by rw[bD];exact k2,fun b hb1=>?_,(eX.of_below sZ).trans k3 (fun b _ h=>h)⟩
 rcases k4 b hb1 with k|k|k
 ·exact .inl k
 ·exact .inr (hfr b k)
 ·exact .inr (by omega)
theorem ao8 (A:Ga) (g:Gr) (n:Nat) (w:aI) (hv:uU w A g) (ok:OkG g n) :
  dF dA 67 #[aj A.ma g.mem.length A.mc] w fun e w'=>∃ a c,e=aK (aj a g.mem.length c)/\oN w w' (iH 5 jY g.mem) (aj a g.mem.length c):=by
 have hb0:=dX w (aH #[] 47);have HB0:=dP hb0;have jv:aG (dY.ow (w.alloc (aH #[] 47)) (iH 5 jY []) (aj (au ⟨w.heap.size,0,ak⟩) 0 0) (fun _=>False)):=⟨au ⟨w.heap.size,0,ak⟩,0,[],ak,fun _=>False,rfl,iQ.nil _ _ (kL _ _),⟨rfl,fun _ h=>h⟩,fun _ _ h=>h,fun b=>by simp⟩
 have HV:=dP hv;have iE:=dP ok;have hl5:g.mem.length<=200:=by rw[ok.ml];have:=ok.n5;omega
 clear hb0 hv ok;go_enter Tryz.func67,Tryz.ntmps67
 go_wp2_with fail
 generalize w.alloc (aH #[] 47)=W0 at *
 go_loopw [3,9] (fun v k wr=>∃ (j:Nat) (a:Option dH) (cc:Nat) (Z:List Mb) (fz:Fp),j<=g.mem.length/\k=ah aA (j:Int)/\v=aj a Z.length cc/\aG (Z=g.mem.take j)/\dY.ow wr (iH 5 jY Z) (aj a Z.length cc) fz/\(∀ b,fz b->w.heap.size<=b)/\Below w.heap.size w wr) (fun _ k _=>g.mem.length-(dG k).toNat)
 case atStart=>exact⟨0,some ⟨w.heap.size,0,none⟩,0,[],_,cZ _,rfl,rfl,rfl,jv.out,fun b h=>h.elim,HB0.out⟩
 case round =>
  obtain⟨j,a,cc,Z,fz,hj,rfl,rfl,hZ,hO,hfz,hb⟩:=hrel;by_cases hlt:j<g.mem.length
  ·have k1:(j:Int)<g.mem.length:=by omega
   have k0:(0:Int)<=j:=by omega
   obtain⟨gb,off,Ak,hra,⟨d0,d1,d2,d3,d4⟩,nM⟩:=(HV.out.below hb).member hlt;have Fv:=iE.out.mem j (by rw[<- iE.out.ml];exact hlt)
   have hrk:∀ k,k<(eF g j).rows.length->0<(dO (eF g j).rows k).got.length/\kH (dO (eF g j).rows k)<=1000:=fun k hk=>by
    have h:=Fv.ok k (by rw[<- Fv.len];exact hk)
    have:=h.n5;exact⟨by rw[h.gl];omega,by have:=h.c8.2;omega⟩
   have hr5:(eF g j).rows.length<=5:=by rw[Fv.len];have:=Fv.n5;omega
   have hs6:(eF g j).dR.length<=100:=by have:=Fv.sl;omega
   clear Fv
   have HN:aG (Z++[eF g j]=g.mem.take (j+1)):=by
    rw[aG,hZ.out,aQ hlt];simp[eF,List.getD,hlt]
   have zN:Z.length<=1000000:=bZ (by rw[hZ.out,bM];omega:Z.length<=200) (by decide)
   rw[hra];have HRa:=dP hra;generalize eF g j=m at *;have hba:=dX wr (aH #[ah aA m.id,ah aA m.n,aj Ak.ra m.rows.length Ak.rc,aj Ak.sa m.dR.length Ak.sc,aF m.done] 47);have hxr:=Bx.new wr 47 #[ah aA m.id,ah aA m.n,aj Ak.ra m.rows.length Ak.rc,aj Ak.sa m.dR.length Ak.sc,aF m.done];have mZ:=dP hba;have HB:=dP hb;have HO:=dP (dY.ig hO hba);have hAn:=S9 Ak m (wr.alloc (aH #[ah aA m.id,ah aA m.n,aj Ak.ra m.rows.length Ak.rc,aj Ak.sa m.dR.length Ak.sc,aF m.done] 47)) (nM.below hba) hrk hr5 hs6;unfold iU iq at hAn;obtain⟨x0,x1,x2,x3,x4⟩:=Bx.r5 hxr;clear nM hb hO hxr hba hra;go_upto_region 5 with fail
   clear d0 d1 d2 d3 d4;generalize wr.alloc (aH #[ah aA m.id,ah aA m.n,aj Ak.ra m.rows.length Ak.rc,aj Ak.sa m.dR.length Ak.sc,aF m.done] 47)=W5 at *;have hmt:=ao5 (aP #[ah aA m.id,ah aA m.n,aj Ak.ra m.rows.length Ak.rc,aj Ak.sa m.dR.length Ak.sc,aF m.done]);go_wp2_with fail
   refine hAn.mono ?_;rintro e V1 ⟨Ar,rfl,fr,hr1,hr2,hr3⟩;have hA:=Xx HO.out hr3 hr1 hr2 zN;have HR3:=dP hr3;have HR2:=dP hr3.size;have Xv:=dP mZ.out.size;clear hAn hmt x0 x1 x2 x3 x4 hr1 hr2 hr3;unfold iU;unfold iq at hA ⊢;go_wp2_with (at_builtin;refine fG (by rfl) _ _ _ _ (by rfl) _ _ (by rfl) (by rfl) hA ⟨rfl,rfl,rfl,rfl⟩ ?_;rintro v1 w1 ⟨a1,e1,f1,rfl,q1,q2,q3⟩;have tN:aG (dY.ow w1 (iH 5 jY (Z++[m])) (aj a1 (Z++[m]).length e1) f1):=q1;have zO:aG (∀ b,f1 b->fz b\/W5.heap.size<=b):=q2;have zQ:aG (eX fz W5 w1):=q3;clear q1 q2 q3 hA)
   have HL:aG ((Z++[m]).length=Z.length+1):=by rw[aG,bD];rfl
   have hs1:=HB.out.size;have hs2:=Xv.out;go_roundw
   case rel=>exact⟨j+1,a1,e1,Z++[m],f1,by omega,by go_num,by rw[HL.out],HN.out,tN.out,fun b hb=>(zO.out b hb).elim (hfz b) (fun h=>by omega),zQ.out.below (eU HB.out mZ.out) (by omega) (fun b hb=>hfz b hb)⟩
   case measure=>simp[dG];omega
  ·have k1:¬ ((j:Int)<g.mem.length):=by omega
   have eZ:Z=g.mem:=by rw[hZ.out,show j=g.mem.length by omega,List.take_length]
   subst eZ;have HO:aG (oN w wr (iH 5 jY g.mem) (aj a g.mem.length cc)):=⟨fz,hO,hfz,hb⟩;clear hO hb hZ;go_wp2;go_ret
   exact⟨a,cc,rfl,HO.out⟩
theorem ao9 (A:Ga) (g:Gr) (n:Nat) (w:aI) (hv:uU w A g) (ok:OkG g n) :
  dF dA 69 #[aj A.la g.dS.length A.lc] w fun e w'=>∃ a c,e=aK (aj a g.dS.length c)/\oN w w' (iH 10 kS g.dS) (aj a g.dS.length c):=by
 have hb0:=dX w (aH #[] 68);have HB0:=dP hb0;have jv:aG (dY.ow (w.alloc (aH #[] 68)) (iH 10 kS []) (aj (au ⟨w.heap.size,0,ak⟩) 0 0) (fun _=>False)):=⟨au ⟨w.heap.size,0,ak⟩,0,[],ak,fun _=>False,rfl,iQ.nil _ _ (kL _ _),⟨rfl,fun _ h=>h⟩,fun _ _ h=>h,fun b=>by simp⟩
 have HV:=dP hv;have iE:=dP ok;have hl5:g.dS.length<=200:=by exact ok.pJ
 clear hb0 hv ok;go_enter Tryz.func69,Tryz.ntmps69
 go_wp2_with fail
 generalize w.alloc (aH #[] 68)=W0 at *
 go_loopw [3,9] (fun v k wr=>∃ (j:Nat) (a:Option dH) (cc:Nat) (Z:List Ml) (fz:Fp),j<=g.dS.length/\k=ah aA (j:Int)/\v=aj a Z.length cc/\aG (Z=g.dS.take j)/\dY.ow wr (iH 10 kS Z) (aj a Z.length cc) fz/\(∀ b,fz b->w.heap.size<=b)/\Below w.heap.size w wr) (fun _ k _=>g.dS.length-(dG k).toNat)
 case atStart=>exact⟨0,some ⟨w.heap.size,0,none⟩,0,[],_,cZ _,rfl,rfl,rfl,jv.out,fun b h=>h.elim,HB0.out⟩
 case round =>
  obtain⟨j,a,cc,Z,fz,hj,rfl,rfl,hZ,hO,hfz,hb⟩:=hrel;by_cases hlt:j<g.dS.length
  ·have k1:(j:Int)<g.dS.length:=by omega
   have k0:(0:Int)<=j:=by omega
   obtain⟨gb,off,Ak,hra,d0,d1,⟨⟨d2,d3,d4,d5⟩,d6,d7,d8,d9⟩,nM⟩:=(HV.out.below hb).letter hlt
   have Fv:iR (fF g j).row n:=by
    obtain⟨_,_,_,_,_,_,_,h⟩:=iE.out.kU _ (Fj hlt);exact h
   have hrk:0<(fF g j).row.got.length/\kH (fF g j).row<=1000:=by
    have:=Fv.n5;exact⟨by rw[Fv.gl];omega,by have:=Fv.c8.2;omega⟩
   clear Fv
   have HN:aG (Z++[fF g j]=g.dS.take (j+1)):=by
    rw[aG,hZ.out,aQ hlt];simp[fF,List.getD,hlt]
   have zN:Z.length<=1000000:=bZ (by rw[hZ.out,bM];omega:Z.length<=200) (by decide)
   rw[hra];have HRa:=dP hra;generalize fF g j=x at *;have hba:=dX wr (aH #[ah aA x.fr,ah aA x.to,ah aA x.row.ver,aj Ak.ta x.row.txt.length Ak.tc,aj Ak.ga x.row.got.length Ak.gc,aj Ak.sa x.row.dQ.length Ak.sc,aF x.row.wed,aF x.row.dV,ah aA x.row.dW,aj Ak.ma x.row.dU.length Ak.mc] 68);have hxr:=Bx.new wr 68 #[ah aA x.fr,ah aA x.to,ah aA x.row.ver,aj Ak.ta x.row.txt.length Ak.tc,aj Ak.ga x.row.got.length Ak.gc,aj Ak.sa x.row.dQ.length Ak.sc,aF x.row.wed,aF x.row.dV,ah aA x.row.dW,aj Ak.ma x.row.dU.length Ak.mc];have mZ:=dP hba;have HB:=dP hb;have HO:=dP (dY.ig hO hba);have hAn:=ao7 Ak x (wr.alloc (aH #[ah aA x.fr,ah aA x.to,ah aA x.row.ver,aj Ak.ta x.row.txt.length Ak.tc,aj Ak.ga x.row.got.length Ak.gc,aj Ak.sa x.row.dQ.length Ak.sc,aF x.row.wed,aF x.row.dV,ah aA x.row.dW,aj Ak.ma x.row.dU.length Ak.mc] 68)) (nM.below hba) hrk.1 hrk.2;try unfold yU at hAn
   obtain⟨⟨x0,x1,x2,x3,x4⟩,x5,x6,x7,x8,x9⟩:=Bx.DJ hxr;clear nM hb hO hxr hba hra;go_upto_region 5 with fail
   clear d0 d1 d2 d3 d4 d5 d6 d7 d8 d9;generalize wr.alloc (aH #[ah aA x.fr,ah aA x.to,ah aA x.row.ver,aj Ak.ta x.row.txt.length Ak.tc,aj Ak.ga x.row.got.length Ak.gc,aj Ak.sa x.row.dQ.length Ak.sc,aF x.row.wed,aF x.row.dV,ah aA x.row.dW,aj Ak.ma x.row.dU.length Ak.mc] 68)=W5 at *;have hmt:=ao6 (aP #[ah aA x.fr,ah aA x.to,ah aA x.row.ver,aj Ak.ta x.row.txt.length Ak.tc,aj Ak.ga x.row.got.length Ak.gc,aj Ak.sa x.row.dQ.length Ak.sc,aF x.row.wed,aF x.row.dV,ah aA x.row.dW,aj Ak.ma x.row.dU.length Ak.mc]);go_wp2_with fail
   refine hAn.mono ?_;rintro e V1 ⟨Ar,rfl,fr,hr1,hr2,hr3⟩;have hA:=Xy HO.out hr3 hr1 hr2 zN;have HR3:=dP hr3;have HR2:=dP hr3.size;have Xv:=dP mZ.out.size;clear hAn hmt x0 x1 x2 x3 x4 x5 x6 x7 x8 x9 hr1 hr2 hr3;unfold yU at hA ⊢;go_wp2_with (at_builtin;refine fG (by rfl) _ _ _ _ (by rfl) _ _ (by rfl) (by rfl) hA ⟨rfl,rfl,rfl,rfl⟩ ?_;rintro v1 w1 ⟨a1,e1,f1,rfl,q1,q2,q3⟩;have tN:aG (dY.ow w1 (iH 10 kS (Z++[x])) (aj a1 (Z++[x]).length e1) f1):=q1;have zO:aG (∀ b,f1 b->fz b\/W5.heap.size<=b):=q2;have zQ:aG (eX fz W5 w1):=q3;clear q1 q2 q3 hA)
   have HL:aG ((Z++[x]).length=Z.length+1):=by rw[aG,bD];rfl
   have hs1:=HB.out.size;have hs2:=Xv.out;go_roundw
   case rel=>exact⟨j+1,a1,e1,Z++[x],f1,by omega,by go_num,by rw[HL.out],HN.out,tN.out,fun b hb=>(zO.out b hb).elim (hfz b) (fun h=>by omega),zQ.out.below (eU HB.out mZ.out) (by omega) (fun b hb=>hfz b hb)⟩
   case measure=>simp[dG];omega
  ·have k1:¬ ((j:Int)<g.dS.length):=by omega
   have eZ:Z=g.dS:=by rw[hZ.out,show j=g.dS.length by omega,List.take_length]
   subst eZ;have HO:aG (oN w wr (iH 10 kS g.dS) (aj a g.dS.length cc)):=⟨fz,hO,hfz,hb⟩;clear hO hb hZ;go_wp2;go_ret
   exact⟨a,cc,rfl,HO.out⟩
theorem U0 {L: List Bool} (hv:IX w a L) (hl:L.length<=1000000):∀ Y,Same Y (w.alloc (aH #[] 4))->∃ v' w4,(bU #[25,25] 25 #[aj (au ⟨w.heap.size,0,ak⟩) 0 0,aj a L.length c]).run dA Y=.ok v' w4/\∃ a' c' f',v'=aj a' L.length c'/\dY.ow w4 (vZ L) v' f'/\(∀ b,f' b->w.heap.size<=b)/\Below w.heap.size w w4:=by
 intro Y hY;have mW:=(dX w _).trans (hY.below.mono (dX w _).size);obtain⟨a',c',w4,fp,k1,k2,k3,k4⟩:=EK (w:=Y) (kL w.heap.size 0) (c:=c) (hv.below mW) hl;exact⟨_,w4,k1,a',c',fp,rfl,k2,fun b hb=>by have:=k4 b hb;have:=mW.size;omega,k3.below mW mW.size (fun b h=>h.elim)⟩
theorem ap0 (a:Option dH) (c:Nat) (L:List Bool) (w:aI) (hv:IX w a L) (hl:L.length<=1000000) :
  dF dA 68 #[aj a L.length c] w fun e w'=>∃ a' c',e=aK (aj a' L.length c')/\oN w w' (vZ L) (aj a' L.length c'):=by
 have q25:∀ (w:aI) (a:Option dH) (n c n' c':Nat),(binOp .eql 25 (aj a n c) (aj ak n' c')).run dA w=.ok (aF a.isNone) w:=fun w a n c n' c'=>Lib.run_eql_slice_nil w _ _ a n c n' c' Tryz.underlying25
 cases a with
 | none =>
  have hx:L=[]:=by
   rcases hv with h|⟨b,o,e,_⟩
   ·exact List.eq_nil_of_length_eq_zero h
   ·cases e
  subst hx;clear hv;have HQ:aG (oN w w (vZ []) (aj ak 0 0)):=⟨fun _=>False,IY.2 ⟨ak,0,ak,rfl,iQ.nil _ _ (fun _ h=>by cases h),fun b=>by simp⟩,fun _ h=>h.elim,dw _ _⟩
  go_enter Tryz.func68,Tryz.ntmps68
  go_wp2;go_ret
  exact⟨ak,0,rfl,HQ.out⟩
 | some ad =>
  have hA:=U0 (c:=c) hv hl;clear hv;go_enter Tryz.func68,Tryz.ntmps68
  go_wp2_with (at_builtin;refine fG (by rfl) _ _ _ _ (by rfl) _ _ (by rfl) (by rfl) hA ⟨rfl,rfl,rfl,rfl⟩ ?_;rintro v1 w1 ⟨a1,e1,f1,rfl,q1,q2,q3⟩;have HQ:aG (oN w w1 (vZ L) (aj a1 L.length e1)):=⟨f1,q1,q2,q3⟩;clear q1 q2 q3 hA)
  go_ret
  exact⟨a1,e1,rfl,HQ.out⟩
theorem J9 (A:Ga) (g:Gr) (n:Nat) (w:aI) (hv:uU w A g) (ok:OkG g n) :
  dF dA 35 #[gX A g] w fun e w'=>AX w w' e g:=by
 have gq:=iD;have hb1:=dX w (aH #[aj A.ma g.mem.length A.mc,aj A.ua g.up.length A.uc,aj A.la g.dS.length A.lc] 28);have hb2:=dX (w.alloc (aH #[aj A.ma g.mem.length A.mc,aj A.ua g.up.length A.uc,aj A.la g.dS.length A.lc] 28)) (aH #[aj ak 0 0,aj ak 0 0,aj ak 0 0] 28);have hx1:Bx ((w.alloc (aH #[aj A.ma g.mem.length A.mc,aj A.ua g.up.length A.uc,aj A.la g.dS.length A.lc] 28)).alloc (aH #[aj ak 0 0,aj ak 0 0,aj ak 0 0] 28)) w.heap.size 28 #[aj A.ma g.mem.length A.mc,aj A.ua g.up.length A.uc,aj A.la g.dS.length A.lc]:=(Bx.new w _ _).alloc _
 have hx2:Bx ((w.alloc (aH #[aj A.ma g.mem.length A.mc,aj A.ua g.up.length A.uc,aj A.la g.dS.length A.lc] 28)).alloc (aH #[aj ak 0 0,aj ak 0 0,aj ak 0 0] 28)) (w.heap.size+1) 28 #[aj ak 0 0,aj ak 0 0,aj ak 0 0]:=by
  have:=Bx.new (w.alloc (aH #[aj A.ma g.mem.length A.mc,aj A.ua g.up.length A.uc,aj A.la g.dS.length A.lc] 28)) 28 #[aj ak 0 0,aj ak 0 0,aj ak 0 0];simp only[bH] at this;exact this
 have pK:=eU hb1 hb2;have hsz:w.heap.size+2=((w.alloc (aH #[aj A.ma g.mem.length A.mc,aj A.ua g.up.length A.uc,aj A.la g.dS.length A.lc] 28)).alloc (aH #[aj ak 0 0,aj ak 0 0,aj ak 0 0] 28)).heap.size:=by simp only[bH]
 have qH:=dP hx1;have l9:=dP hx2;have HB:=dP pK;have HV:=dP hv;have Bh:=dP hsz;have FX:g.up.length<=1000000:=by rw[ok.ul];have:=ok.n5;omega
 unfold gX iW;clear hb1 hb2 hx1 hx2 pK hsz hv;go_enter Tryz.func35,Tryz.ntmps35
 go_upto_region 1 with fail
 generalize (w.alloc (aH #[aj A.ma g.mem.length A.mc,aj A.ua g.up.length A.uc,aj A.la g.dS.length A.lc] 28)).alloc (aH #[aj ak 0 0,aj ak 0 0,aj ak 0 0] 28)=W0 at *;have hbd:=(Same.drewN W0 1).below;have KS:∀ Z,Below W0.heap.size W0 Z->Z.cell? ⟨w.heap.size,0,ak⟩=au (aj A.ma g.mem.length A.mc)/\Z.cell? ⟨w.heap.size,1,ak⟩=au (aj A.ua g.up.length A.uc)/\Z.cell? ⟨w.heap.size,2,ak⟩=au (aj A.la g.dS.length A.lc):=fun Z hZ=>Bx.g3 (qH.out.below hZ)
 have hA1:=ao8 A g n W0.drew ((HV.out.below HB.out).below hbd) ok;have HA2:aG (∀ X,Below W0.heap.size W0 X->dF dA 68 #[aj A.ua g.up.length A.uc] X fun e w'=>∃ a' c',e=aK (aj a' g.up.length c')/\oN X w' (vZ g.up) (aj a' g.up.length c')):=fun X hX=>ap0 A.ua A.uc g.up X (((HV.out.below HB.out).below hX).Mc.up) FX
 have HA3:aG (∀ X,Below W0.heap.size W0 X->dF dA 69 #[aj A.la g.dS.length A.lc] X fun e w'=>∃ a c,e=aK (aj a g.dS.length c)/\oN X w' (iH 10 kS g.dS) (aj a g.dS.length c)):=fun X hX=>ao9 A g n X ((HV.out.below HB.out).below hX) ok
 refine lU (S:=fun Z:aI=>Z.cell? ⟨w.heap.size,0,ak⟩=au (aj A.ma g.mem.length A.mc)/\Z.cell? ⟨w.heap.size,1,ak⟩=au (aj A.ua g.up.length A.uc)/\Z.cell? ⟨w.heap.size,2,ak⟩=au (aj A.la g.dS.length A.lc)) 10 gq ((KS _ hbd)) fun hHeld=>?_
 refine fC (i:=0) rfl hHeld ?_;refine fC (i:=1) rfl hHeld ?_;refine fC (i:=3) rfl hHeld ?_;refine fC (i:=4) rfl hHeld ?_;refine fC (i:=6) rfl hHeld ?_;refine fC (i:=7) rfl hHeld ?_;refine iJ (i:=2) rfl fun K hK=>?_
 go_simp
 go_at_call 67
 refine hA1.mono ?_;rintro e V1 ⟨a1,c1,rfl,f1,o1,p1,b1⟩;have hb1:=eU hbd b1;refine hK.out _ _ (KS _ hb1) (fun eP=>?_)
 clear hK hHeld;have hHeld:=eP;try simp only[iC]
 refine iJ (i:=5) rfl fun K hK=>?_
 go_simp
 go_at_call 68
 refine (HA2.out V1 hb1).mono ?_;rintro e V2 ⟨a2,c2,rfl,f2,o2,p2,b2⟩;have hb2:=eU hb1 b2;refine hK.out _ _ (KS _ hb2) (fun eP=>?_)
 clear hK hHeld;have hHeld:=eP;try simp only[iC]
 refine iJ (i:=8) rfl fun K hK=>?_
 go_simp
 go_at_call 69
 refine (HA3.out V2 hb2).mono ?_;rintro e V3 ⟨a3,c3,rfl,f3,o3,p3,b3⟩;have hb3:=eU hb2 b3;refine hK.out _ _ (KS _ hb3) (fun eP=>?_)
 clear hK hHeld;have hHeld:=eP;try simp only[iC]
 refine fE (i:=9) rfl ?_;have hR:=l9.out.below hb3;obtain⟨t0,t1,t2⟩:=Bx.g3 hR;obtain⟨q0,q1,q2⟩:=hR.f3
 have HN:aG (∀ {z0 z1 z2:aJ},kE w (((V3.setCell ⟨w.heap.size+1,0,ak⟩ z0).setCell ⟨w.heap.size+1,1,ak⟩ z1).setCell ⟨w.heap.size+1,2,ak⟩ z2) (fZ g) (jm ⟨a1,c1,a2,c2,a3,c3⟩ g)):=fun {z0 z1 z2}=>by
  have hB1:=eU HB.out hb3;have hd:W0.drew.heap.size=W0.heap.size:=rfl;have hs:=Bh.out;have l1:=dY.kW o1;have l2:=dY.kW o2;have s1:=b1.size;have s2:=b2.size;have hw:=oK V3 (w.heap.size+1) (a:=z0) (b:=z1) (c:=z2);refine⟨_,pX (dY.lJ (dY.ig (dY.ig o1 b2) b3) hw (fun b hb e=>by have:=p1 b hb;omega)) (pX (dY.lJ (dY.ig o2 b3) hw (fun b hb e=>by have:=p2 b hb;omega)) (pX (dY.lJ o3 hw (fun b hb e=>by have:=p3 b hb;omega)) (⟨rfl,fun _ h=>h⟩:gB _ [] [] (fun _=>False)) (fun _ _ h=>h)) (fun b h1 h2=>?_)) (fun b h1 h2=>?_),fun b hb=>?_,hw.below hB1 hB1.size (fun b e=>by omega)⟩
  ·rcases h2 with h2|h2
   ·have:=l2 b h1;have:=p3 b h2;omega
   ·exact h2
  ·rcases h2 with h2|h2|h2
   ·have:=l1 b h1;have:=p2 b h2;omega
   ·have:=l1 b h1;have:=p3 b h2;omega
   ·exact h2
  ·rcases hb with hb|hb|hb|hb
   ·have:=p1 b hb;omega
   ·have:=p2 b hb;omega
   ·have:=p3 b hb;omega
   ·exact hb.elim
 refine oV rfl fun K hK=>?_
 go_simp;refine hK.out _ _ ?_;clear hK hHeld o1 o2 o3 p1 p2 p3 b1 b2 b3 hb1 hb2 hb3 hbd KS hA1 hR q0 q1 q2;try go_wp2
 refine bY (v:=gX ⟨a1,c1,a2,c2,a3,c3⟩ g) (by simp[results,Tryz.results35,go_sem,gX,iW, *]) rfl ?_
 exact⟨_,rfl,HN.out⟩
theorem Tf {r: Rw} (h:iR r n):sQ r/\kH r<=1000:=by
 have h5:=h.n5;have hv:=h.ver;have hc:=h.c8;refine⟨?_,by omega⟩
 unfold sQ ji
 cases hr:r.dV with
 | false=>have:=(h.not hr).1;exact⟨by omega,by omega⟩
 | true=>have:=(h.dV hr).2.1;exact⟨by omega,by omega⟩
theorem aa8 {b off: Nat} {L: List Mb} {f0: Fp} (h:dY.ow X (iH 5 jY L) (aj (au ⟨b,off,ak⟩) L.length c) f0) {a k: Nat} (ha:L[a]?=au m) (hk:k<m.rows.length) (hf:qo (dO m.rows k)) (h6:sQ (dO m.rows k)) (hs:kH (dO m.rows k)<=1048576):∃ rb ro rc Ak,f0 b/\f0 rb/\X.cell? ⟨b,off+a*5+2,ak⟩=au (aj (au ⟨rb,ro,ak⟩) m.rows.length rc) /\
  C8 X rb (ro+k*8) (ah aA (dO m.rows k).ver) (aj Ak.ta (dO m.rows k).txt.length Ak.tc) (aj Ak.ga (dO m.rows k).got.length Ak.gc) (aj Ak.sa (dO m.rows k).dQ.length Ak.sc) (aF (dO m.rows k).wed) (aF (dO m.rows k).dV) (ah aA (dO m.rows k).dW) (aj Ak.ma (dO m.rows k).dU.length Ak.mc)/\ql X Ak (dO m.rows k):=by
 obtain⟨g',off',f,e,h1,h2,h3,_⟩:=yx uz (by omega) h ha
 cases e
 obtain⟨rb,ro,rc,f',r1,_,r3,r4,⟨vs,hpc,hov,_⟩,_⟩:=h3.el (F:=jo) jU (by omega) (j:=2) (L:=m.rows) rfl (iV hk)
 obtain⟨Ak,rfl,hl⟩:=wP hov;have lV:(fQ Ak (dO m.rows k)).toList.length=8:=rfl;have q:=hpc.cell;exact⟨rb,ro,rc,Ak,h1,h2 _ r3,r1,⟨⟨q 0 (by rw[lV];omega),q 1 (by rw[lV];omega),q 2 (by rw[lV];omega),q 3 (by rw[lV];omega)⟩,q 4 (by rw[lV];omega),q 5 (by rw[lV];omega),q 6 (by rw[lV];omega),q 7 (by rw[lV];omega)⟩,BR (zW hl (lo:=0) (fun b _=>cZ b)) hf h6 hs⟩
theorem FV (h:i≠j) (v:aJ):(w.setCell ⟨B,i,ak⟩ v).cell? ⟨B,j,ak⟩=w.cell? ⟨B,j,ak⟩:=by
 apply World.cell?_setCell_other
 simp[h]
theorem ap1 (B o:Nat) (g:Gr) (n a b:Nat) (fp:Fp) (w:aI) (h:iP w B o (fZ g) fp) (ok:OkG g n) (ha:a<n) :
  dF dA 110 #[aO (au ⟨B,o,ak⟩),ah aA (a:Int),ah aA (b:Int)] w fun e w'=>e=aK (.tuple #[])/\fH w w' B o (fZ (jT g (a:Int) (b:Int))) fp/\w'.cell? ⟨B,o+1,ak⟩=w.cell? ⟨B,o+1,ak⟩:=by
 have gq:=iD;have jq:=ok.n5;have hal:a<g.mem.length:=by rw[ok.ml];exact ha
 have M:=ok.mem a ha;have har:a<(eF g a).rows.length:=by rw[M.len];exact ha
 have R:=M.ok a ha;have EI:=ok.pJ;obtain⟨bb,off,c,G0⟩:=Gw.start h (by omega)
 obtain⟨u,f,f0,hu,hfz,how,hfB,hBl,hfl,hmem,hap,hput⟩:=G0.full;have how':=how;obtain⟨la,lc,_,_,_,rfl,_⟩:=how';have r64:=Tf R;obtain⟨rb,ro,rc,Ak,p1,p2,p3,⟨⟨d0,d1,d2,d3⟩,d4,d5,d6,d7⟩,hrs⟩:=aa8 hmem (rX hal) har R.fit r64.1 (by have:=r64.2;omega)
 have hg0:0<(dO (eF g a).rows a).got.length:=by rw[R.gl];omega
 have hsr:=r64.2;have c0:=G0.mem;have nT:=dP G0;have Dw:=dP hput;have rP:=dP how;have Oo:=dP hfl;have KZ:aG (¬ f B/\¬ f bb/\¬ f rb):=⟨hfB,(hap _ p1).1,(hap _ p2).1⟩;have Oq:aG (jT g (a:Int) (b:Int)=if g.dS.length<200 then { g with dS:=g.dS++[⟨(a:Int),(b:Int),dO (eF g a).rows a⟩] } else g):=by rw[aG,jT];simp only[Int.toNat_natCast]
 have IU:=dP hrs;have HBl:=dP hBl;clear hput how hfl hap hmem h hrs p1 p2 hfB G0 r64;by_cases hlt:g.dS.length<200;rotate_left
 ·have g2:¬ ((g.dS.length:Int)<200):=by omega
  have HZ:aG (jT g (a:Int) (b:Int)=g):=by rw[aG,Oq.out,if_neg hlt]
  clear d0 d1 d2 d3 d4 d5 d6 d7 p3;go_enter Tryz.func110,Tryz.ntmps110
  go_wp2;go_end0;exact⟨rfl,by rw[HZ.out];exact nT.out.iw,rfl⟩
 have g2:(g.dS.length:Int)<200:=by omega
 have HZ:aG (jT g (a:Int) (b:Int)={ g with dS:=g.dS++[⟨(a:Int),(b:Int),dO (eF g a).rows a⟩] }):=by rw[aG,Oq.out,if_pos hlt]
 have a0:(0:Int)<=a:=by omega
 have a1:(a:Int)<g.mem.length:=by omega
 have a2:(a:Int)<((eF g a).rows.length:Int):=by omega
 have hS0:PS B o bb (off+a*5+2) rb (ro+a*8) (aj la g.dS.length lc) (aj (au ⟨bb,off,ak⟩) g.mem.length c) (aj (au ⟨rb,ro,ak⟩) (eF g a).rows.length rc) (ah aA (dO (eF g a).rows a).ver) (aj Ak.ta (dO (eF g a).rows a).txt.length Ak.tc) (aj Ak.ga (dO (eF g a).rows a).got.length Ak.gc) (aj Ak.sa (dO (eF g a).rows a).dQ.length Ak.sc) (aF (dO (eF g a).rows a).wed) (aF (dO (eF g a).rows a).dV) (ah aA (dO (eF g a).rows a).dW) (aj Ak.ma (dO (eF g a).rows a).dU.length Ak.mc) w:=⟨hu,c0,p3,d0,d1,d2,d3,d4,d5,d6,d7⟩;have F6:=dP hS0;generalize hrr:dO (eF g a).rows a=r at *;have hbd:=(Same.drewN w 1).below;clear d0 d1 d2 d3 d4 d5 d6 d7 p3 c0 Oq hrr M R;go_enter Tryz.func110,Tryz.ntmps110
 go_wp2_with fail
 clear hu;refine lU (S:=PS B o bb (off+a*5+2) rb (ro+a*8) (aj la g.dS.length lc) (aj (au ⟨bb,off,ak⟩) g.mem.length c) (aj (au ⟨rb,ro,ak⟩) (eF g a).rows.length rc) (ah aA r.ver) (aj Ak.ta r.txt.length Ak.tc) (aj Ak.ga r.got.length Ak.gc) (aj Ak.sa r.dQ.length Ak.sc) (aF r.wed) (aF r.dV) (ah aA r.dW) (aj Ak.ma r.dU.length Ak.mc)) 24 gq ((hS0.below hbd)) fun hHeld=>?_
 refine fE (i:=0) rfl ?_;refine fE (i:=1) rfl ?_;refine fE (i:=2) rfl ?_;refine fE (i:=3) rfl ?_;refine fC (i:=4) rfl hHeld ?_;refine fE (i:=5) rfl ?_;refine fE (i:=6) rfl ?_;refine fE (i:=7) rfl ?_;refine fE (i:=8) rfl ?_;refine fE (i:=9) rfl ?_;refine fC (i:=10) rfl hHeld ?_;refine fE (i:=11) rfl ?_;refine fE (i:=12) rfl ?_;refine fE (i:=13) rfl ?_;refine fC (i:=14) rfl hHeld ?_;refine fE (i:=15) rfl ?_;refine fE (i:=16) rfl ?_;refine fC (i:=17) rfl hHeld ?_;refine iJ (i:=18) rfl fun K hK=>?_
 go_simp
 go_at_call 141
 refine (CW Ak r _ (IU.out.below hbd) hg0 hsr).mono ?_;rintro e w1 ⟨Ar,rfl,fr,hr1,hr2,hr3⟩;have hb1:=eU hbd hr3;have hA:=Gw.Uy (x:=⟨(a:Int),(b:Int),r⟩) rP.out Oo.out Dw.out hb1 hr1 (fun b hb=>hr2 b hb) (by omega)
 refine hK.out _ _ (F6.out.below hb1) (fun eP=>?_)
 clear hK hHeld;have hHeld:=eP;try simp only[iC]
 unfold iK;unfold fQ;unfold yU at hA;refine fE (i:=19) rfl ?_;refine iJ (i:=20) rfl fun K hK=>?_
 go_simp;refine hK.out _ _ (F6.out.below (hb1.trans ((dX w1 _).mono hb1.size))) (fun eP=>?_)
 clear hK hHeld;have hHeld:=eP;try simp only[iC]
 refine iJ (i:=21) rfl fun K hK=>?_
 refine jH (by rfl) _ _ _ _ (by rfl) (aj la g.dS.length lc) _ (by rfl) (by rfl) hA ⟨rfl,rfl,rfl,rfl⟩ ?_
 rintro v9 w4 ⟨a9,c9,rfl,hw4,q1,q2,EJ⟩;refine hK.out _ _ (F6.out.wrt hw4 KZ.out.1 KZ.out.2.1 KZ.out.2.2) (fun eP=>?_)
 clear hK hHeld;have hHeld:=eP;try simp only[iC]
 refine fE (i:=22) rfl ?_;refine fE (i:=23) rfl ?_;refine oV rfl fun K hK=>?_
 go_simp;refine hK.out _ _ ?_;have La:=dP EJ;have HU9:aG ((w4.setCell ⟨B,o+2,ak⟩ (aj a9 (g.dS.length+1) c9)).cell? ⟨B,o+1,ak⟩=w.cell? ⟨B,o+1,ak⟩):=(FV (by omega) _).trans (bf (hw4.block B HBl.out KZ.out.1))
 clear EJ hA hr1 hr2 hr3 q1 q2 hw4;generalize w4.setCell ⟨B,o+2,ak⟩ (aj a9 (g.dS.length+1) c9)=W9 at *;go_wp2;go_end0;exact⟨rfl,by rw[HZ.out];exact La.out.iw,HU9.out⟩
theorem ap2 (B o:Nat) (g:Gr) (n a:Nat) (fp:Fp) (w:aI) (h:iP w B o (fZ g) fp) (ok:OkG g n) (ha:a<n) :
  dF dA 71 #[aO (au ⟨B,o,ak⟩),ah aA (a:Int)] w fun e w'=>e=aK (.tuple #[])/\fH w w' B o (fZ (oC g (a:Int))) fp/\w'.cell? ⟨B,o+1,ak⟩=w.cell? ⟨B,o+1,ak⟩:=by
 have jq:=ok.n5;have HZ:aG (oC g (a:Int)=oG g (a:Int) n):=by rw[aG,oC,oG,ok.ml]
 have H0:=dP (fH.refl h);have iE:=dP (JY ok ha)
 have HP:aG (∀ (k:Nat) (wr:aI),k<n->fH w wr B o (fZ (oG g (a:Int) k)) fp->dF dA 110 #[aO (au ⟨B,o,ak⟩),ah aA (a:Int),ah aA (k:Int)] wr fun e w'=>e=aK (.tuple #[])/\(fH w w' B o (fZ (jT (oG g (a:Int) k) (a:Int) (k:Int))) fp/\w'.cell? ⟨B,o+1,ak⟩=wr.cell? ⟨B,o+1,ak⟩)):=fun k wr hk hb=>by
  obtain⟨gU,hp,_,hgo⟩:=hb.next;exact (ap1 B o _ n a k gU wr hp (iE.out k (by omega)) ha).mono (fun e w' ⟨e1,e2⟩=>⟨e1,hgo _ _ rfl e2.1,e2.2⟩)
 obtain⟨bb,off,c,G0⟩:=Gw.start h (by rw[ok.ml];omega)
 have c0:=G0.mem;rw[ok.ml] at c0;clear h G0;go_enter Tryz.func71,Tryz.ntmps71
 go_wp2_with fail
 clear c0
 go_loopw [10] (fun i wr=>∃ k:Nat,k<=n/\i=ah aA (k:Int)/\aG (wr.cell? ⟨B,o+1,ak⟩=w.cell? ⟨B,o+1,ak⟩)/\fH w wr B o (fZ (oG g (a:Int) k)) fp) (fun i _=>n-(dG i).toNat)
 case atStart=>exact⟨0,cZ _,rfl,rfl,H0.out⟩
 case round =>
  obtain⟨k,hk,rfl,HUr,hb⟩:=hrel;have HB:=dP hb;clear hb;by_cases hlt:k<n
  ·have k1:(k:Int)<n:=by omega
   have Ld:=HP.out k wr hlt HB.out;by_cases hka:(k:Int)=a
   ·have g1:((k:Int) != (a:Int))=aC:=by simpa using hka
    have HN:aG (fH w wr B o (fZ (oG g (a:Int) (k+1))) fp):=by rw[aG,yH,if_pos hka];exact HB.out
    clear hka Ld;go_wp2;go_roundw
    case rel=>exact⟨k+1,by omega,by go_num,HUr,HN.out⟩
    case measure=>simp[dG];omega
   ·have g1:((k:Int) != (a:Int))=aB:=by simpa using hka
    have HM:aG (jT (oG g (a:Int) k) (a:Int) (k:Int)=oG g (a:Int) (k+1)):=by rw[aG,yH,if_neg hka]
    clear hka;go_wp2_with (go_at_call 110;refine Ld.mono ?_;rintro e w1 ⟨rfl,hb1⟩;have HB1:aG (fH w w1 B o (fZ (oG g (a:Int) (k+1))) fp):=(by rw[aG,<- HM.out];exact hb1.1);have Xz:aG (w1.cell? ⟨B,o+1,ak⟩=w.cell? ⟨B,o+1,ak⟩):=hb1.2.trans HUr.out;clear hb1)
    go_roundw
    case rel=>exact⟨k+1,by omega,by go_num,Xz,HB1.out⟩
    case measure=>simp[dG];omega
  ·have k1:¬ ((k:Int)<n):=by omega
   have e:k=n:=by omega
   have HF:aG (fH w wr B o (fZ (oC g (a:Int))) fp):=by rw[aG,HZ.out,<- e];exact HB.out
   clear e;go_wp2;go_end0;exact⟨rfl,HF.out,HUr.out⟩
theorem Jv (h:iO m i n):Fa m:=by
 have h5:=h.n5;have hi:=h.lt;refine⟨by rw[h.hid];exact⟨by omega,by omega⟩,by rw[h.hn];exact⟨by omega,by omega⟩,fun r hr=>?_⟩
 have ok:=h.rowOk r hr;have hv:=ok.ver
 cases e:r.dV with
 | true=>have:=(ok.dV e).2.1;exact⟨⟨by omega,by omega⟩,by omega,by omega⟩
 | false=>rw[sQ,(ok.not e).1];exact⟨⟨by omega,by omega⟩,by omega,by omega⟩
theorem XC {g: Gr} (h:OkG g n):ZV g:=by
 refine⟨fun m hm=>?_,fun x hx=>?_⟩
 ·obtain⟨k,hk,rfl⟩:=bg.1 hm
  have:=h.mem k (by rw[<- h.ml];exact hk)
  have e:eF g k=g.mem[k]:=by simp[eF,List.getD,hk]
  rw[e] at this;exact Jv this
 ·obtain⟨a,b,e1,e2,h1,h2,_,ok⟩:=h.kU x hx
  have h5:=h.n5;have hv:=ok.ver;refine⟨by rw[e1];exact⟨by omega,by omega⟩,by rw[e2];exact⟨by omega,by omega⟩, ?_⟩
  cases e:x.row.dV with
  | true=>have:=(ok.dV e).2.1;exact⟨⟨by omega,by omega⟩,by omega,by omega⟩
  | false=>rw[sQ,(ok.not e).1];exact⟨⟨by omega,by omega⟩,by omega,by omega⟩
theorem aa9 {dQ: List Int} (hj:j<n) (hi:(i:Int)∉dQ):(decide ((j:Int)=i)||ng i n dQ (j:Int))=!decide ((j:Int)∈dQ):=by
 by_cases e:j=i
 ·subst e
  simp[hi]
 ·have e2:inB (j:Int) 0 ((n:Int)-1)=aB:=iZ.2 (by omega)
  have e3:¬ ((j:Int)=i):=by omega
  rw[ng,e2,decide_eq_true e3,decide_eq_false e3];simp
theorem Ko (w0:aI) (B:Nat) (m:Mb) (i n:Nat) (fp:Fp) (g off c:Nat) (w:aI) (M:Iw w0 w B m fp g off c) (ok:iO m i n) :
  dF dA 168 #[aO (au ⟨B,0,ak⟩)] w fun e w'=>EO w w' e (lN (fA n (dO m.rows i).dQ)):=by
 have hil:i<m.rows.length:=by rw[ok.len];exact ok.lt
 have HM:=dP M;have hr:=ok.ok i ok.lt;have jq:=hr.n5;have hln:=ok.len;have hb0:=dX w (aH #[] 2);have HB0:=dP hb0;have jv:aG (dY.ow (w.alloc (aH #[] 2)) (gJ []) (aj (au ⟨w.heap.size,0,ak⟩) 0 0) (fun _=>False)):=je.2 ⟨_,0,ak,rfl,iQ.nil _ _ (kL _ _),fun b=>by simp⟩
 have c1:=(M.step hb0).rws;rw[hln] at c1;have hC:=zA B (au ⟨g,off,ak⟩) n c _ c1;clear M hb0 c1;go_enter Tryz.func168,Tryz.ntmps168
 go_wp2_with (go_at_call 166;refine fV hC ?_)
 clear hC;generalize w.alloc (aH #[] 2)=W0 at *
 go_loopw [3,8] (fun v k wr=>∃ (j:Nat) (a:Option dH) (cc:Nat) (Z:List Int) (fz:Fp),j<=n/\k=ah aA (j:Int)/\v=aj a Z.length cc/\aG (Z=lN (fA j (dO m.rows i).dQ))/\dY.ow wr (gJ Z) (aj a Z.length cc) fz/\(∀ b,fz b->w.heap.size<=b)/\Below w.heap.size w wr) (fun _ k _=>n-(dG k).toNat)
 case atStart=>exact⟨0,some ⟨w.heap.size,0,none⟩,0,[],_,cZ _,rfl,rfl,rfl,jv.out,fun b h=>h.elim,HB0.out⟩
 case round =>
  obtain⟨j,a,cc,Z,fz,hj,rfl,rfl,hZ,hO,hfz,hb⟩:=hrel;have M1:=HM.out.step hb;obtain⟨c0,c4⟩:=M1.id';have c2:=M1.rws;rw[ok.hid] at c0;rw[hln] at c2;by_cases hlt:j<n
  ·have k1:(j:Int)<n:=by omega
   obtain⟨Ak,⟨⟨d0,d1,d2,d3⟩,d4,d5,d6,d7⟩,hrs⟩:=M1.row ok.fit hil;have hOt:=J7 B i n g off c Ak.sa Ak.sc (dO m.rows i).dQ (j:Int) wr c0 c2 ok.lt jq.2 d3 hrs.dQ hrs.ms;have HO:=dP hO;have HB:=dP hb;have zN:Z.length<=1000000:=by rw[hZ.out,jl];have:=tK j (dO m.rows i).dQ;omega
   have HN:aG (lN (fA (j+1) (dO m.rows i).dQ)=if (j:Int)∈(dO m.rows i).dQ then Z else Z++[(j:Int)]):=by
    rw[aG,hZ.out,Ja];by_cases hm:(j:Int)∈(dO m.rows i).dQ<;>simp[hm,lN]
   have HOL:=dP (aa9 hlt ok.self);have wj:wrap64 ((j:Int)+1)=(j:Int)+1:=by unfold wrap64;omega
   clear d0 d1 d2 d3 d4 d5 d6 d7 c2 c4 hrs M1 hO hb;generalize ng i n (dO m.rows i).dQ (j:Int)=ob at *;go_upto_region 5 with fail
   go_cut [21] from 11 to 21 (fun v X=>v=aF (!decide ((j:Int)∈(dO m.rows i).dQ))/\Below wr.heap.size wr X)
   case first =>
    by_cases ej:j=i
    ·have e1:((j:Int)==(i:Int))=aB:=by simp[ej]
     have HV:aG ((!decide ((j:Int)∈(dO m.rows i).dQ))=aB):=by rw[aG,<- HOL.out,ej];simp
     clear ej;go_wp2_with fail
     go_meet
     case rel=>exact⟨by rw[HV.out],dw _ _⟩
    ·have e1:((j:Int)==(i:Int))=aC:=by simp;omega
     have HV:aG ((!decide ((j:Int)∈(dO m.rows i).dQ))=ob):=by rw[aG,<- HOL.out,decide_eq_false (by omega)];simp
     clear ej;go_wp2_with (go_at_call 177;refine hOt.mono ?_;rintro e w1 ⟨rfl,hb1⟩;have HB1:aG (Below wr.heap.size wr w1):=hb1;clear hb1)
     go_meet
     case rel=>exact⟨by rw[HV.out],HB1.out⟩
   case rest =>
    obtain⟨rfl,hBc⟩:=hcut;generalize wc=V at *;have HB1:=dP (eU HB.out hBc);clear hOt;by_cases hm:(j:Int)∈(dO m.rows i).dQ
    ·have xg:aG (dY.ow V (gJ Z) (aj a Z.length cc) fz):=dY.ig HO.out hBc
     rw[if_pos hm] at HN;rw[decide_eq_true hm];clear hm hBc;go_wp2;go_roundw
     case rel=>exact⟨j+1,a,cc,Z,fz,by omega,by go_num,rfl,HN.out.symm,xg.out,hfz,HB1.out⟩
     case measure=>simp[dG];omega
    ·obtain⟨a',c',ea,hA⟩:=nP (j:Int) (dY.ig HO.out hBc) zN
     cases ea
     have hbs:=hBc.size;have aH9:=HB.out.size;rw[if_neg hm] at HN;rw[decide_eq_false hm];clear hm hBc;go_wp2_with (at_builtin;refine fG (by rfl) _ _ _ _ (by rfl) _ _ (by rfl) (by rfl) hA ⟨rfl,rfl,rfl,rfl⟩ ?_;rintro v1 w1 ⟨a1,e1,f1,rfl,q1,q2,q3⟩;have tN:aG (dY.ow w1 (gJ (Z++[(j:Int)])) (aj a1 (Z.length+1) e1) f1):=q1;have zO:aG (∀ b,f1 b->fz b\/V.heap.size<=b):=q2;have zQ:aG (eX fz V w1):=q3;clear q1 q2 q3 hA)
     have HL:aG ((Z++[(j:Int)]).length=Z.length+1):=by rw[aG,bD];rfl
     go_roundw
     case rel=>exact⟨j+1,a1,e1,Z++[(j:Int)],f1,by omega,by go_num,by rw[HL.out],HN.out.symm,by rw[HL.out];exact tN.out,fun b hb=>(zO.out b hb).elim (hfz b) (fun h=>by omega),zQ.out.below HB1.out (by omega) (fun b hb=>hfz b hb)⟩
     case measure=>simp[dG];omega
  ·have k1:¬ ((j:Int)<n):=by omega
   have ej:j=n:=by omega
   have HZ:aG (Z=lN (fA n (dO m.rows i).dQ)):=by rw[aG,hZ.out,ej]
   have HO:aG (oN w wr (gJ Z) (aj a Z.length cc)):=⟨fz,hO,hfz,hb⟩;clear ej hO hb M1 c0 c2 c4;go_wp2;go_ret
   rw[<- HZ.out];exact⟨a,cc,rfl,HO.out⟩
theorem aA0 (h:gB w (jB m) (jC A m) f):gB w (lH m) (Fq A m).toList f:=by
 obtain⟨u1,vW,f1,g1,e1,o1,h2,d1,i1⟩:=h
 cases e1
 obtain⟨u2,wY,f2,g2,e2,o2,h3,d2,i2⟩:=h2
 cases e2
 exact vF ⟨_,_,f1,g1,rfl,o1,⟨_,_,f2,g2,rfl,o2,vF h3,d2,i2⟩,d1,i1⟩
theorem aA1 {us: List aJ} (h:gB w (lH m) us f):∃ A:Ma,us=(Fq A m).toList/\gB w (jB m) (jC A m) f:=by
 obtain⟨us0,rfl,hq1⟩:=qF h;obtain⟨u1,vW,f1,g1,rfl,o1,h2,d1,i1⟩:=hq1;obtain⟨u2,wY,f2,g2,rfl,o2,h3,d2,i2⟩:=h2;obtain⟨NU,rfl,⟨rfl,h4⟩⟩:=qF h3;have Ry:=o1;obtain⟨ra,rc,_,_,_,rfl,_⟩:=Ry;obtain⟨sa,sc,_,rfl,_⟩:=je.1 o2;exact⟨⟨ra,rc,sa,sc⟩,rfl,⟨_,_,f1,g1,rfl,o1,⟨_,_,f2,g2,rfl,o2,⟨rfl,h4⟩,d2,i2⟩,d1,i1⟩⟩
theorem iP.c4 (h:iP w B 0 (lH m) f):∃ A:Ma,C4 w B (ah aA m.id) (aj A.ra m.rows.length A.rc) (aj A.sa m.dR.length A.sc) (aF m.done)/\(w.frozen? ⟨B,0,ak⟩=aC/\w.frozen? ⟨B,1,ak⟩=aC/\w.frozen? ⟨B,2,ak⟩=aC/\w.frozen? ⟨B,3,ak⟩=aC)/\gB w (jB m) (jC A m) f:=by
 obtain⟨vs,hpc,hov,_⟩:=h;obtain⟨A,rfl,hl⟩:=aA1 hov;have hl4:(Fq A m).toList.length=4:=rfl;have c:=hpc.cell;have f:=hpc.free;exact⟨A,⟨c 0 (by rw[hl4];omega),c 1 (by rw[hl4];omega),c 2 (by rw[hl4];omega),c 3 (by rw[hl4];omega)⟩,⟨f 0 (by rw[hl4];omega),f 1 (by rw[hl4];omega),f 2 (by rw[hl4];omega),f 3 (by rw[hl4];omega)⟩,hl⟩
theorem ab1 {T: TypeId} {fp: Fp} (h:Bx w B T (Fq A m)) (hl:gB w (jB m) (jC A m) fp) (hB:¬ fp B):iP w B 0 (lH m) fp:=⟨_,h.pc,aA0 hl,hB⟩
theorem Ti (A:Ma) (m:Mb) (w:aI) (hn:m.n=(m.rows.length:Int)) :
  dF dA 139 #[Ju A m] w fun e w'=>e=aK (iU A m)/\Below w.heap.size w w':=by
 have gq:=iD;have hb1:=dX w (aH #[ah aA m.id,aj A.ra m.rows.length A.rc,aj A.sa m.dR.length A.sc,aF m.done] 183);have hb2:=dX (w.alloc (aH #[ah aA m.id,aj A.ra m.rows.length A.rc,aj A.sa m.dR.length A.sc,aF m.done] 183)) (aH #[ah aA 0,ah aA 0,aj ak 0 0,aj ak 0 0,aF aC] 47);have hx1:Bx ((w.alloc (aH #[ah aA m.id,aj A.ra m.rows.length A.rc,aj A.sa m.dR.length A.sc,aF m.done] 183)).alloc (aH #[ah aA 0,ah aA 0,aj ak 0 0,aj ak 0 0,aF aC] 47)) w.heap.size 183 #[ah aA m.id,aj A.ra m.rows.length A.rc,aj A.sa m.dR.length A.sc,aF m.done]:=(Bx.new w _ _).alloc _
 have hx2:Bx ((w.alloc (aH #[ah aA m.id,aj A.ra m.rows.length A.rc,aj A.sa m.dR.length A.sc,aF m.done] 183)).alloc (aH #[ah aA 0,ah aA 0,aj ak 0 0,aj ak 0 0,aF aC] 47)) (w.heap.size+1) 47 #[ah aA 0,ah aA 0,aj ak 0 0,aj ak 0 0,aF aC]:=by
  have:=Bx.new (w.alloc (aH #[ah aA m.id,aj A.ra m.rows.length A.rc,aj A.sa m.dR.length A.sc,aF m.done] 183)) 47 #[ah aA 0,ah aA 0,aj ak 0 0,aj ak 0 0,aF aC];simp only[bH] at this;exact this
 have pK:=eU hb1 hb2;unfold Ju Fq;have l9:=dP hx2;have HB:=dP pK;obtain⟨c0,c1,c2,c3⟩:=Bx.r4 hx1;have HN:=dP hn;clear hb1 hb2 hx1 hx2 pK hn;go_enter Tryz.func139,Tryz.ntmps139
 go_upto_region 1 with fail
 generalize ((w.alloc (aH #[ah aA m.id,aj A.ra m.rows.length A.rc,aj A.sa m.dR.length A.sc,aF m.done] 183)).alloc (aH #[ah aA 0,ah aA 0,aj ak 0 0,aj ak 0 0,aF aC] 47))=W0 at *;have T:∀ {x v},W0.cell? x=au v->∀ q:Bk W0,q.w.cell? x=au v:=fun h q=>gy q.h h
 have y0:=T c0;have y1:=T c1;have y2:=T c2;have y3:=T c3;have hC:∀ q:Bk W0,dF dA 166 #[aO (au ⟨w.heap.size,0,ak⟩)] q.w fun e w'=>e=aK (ah aA (m.rows.length:Int))/\Below q.w.heap.size q.w w':=fun q=>(zA w.heap.size A.ra m.rows.length A.rc q.w (y1 q)).mono (fun e w' h=>⟨h.1,by rw[h.2];exact dw _ _⟩)
 clear T c0 c1 c2 c3;refine gK (C:=fun w'=>∃ p:Bk W0,w'=p.w) 13 gq (by kernel_rfl) ⟨⟨W0.drewN 1,fO (dw _ _)⟩,rfl⟩ ?_
 simp only[List.take_succ_cons,List.take_zero]
 repeat (go_big_quiet_step ((first|(go_at_call 166;exact eY _ (hC _))|rfl)))
 refine dh (iL fun wE eG=>?_)
 simp only[List.drop_succ_cons,List.drop_zero]
 have hR:=l9.out.below eG;have HB1:=dP (eU HB.out eG);obtain⟨z0,z1,z2,z3,z4⟩:=Bx.r5 hR;obtain⟨f0,f1,f2,f3,f4⟩:=hR.f5;clear y0 y1 y2 y3 hC eG hR l9;go_wp2;refine bY (v:=iU A m) (by simp[results,Tryz.results139,go_sem,iU,iq,HN.out, *]) rfl ?_
 exact⟨rfl,(qG wE (w.heap.size+1)).below HB1.out HB1.out.size (fun b e=>by omega)⟩
theorem ap3 (F:Nat) (C:Array aJ) (m:Mb) (B wb:Nat) (fp:Fp) (X:aI) (R:Ending->aI->Prop) (hE:∀ (args:Array aJ) (w:aI),(callFunc F args).run dA w=.ok (.enter F args) w) (h:iP X B 0 (lH m) fp) (hw:X.cell? ⟨wb,0,ak⟩=au (.func (.func F) #[] C))
  (hF:m.done=aC->dF dA F (#[aO (au ⟨B,0,ak⟩)]++C) X R) (hD:m.done=aB->∀ e,Gu e->R e X) (hR:∀ e w',R e w'->e=aK (.tuple #[])\/Gu e) :
  dF dA 138 #[aO (au ⟨B,0,ak⟩),aO (au ⟨wb,0,ak⟩)] X R:=by
 obtain⟨A,⟨c0,c1,c2,c3⟩,_,_⟩:=h.c4
 cases hd:m.done with
 | true =>
  have HD:=dP (hD hd);rw[hd] at c3;clear hD hF hd h hR;go_enter Tryz.func138,Tryz.ntmps138
  go_wp2_with (go_at_call 86;refine (rG _).mono ?_;rintro e w' ⟨⟨T,v,rfl⟩,hw'⟩;rw[hw'];clear hw')
  exact⟨rfl,HD.out _ ⟨_,_,rfl⟩⟩
 | false =>
  have hFF:=hF hd;rw[hd] at c3;have HR:=dP hR;clear hD hF hd h hR;go_enter Tryz.func138,Tryz.ntmps138
  go_wp2_with (go_at_call 86;refine fV (wW _) ?_)
  refine hFF.mono ?_;intro e w1 hRe;rcases HR.out e w1 hRe with rfl|⟨T,v,rfl⟩
  ·have I9:aG (R (aK (.tuple #[])) w1):=hRe
   clear hRe hFF c0 c1 c2 c3;go_wp2
   first|go_end0|go_ret
   exact I9.out
  ·exact⟨rfl,hRe⟩
end Go.Proofs.YtafimeakbdmkjaaGreat