/-
  Texts in one.
-/
import Derived.Test.YtafimeakbdmkjaaGreatXaa
import Derived.Test.YtafimeakbdmkjaaGreatXaq
namespace Go.Proofs.YtafimeakbdmkjaaGreat
open Bool renaming false->aC
open Go renaming Addr->dH,Calls->dF,Value->aJ,World->aI,bodyPost_ret->bY,maxLen->dD
open Go.Builtin renaming append_->bU
open Go.Ending renaming returned->aK
open Go.IntKind renaming i64->aA
open Go.Obj renaming cells->aH
open Go.Proofs.Tryz renaming prog->dA
open Go.RowKit renaming Hid->aG,intOf->dG
open Go.Value renaming agg->aP,bool->aF,int->ah,slice->aj
open Go.World renaming block_lt_of_cell?->aX,size_alloc->bH
open List renaming length_append->bD,length_take->bM,take_succ_eq_append_getElem->aQ
open Nat renaming le_refl->cO,le_trans->bZ,zero_le->cZ
open Option renaming none->ak,some->au
open Option.some renaming inj->bT
set_option linter.unusedVariables false
set_option linter.unusedSimpArgs false
open Go.RowKit Go.Sort
set_option maxRecDepth 100000
set_option maxHeartbeats 12800000
section
attribute [local irreducible] sv
theorem CW (A:Ra) (r:Rw) (w:aI) (hv:ql w A r) (hg:0<r.got.length) (hs:kH r<=1000) :
  dF dA 141 #[iK A r] w fun e w'=>Nb w w' e r:=by
 have gq:=iD;unfold kH at hs;have hb1:=dX w (aH #[ah aA r.ver,aj A.ta r.txt.length A.tc,aj A.ga r.got.length A.gc,aj A.sa r.dQ.length A.sc,aF r.wed,aF r.dV,ah aA r.dW,aj A.ma r.dU.length A.mc] 44);have hb2:=dX (w.alloc (aH #[ah aA r.ver,aj A.ta r.txt.length A.tc,aj A.ga r.got.length A.gc,aj A.sa r.dQ.length A.sc,aF r.wed,aF r.dV,ah aA r.dW,aj A.ma r.dU.length A.mc] 44)) (aH #[ah aA 0,aj ak 0 0,aj ak 0 0,aj ak 0 0,aF aC,aF aC,ah aA 0,aj ak 0 0] 44);have hb3:=dX ((w.alloc (aH #[ah aA r.ver,aj A.ta r.txt.length A.tc,aj A.ga r.got.length A.gc,aj A.sa r.dQ.length A.sc,aF r.wed,aF r.dV,ah aA r.dW,aj A.ma r.dU.length A.mc] 44)).alloc (aH #[ah aA 0,aj ak 0 0,aj ak 0 0,aj ak 0 0,aF aC,aF aC,ah aA 0,aj ak 0 0] 44)) (aH #[] 9);have hx1:Bx (((w.alloc (aH #[ah aA r.ver,aj A.ta r.txt.length A.tc,aj A.ga r.got.length A.gc,aj A.sa r.dQ.length A.sc,aF r.wed,aF r.dV,ah aA r.dW,aj A.ma r.dU.length A.mc] 44)).alloc (aH #[ah aA 0,aj ak 0 0,aj ak 0 0,aj ak 0 0,aF aC,aF aC,ah aA 0,aj ak 0 0] 44)).alloc (aH #[] 9)) w.heap.size 44 #[ah aA r.ver,aj A.ta r.txt.length A.tc,aj A.ga r.got.length A.gc,aj A.sa r.dQ.length A.sc,aF r.wed,aF r.dV,ah aA r.dW,aj A.ma r.dU.length A.mc]:=((Bx.new w 44 #[ah aA r.ver,aj A.ta r.txt.length A.tc,aj A.ga r.got.length A.gc,aj A.sa r.dQ.length A.sc,aF r.wed,aF r.dV,ah aA r.dW,aj A.ma r.dU.length A.mc]).alloc _).alloc _
 have hx2:Bx (((w.alloc (aH #[ah aA r.ver,aj A.ta r.txt.length A.tc,aj A.ga r.got.length A.gc,aj A.sa r.dQ.length A.sc,aF r.wed,aF r.dV,ah aA r.dW,aj A.ma r.dU.length A.mc] 44)).alloc (aH #[ah aA 0,aj ak 0 0,aj ak 0 0,aj ak 0 0,aF aC,aF aC,ah aA 0,aj ak 0 0] 44)).alloc (aH #[] 9)) (w.heap.size+1) 44 #[ah aA 0,aj ak 0 0,aj ak 0 0,aj ak 0 0,aF aC,aF aC,ah aA 0,aj ak 0 0]:=by
  have:=(Bx.new (w.alloc (aH #[ah aA r.ver,aj A.ta r.txt.length A.tc,aj A.ga r.got.length A.gc,aj A.sa r.dQ.length A.sc,aF r.wed,aF r.dV,ah aA r.dW,aj A.ma r.dU.length A.mc] 44)) 44 #[ah aA 0,aj ak 0 0,aj ak 0 0,aj ak 0 0,aF aC,aF aC,ah aA 0,aj ak 0 0]).alloc (aH #[] 9);simp only[bH] at this;exact this
 have pK:=eU hb1 hb2;have J8:=eU pK hb3;have jv:aG (dY.ow (((w.alloc (aH #[ah aA r.ver,aj A.ta r.txt.length A.tc,aj A.ga r.got.length A.gc,aj A.sa r.dQ.length A.sc,aF r.wed,aF r.dV,ah aA r.dW,aj A.ma r.dU.length A.mc] 44)).alloc (aH #[ah aA 0,aj ak 0 0,aj ak 0 0,aj ak 0 0,aF aC,aF aC,ah aA 0,aj ak 0 0] 44)).alloc (aH #[] 9)) (pO []) (aj (au ⟨w.heap.size+1+1,0,ak⟩) 0 0) (fun _=>False)):=uN.2 ⟨_,0,ak,rfl,iQ.nil _ _ (kL _ _),fun b=>by simp⟩
 have qH:=dP hx1;have l9:=dP hx2;have HB0:=dP J8;have HV:=dP hv;have hsz:w.heap.size+1+1<=(((w.alloc (aH #[ah aA r.ver,aj A.ta r.txt.length A.tc,aj A.ga r.got.length A.gc,aj A.sa r.dQ.length A.sc,aF r.wed,aF r.dV,ah aA r.dW,aj A.ma r.dU.length A.mc] 44)).alloc (aH #[ah aA 0,aj ak 0 0,aj ak 0 0,aj ak 0 0,aF aC,aF aC,ah aA 0,aj ak 0 0] 44)).alloc (aH #[] 9)).heap.size:=by simp only[bH];omega
 have Bh:=dP hsz;obtain⟨⟨c0,c1,c2,c3⟩,c4,c5,c6,c7⟩:=Bx.r8 hx1;clear hb1 hb2 hb3 pK J8 hx1 hx2 hv hsz;unfold iK fQ;go_enter Tryz.func141,Tryz.ntmps141
 go_wp2_with fail
 generalize ((w.alloc (aH #[ah aA r.ver,aj A.ta r.txt.length A.tc,aj A.ga r.got.length A.gc,aj A.sa r.dQ.length A.sc,aF r.wed,aF r.dV,ah aA r.dW,aj A.ma r.dU.length A.mc] 44)).alloc (aH #[ah aA 0,aj ak 0 0,aj ak 0 0,aj ak 0 0,aF aC,aF aC,ah aA 0,aj ak 0 0] 44)).alloc (aH #[] 9)=W0 at *;clear c0 c1 c2 c3 c4 c5 c6 c7
 go_loopw [3,10] (fun v k wr=>∃ (j:Nat) (a:Option dH) (cc:Nat) (Z:List (List UInt8)) (fz:Fp),j<=r.txt.length/\k=ah aA (j:Int)/\v=aj a Z.length cc/\aG (Z=r.txt.take j)/\dY.ow wr (pO Z) (aj a Z.length cc) fz/\(∀ b,fz b->w.heap.size+1+1<=b)/\Bx wr w.heap.size 44 #[ah aA r.ver,aj A.ta r.txt.length A.tc,aj A.ga r.got.length A.gc,aj A.sa r.dQ.length A.sc,aF r.wed,aF r.dV,ah aA r.dW,aj A.ma r.dU.length A.mc]/\Bx wr (w.heap.size+1) 44 #[ah aA 0,aj ak 0 0,aj ak 0 0,aj ak 0 0,aF aC,aF aC,ah aA 0,aj ak 0 0]/\Below w.heap.size w wr) (fun _ k _=>r.txt.length-(dG k).toNat)
 case atStart=>exact⟨0,some ⟨w.heap.size+1+1,0,none⟩,0,[],_,cZ _,rfl,rfl,rfl,jv.out,fun b h=>h.elim,qH.out,l9.out,HB0.out⟩
 case round =>
  obtain⟨j,a,cc,Z,fz,hj,rfl,rfl,hZ,hO,hfz,hx1,hx2,hb⟩:=hrel;have HO:=dP hO;have Cm:=dP hx1;have SV:=dP hx2;have HB:=dP hb;have hsr:=hx2.lt;clear hO qH l9 HB0 jv Bh;by_cases hlt:j<r.txt.length
  ·rcases (HV.out.below hb).txt.Vu with h0|⟨tb,tq,hta,htc⟩
   ·omega
   have hck:=htc j hlt;have hlen:(r.txt.getD j []).length<=1048576:=by have:=Rl r.txt hlt;omega
   have hC:=clone_any (r.txt.getD j []) wr hlen;have HN:aG (r.txt.take (j+1)=Z++[r.txt.getD j []]):=by rw[aG,hZ.out,aQ hlt];simp[List.getD,hlt]
   have HZl:aG (Z.length<=1000000):=by rw[aG,hZ.out,bM];omega
   have k0:(0:Int)<=j:=by omega
   have k1:(j:Int)<r.txt.length:=by omega
   rw[hta];clear hx1 hx2 hb htc hZ hlen;generalize r.txt.getD j []=t at *;go_wp2_with (first|(go_at_call 93;refine hC.mono ?_;rintro e w1 ⟨rfl,hb1⟩;have aL0:aG (Bx w1 w.heap.size 44 #[ah aA r.ver,aj A.ta r.txt.length A.tc,aj A.ga r.got.length A.gc,aj A.sa r.dQ.length A.sc,aF r.wed,aF r.dV,ah aA r.dW,aj A.ma r.dU.length A.mc]):=Cm.out.below hb1;have aL1:aG (Bx w1 (w.heap.size+1) 44 #[ah aA 0,aj ak 0 0,aj ak 0 0,aj ak 0 0,aF aC,aF aC,ah aA 0,aj ak 0 0]):=SV.out.below hb1;have HB1:aG (Below w.heap.size w w1):=eU HB.out hb1;have hs1:=hb1.size;obtain⟨a',c',ea,hA⟩:=IZ t (dY.ig HO.out hb1) HZl.out;cases ea;clear hb1 hck)|(at_builtin;refine fG (by rfl) _ _ _ _ (by rfl) _ _ (by rfl) (by rfl) hA ⟨rfl,rfl,rfl,rfl⟩ ?_;rintro v1 w2 ⟨a1,e1,f1,rfl,q1,q2,q3⟩;have tN:aG (dY.ow w2 (pO (Z++[t])) (aj a1 (Z.length+1) e1) f1):=q1;have zO:aG (∀ b,f1 b->fz b\/w1.heap.size<=b):=q2;have zQ:aG (eX fz w1 w2):=q3;clear q1 q2 q3 hA))
   have HL:aG ((Z++[t]).length=Z.length+1):=by rw[aG,bD];rfl
   go_roundw
   case rel=>exact⟨j+1,a1,e1,Z++[t],f1,by omega,by go_num,by rw[HL.out],HN.out.symm,by rw[HL.out];exact tN.out,fun b hb=>(zO.out b hb).elim (hfz b) (fun h=>by omega),by rw[<- hta];exact aL0.out.wrt zQ.out (fun k=>by have:=hfz _ k;omega),aL1.out.wrt zQ.out (fun k=>by have:=hfz _ k;omega),zQ.out.below HB1.out HB1.out.size (fun b hb=>by have:=hfz b hb;omega)⟩
   case measure=>simp[dG];omega
  ·have k1:¬ ((j:Int)<r.txt.length):=by omega
   have ej:j=r.txt.length:=by omega
   have eZ:Z=r.txt:=by rw[hZ.out,ej,List.take_length]
   subst eZ;have nM:=HV.out.below hb
   have KS:∀ X,Below wr.heap.size wr X->X.cell? ⟨w.heap.size,2,ak⟩=au (aj A.ga r.got.length A.gc)/\X.cell? ⟨w.heap.size,3,ak⟩=au (aj A.sa r.dQ.length A.sc)/\X.cell? ⟨w.heap.size,7,ak⟩=au (aj A.ma r.dU.length A.mc):=fun X hX=>by
    obtain⟨⟨d0,d1,d2,d3⟩,d4,d5,d6,d7⟩:=Bx.r8 (Cm.out.below hX);exact⟨d2,d3,d7⟩
   have hbd:=(Same.drewN wr 1).below;have hC1:=CV A.ga A.gc r.got wr.drew (nM.below hbd).got.vec (by omega)
   have HC2:aG (∀ X,Below wr.heap.size wr X->dF dA 167 #[aj A.sa r.dQ.length A.sc] X fun e w'=>EO X w' e r.dQ):=fun X hX=>CV A.sa A.sc r.dQ X (nM.below hX).dQ.vec (by omega)
   have HC3:aG (∀ X,Below wr.heap.size wr X->dF dA 167 #[aj A.ma r.dU.length A.mc] X fun e w'=>EO X w' e r.dU):=fun X hX=>CV A.ma A.mc r.dU X (nM.below hX).dU.vec (by omega)
   have SX:aG (∃ gb go,A.ga=au ⟨gb,go,ak⟩/\gb<w.heap.size):=by
    rcases HV.out.got.vec.2.2 with h|⟨gb,go,e,h⟩
    ·omega
    ·exact⟨gb,go,e,aX _ _ (h 0 hg)⟩
   have hwr:=HB.out.size;clear nM hx1 hx2 hb hZ hs ej HV;go_wp2_with fail
   refine lU (S:=fun X:aI=>X.cell? ⟨w.heap.size,2,ak⟩=au (aj A.ga r.got.length A.gc)/\X.cell? ⟨w.heap.size,3,ak⟩=au (aj A.sa r.dQ.length A.sc)/\X.cell? ⟨w.heap.size,7,ak⟩=au (aj A.ma r.dU.length A.mc)) 13 gq ((KS _ hbd)) fun hHeld=>?_
   refine fC (i:=0) rfl hHeld ?_;refine fC (i:=1) rfl hHeld ?_;refine fC (i:=2) rfl hHeld ?_;refine fC (i:=4) rfl hHeld ?_;refine fC (i:=5) rfl hHeld ?_;refine fC (i:=7) rfl hHeld ?_;refine fC (i:=8) rfl hHeld ?_;refine fE (i:=10) rfl ?_;refine iJ (i:=3) rfl fun K hK=>?_
   go_simp
   go_at_call 167
   refine hC1.mono ?_;rintro e V1 ⟨a1,e1,rfl,f1,o1,p1,b1⟩;have uM:=eU hbd b1;refine hK.out _ _ (KS _ uM) (fun eP=>?_)
   clear hK hHeld;have hHeld:=eP;try simp only[iC]
   refine iJ (i:=6) rfl fun K hK=>?_
   go_simp
   go_at_call 167
   refine (HC2.out V1 uM).mono ?_;rintro e V2 ⟨a2,e2,rfl,f2,o2,p2,b2⟩;have P7:=eU uM b2;refine hK.out _ _ (KS _ P7) (fun eP=>?_)
   clear hK hHeld;have hHeld:=eP;try simp only[iC]
   refine iJ (i:=9) rfl fun K hK=>?_
   go_simp
   go_at_call 167
   refine (HC3.out V2 P7).mono ?_;rintro e V3 ⟨a3,e3,rfl,f3,o3,p3,b3⟩;have H9:=eU P7 b3;refine hK.out _ _ (KS _ H9) (fun eP=>?_)
   clear hK hHeld;have hHeld:=eP;try simp only[iC]
   have hX3:=Cm.out.below H9;have SY:Bx (V3.setCell ⟨w.heap.size,1,ak⟩ (aj a r.txt.length cc)) w.heap.size 44 #[ah aA r.ver,aj a r.txt.length cc,aj A.ga r.got.length A.gc,aj A.sa r.dQ.length A.sc,aF r.wed,aF r.dV,ah aA r.dW,aj A.ma r.dU.length A.mc]:=by simpa using hX3.lK 1 (aj a r.txt.length cc)
   have Ls:Bx ((V3.setCell ⟨w.heap.size,1,ak⟩ (aj a r.txt.length cc)).setCell ⟨w.heap.size,2,ak⟩ (aj a1 r.got.length e1)) w.heap.size 44 #[ah aA r.ver,aj a r.txt.length cc,aj a1 r.got.length e1,aj A.sa r.dQ.length A.sc,aF r.wed,aF r.dV,ah aA r.dW,aj A.ma r.dU.length A.mc]:=by simpa using SY.lK 2 (aj a1 r.got.length e1)
   have Jg:Bx (((V3.setCell ⟨w.heap.size,1,ak⟩ (aj a r.txt.length cc)).setCell ⟨w.heap.size,2,ak⟩ (aj a1 r.got.length e1)).setCell ⟨w.heap.size,3,ak⟩ (aj a2 r.dQ.length e2)) w.heap.size 44 #[ah aA r.ver,aj a r.txt.length cc,aj a1 r.got.length e1,aj a2 r.dQ.length e2,aF r.wed,aF r.dV,ah aA r.dW,aj A.ma r.dU.length A.mc]:=by simpa using Ls.lK 3 (aj a2 r.dQ.length e2)
   have Xu:Bx ((((V3.setCell ⟨w.heap.size,1,ak⟩ (aj a r.txt.length cc)).setCell ⟨w.heap.size,2,ak⟩ (aj a1 r.got.length e1)).setCell ⟨w.heap.size,3,ak⟩ (aj a2 r.dQ.length e2)).setCell ⟨w.heap.size,7,ak⟩ (aj a3 r.dU.length e3)) w.heap.size 44 #[ah aA r.ver,aj a r.txt.length cc,aj a1 r.got.length e1,aj a2 r.dQ.length e2,aF r.wed,aF r.dV,ah aA r.dW,aj a3 r.dU.length e3]:=by simpa using Jg.lK 7 (aj a3 r.dU.length e3)
   have hs3:=H9.size;have aO0:=b2.size;have aO1:=b3.size;have hs2:=P7.size;have hs1:=uM.size;have hW7:eX (fun x=>x=w.heap.size) V3 ((((V3.setCell ⟨w.heap.size,1,ak⟩ (aj a r.txt.length cc)).setCell ⟨w.heap.size,2,ak⟩ (aj a1 r.got.length e1)).setCell ⟨w.heap.size,3,ak⟩ (aj a2 r.dQ.length e2)).setCell ⟨w.heap.size,7,ak⟩ (aj a3 r.dU.length e3)):=(((eX.set V3 w.heap.size 1 _).trans (eX.set _ w.heap.size 2 _) (fun _ _ h=>h)).trans (eX.set _ w.heap.size 3 _) (fun _ _ h=>h)).trans (eX.set _ w.heap.size 7 _) (fun _ _ h=>h)
   have VK:=SV.out.below H9
   have Jt:aG (∀ X:aI,X.cell? ⟨w.heap.size,2,ak⟩=au (aj a1 r.got.length e1)->¬ (X.cell? ⟨w.heap.size,2,ak⟩=au (aj A.ga r.got.length A.gc)/\X.cell? ⟨w.heap.size,3,ak⟩=au (aj A.sa r.dQ.length A.sc)/\X.cell? ⟨w.heap.size,7,ak⟩=au (aj A.ma r.dU.length A.mc))):=fun X h hk=>by
    have e:=bT (h.symm.trans hk.1);obtain⟨g1,q1,k1,e',hf1,_⟩:=nR o1 hg;obtain⟨gb,go,hga,hlt⟩:=SX.out;rw[hga] at e;rw[e] at e'
    cases e'
    have:=p1 _ hf1;have hd:wr.drew.heap.size=wr.heap.size:=rfl;omega
   have HFin:aG (Bx ((((V3.setCell ⟨w.heap.size,1,ak⟩ (aj a r.txt.length cc)).setCell ⟨w.heap.size,2,ak⟩ (aj a1 r.got.length e1)).setCell ⟨w.heap.size,3,ak⟩ (aj a2 r.dQ.length e2)).setCell ⟨w.heap.size,7,ak⟩ (aj a3 r.dU.length e3)) w.heap.size 44 #[ah aA r.ver,aj a r.txt.length cc,aj a1 r.got.length e1,aj a2 r.dQ.length e2,aF r.wed,aF r.dV,ah aA r.dW,aj a3 r.dU.length e3]/\Bx ((((V3.setCell ⟨w.heap.size,1,ak⟩ (aj a r.txt.length cc)).setCell ⟨w.heap.size,2,ak⟩ (aj a1 r.got.length e1)).setCell ⟨w.heap.size,3,ak⟩ (aj a2 r.dQ.length e2)).setCell ⟨w.heap.size,7,ak⟩ (aj a3 r.dU.length e3)) (w.heap.size+1) 44 #[ah aA 0,aj ak 0 0,aj ak 0 0,aj ak 0 0,aF aC,aF aC,ah aA 0,aj ak 0 0]/\∃ f,gB ((((V3.setCell ⟨w.heap.size,1,ak⟩ (aj a r.txt.length cc)).setCell ⟨w.heap.size,2,ak⟩ (aj a1 r.got.length e1)).setCell ⟨w.heap.size,3,ak⟩ (aj a2 r.dQ.length e2)).setCell ⟨w.heap.size,7,ak⟩ (aj a3 r.dU.length e3)) (jM r) (jr ⟨a,cc,a1,e1,a2,e2,a3,e3⟩ r) f/\(∀ b,f b->w.heap.size+1+1<=b)/\Below w.heap.size w ((((V3.setCell ⟨w.heap.size,1,ak⟩ (aj a r.txt.length cc)).setCell ⟨w.heap.size,2,ak⟩ (aj a1 r.got.length e1)).setCell ⟨w.heap.size,3,ak⟩ (aj a2 r.dQ.length e2)).setCell ⟨w.heap.size,7,ak⟩ (aj a3 r.dU.length e3))):=by
    have hd:wr.drew.heap.size=wr.heap.size:=rfl;have q0:=dY.ig HO.out H9;have q1:=dY.ig (dY.ig o1 b2) b3;have q2:=dY.ig o2 b3;have l0:=dY.kW HO.out;have l1:=dY.kW o1;have l2:=dY.kW o2
    have hall:∀ b,(fz b\/f1 b\/f2 b\/f3 b)->w.heap.size+1+1<=b:=by
     rintro b (k|k|k|k)
     ·exact hfz b k
     ·have:=p1 b k;omega
     ·have:=p2 b k;omega
     ·have:=p3 b k;omega
    have hL := YQ q0 q1 q2 o3 (fun b k k' => by
     have:=l0 b k;rcases k' with k'|k'|k'
     ·have:=p1 b k';omega
     ·have:=p2 b k';omega
     ·have:=p3 b k';omega) (fun b k k'=>by
     have:=l1 b k;rcases k' with k'|k'
     ·have:=p2 b k';omega
     ·have:=p3 b k';omega) (fun b k k'=>by
     have:=l2 b k;have:=p3 b k'
     omega)
    have hB3:=eU HB.out H9;exact⟨Xu,VK.wrt hW7 (fun e=>by omega),_,iy hL hW7 (fun b hb e=>by have:=hall b hb;omega),hall,hW7.below hB3 hB3.size (fun b e=>by omega)⟩
   have x1:=hX3.at 1 (v:=aj A.ta r.txt.length A.tc) rfl;have y1:=hX3.f 1;have x2:=SY.at 2 (v:=aj A.ga r.got.length A.gc) rfl;have y2:=SY.f 2;have x3:=Ls.at 3 (v:=aj A.sa r.dQ.length A.sc) rfl;have y3:=Ls.f 3;have x7:=Jg.at 7 (v:=aj A.ma r.dU.length A.mc) rfl;have y7:=Jg.f 7;have n5:=Jt.out _ (Ls.at 2 (v:=aj a1 r.got.length e1) rfl);have n6:=Jt.out _ (Jg.at 2 (v:=aj a1 r.got.length e1) rfl);have k4:(V3.setCell ⟨w.heap.size,1,ak⟩ (aj a r.txt.length cc)).cell? ⟨w.heap.size,2,ak⟩=au (aj A.ga r.got.length A.gc)/\(V3.setCell ⟨w.heap.size,1,ak⟩ (aj a r.txt.length cc)).cell? ⟨w.heap.size,3,ak⟩=au (aj A.sa r.dQ.length A.sc)/\(V3.setCell ⟨w.heap.size,1,ak⟩ (aj a r.txt.length cc)).cell? ⟨w.heap.size,7,ak⟩=au (aj A.ma r.dU.length A.mc):=⟨x2,SY.at 3 (v:=aj A.sa r.dQ.length A.sc) rfl,SY.at 7 (v:=aj A.ma r.dU.length A.mc) rfl⟩;clear o1 o2 o3 p1 p2 p3 b1 b2 b3 hX3 SY Ls Jg Xu hW7 VK Jt Cm SV HC2 HC3 uM P7 H9 hbd KS SX;refine iJ (i:=11) rfl fun K hK=>?_
   go_simp;refine hK.out _ _ k4 (fun eP=>?_)
   clear hK hHeld;have hHeld:=eP;try simp only[iC]
   refine fE (i:=12) rfl ?_;refine ao2 rfl (by kernel_rfl) (fun K hK=>?_)
   go_simp;refine hK.out _ _ ?_;try simp only[iC]
   refine fE (i:=14) rfl ?_;refine SS (i:=15) n5 rfl (by kernel_rfl) (fun K hK=>?_)
   go_simp;refine hK.out _ _ ?_;try simp only[iC]
   refine fE (i:=16) rfl ?_;refine SS (i:=17) n6 rfl (by kernel_rfl) (fun K hK=>?_)
   go_simp;refine hK.out _ _ ?_;try simp only[iC]
   refine uO (by kernel_rfl) ?_
   clear hHeld x1 x2 x3 x7 y1 y2 y3 y7 n5 n6 k4;obtain⟨Xu,Sz,f,hL7,hf7,D9⟩:=HFin.out;generalize (((V3.setCell ⟨w.heap.size,1,ak⟩ (aj a r.txt.length cc)).setCell ⟨w.heap.size,2,ak⟩ (aj a1 r.got.length e1)).setCell ⟨w.heap.size,3,ak⟩ (aj a2 r.dQ.length e2)).setCell ⟨w.heap.size,7,ak⟩ (aj a3 r.dU.length e3)=W7 at *;have HN:aG (∀ {z0 z1 z2 z3 z4 z5 z6 z7:aJ},kE w ((((((((W7.setCell ⟨w.heap.size+1,0,ak⟩ z0).setCell ⟨w.heap.size+1,1,ak⟩ z1).setCell ⟨w.heap.size+1,2,ak⟩ z2).setCell ⟨w.heap.size+1,3,ak⟩ z3).setCell ⟨w.heap.size+1,4,ak⟩ z4).setCell ⟨w.heap.size+1,5,ak⟩ z5).setCell ⟨w.heap.size+1,6,ak⟩ z6).setCell ⟨w.heap.size+1,7,ak⟩ z7) (jM r) (jr ⟨a,cc,a1,e1,a2,e2,a3,e3⟩ r)):=fun {z0 z1 z2 z3 z4 z5 z6 z7}=>⟨f,iy hL7 (JK W7 (w.heap.size+1)) (fun b hb e=>by have:=hf7 b hb;omega),fun b hb=>by have:=hf7 b hb;omega,(JK W7 (w.heap.size+1)).below D9 D9.size (fun b e=>by omega)⟩
   obtain⟨⟨x0,x1,x2,x3⟩,x4,x5,x6,x7⟩:=Bx.r8 Xu;obtain⟨⟨z0,z1,z2,z3⟩,z4,z5,z6,z7⟩:=Bx.r8 Sz;obtain⟨⟨f0,f1',f2',f3'⟩,f4,f5,f6,f7⟩:=Sz.f8;clear HFin Xu Sz hL7 hf7 D9;go_wp2;refine bY (v:=iK ⟨a,cc,a1,e1,a2,e2,a3,e3⟩ r) (by simp[results,Tryz.results141,go_sem,iK,fQ, *]) rfl ?_
   exact⟨_,rfl,HN.out⟩
end
def Fq (A:Ma) (m:Mb):Array aJ:=#[ah aA m.id,aj A.ra m.rows.length A.rc,aj A.sa m.dR.length A.sc,aF m.done]
def Ju (A:Ma) (m:Mb):aJ:=.agg (Fq A m)
def aG6 (w w':aI) (e:Ending) (m:Mb):Prop:=∃ A:Ma,e=aK (Ju A m)/\kE w w' (jB m) (jC A m)
theorem Bx.r4 {w:aI} {B:Nat} {T:TypeId} {x0 x1 x2 x3:aJ} (h:Bx w B T #[x0,x1,x2,x3]):w.cell? ⟨B,0,ak⟩=au x0/\w.cell? ⟨B,1,ak⟩=au x1/\w.cell? ⟨B,2,ak⟩=au x2/\w.cell? ⟨B,3,ak⟩=au x3:=⟨h.at 0 rfl,h.at 1 rfl,h.at 2 rfl,h.at 3 rfl⟩
theorem UY (w:aI) (g:Nat) {a b c d:aJ}:eX (fun x=>x=g) w ((((w.setCell ⟨g,0,ak⟩ a).setCell ⟨g,1,ak⟩ b).setCell ⟨g,2,ak⟩ c).setCell ⟨g,3,ak⟩ d) :=
 (((eX.set w g 0 a).trans (eX.set _ g 1 b) (fun _ _ h=>h)).trans (eX.set _ g 2 c) (fun _ _ h=>h)).trans (eX.set _ g 3 d) (fun _ _ h=>h)
theorem az9 {k:Nat} (h:k<=100):k<=1000000:=bZ h (by decide)
theorem ao3 (v : Value) (w : World) : (Go.method 326 44 v "loop.example/g00266/impl.anew").run Tryz.prog w = .ok (141, v) w := by kernel_rfl
theorem UZ {X X1:aI} {R:List Rw} {a:Option dH} {c:Nat} {f:Fp} (h:dY.ow X (iH 8 jo R) (aj a R.length c) f) (hb:Below X.heap.size X X1) {r:Rw} {Ar:Ra} {fr:Fp} (hr:gB X1 (jM r) (jr Ar r) fr) (hfr:∀ b,fr b->X.heap.size<=b) (hl:R.length<=1000000) :
  ∀ Y,Same Y (X1.alloc (aH (fQ Ar r) 44))->∃ v' w4,(bU #[45,45] 45 #[aj a R.length c,aj (au ⟨X1.heap.size,0,ak⟩) 1 1]).run dA Y=.ok v' w4 /\
   ∃ a' c' f',v'=aj a' (R.length+1) c'/\dY.ow w4 (iH 8 jo (R++[r])) (aj a' (R++[r]).length c') f'/\(∀ b,f' b->f b\/X.heap.size<=b)/\eX f X w4:=by
 intro Y hY;have lg:=(dX X1 _).trans (hY.below.mono (dX X1 _).size);have h2:=dY.ig (dY.ig h hb) lg;have uQ:=Ez (gG hr lg);have hpl:=dY.kW h;have BX:=hb.size;obtain⟨a',c',w4,fp',k1,k2,k3,k4⟩:=sW (P:=dA) jU (w:=Y) 45 45 44 _ 120 Tryz.underlying45 Tryz.infoRw rfl (by omega) (x:=r) h2 uQ (fun b hb1 hb2=>by have:=hpl b hb1;have:=hfr b hb2;omega) (by intro u hu;simp[fQ] at hu;rcases hu with h|h|h|h|h|h|h|h<;>rw[h]<;>rfl) X1.heap.size 44 (by rw[hY.heap];exact heap_alloc_new X1 _) (by unfold dD;omega) (by omega)
 have hYs:X1.heap.size<Y.heap.size:=by rw[hY.size];simp
 have sZ:=eU hb lg;refine⟨_,w4,k1,a',c',fp',rfl,by rw[bD];exact k2,fun b hb1=>?_,(eX.of_below sZ).trans k3 (fun b _ h=>h)⟩
 rcases k4 b hb1 with k|k|k
 ·exact .inl k
 ·exact .inr (hfr b k)
 ·exact .inr (by omega)
theorem ao4 (A:Ma) (m:Mb) (w:aI) (hv:tY w A m) (hok:∀ k,k<m.rows.length->0<(dO m.rows k).got.length/\kH (dO m.rows k)<=1000) (hml:m.rows.length<=5) :
  dF dA 181 #[aj A.ra m.rows.length A.rc] w fun e w'=>∃ a c,e=aK (aj a m.rows.length c)/\oN w w' (iH 8 jo m.rows) (aj a m.rows.length c):=by
 have hb0:=dX w (aH #[] 44);have HB0:=dP hb0;have jv:aG (dY.ow (w.alloc (aH #[] 44)) (iH 8 jo []) (aj (au ⟨w.heap.size,0,ak⟩) 0 0) (fun _=>False)):=⟨au ⟨w.heap.size,0,ak⟩,0,[],ak,fun _=>False,rfl,iQ.nil _ _ (kL _ _),⟨rfl,fun _ h=>h⟩,fun _ _ h=>h,fun b=>by simp⟩
 have HV:aG (tY w A m):=hv;have iE:=dP hok;clear hb0 hv hok;go_enter Tryz.func181,Tryz.ntmps181
 go_wp2_with fail
 generalize w.alloc (aH #[] 44)=W0 at *
 go_loopw [3,9] (fun v k wr=>∃ (j:Nat) (a:Option dH) (cc:Nat) (Z:List Rw) (fz:Fp),j<=m.rows.length/\k=ah aA (j:Int)/\v=aj a Z.length cc/\aG (Z=m.rows.take j)/\dY.ow wr (iH 8 jo Z) (aj a Z.length cc) fz/\(∀ b,fz b->w.heap.size<=b)/\Below w.heap.size w wr) (fun _ k _=>m.rows.length-(dG k).toNat)
 case atStart=>exact⟨0,some ⟨w.heap.size,0,none⟩,0,[],_,cZ _,rfl,rfl,rfl,jv.out,fun b h=>h.elim,HB0.out⟩
 case round =>
  obtain⟨j,a,cc,Z,fz,hj,rfl,rfl,hZ,hO,hfz,hb⟩:=hrel;by_cases hlt:j<m.rows.length
  ·have k1:(j:Int)<m.rows.length:=by omega
   have k0:(0:Int)<=j:=by omega
   obtain⟨g,off,Ak,hra,⟨⟨d0,d1,d2,d3⟩,d4,d5,d6,d7⟩,nM⟩:=(HV.out.below hb).row hlt;obtain⟨hg0,hsr⟩:=iE.out j hlt
   have HN:aG (Z++[dO m.rows j]=m.rows.take (j+1)):=by
    rw[aG,hZ.out,aQ hlt];simp[dO,List.getD,hlt]
   have zN:Z.length<=1000000:=az9 (by rw[hZ.out,bM];omega)
   rw[hra];have HRa:=dP hra;generalize dO m.rows j=r at *;have hba:=dX wr (aH #[ah aA r.ver,aj Ak.ta r.txt.length Ak.tc,aj Ak.ga r.got.length Ak.gc,aj Ak.sa r.dQ.length Ak.sc,aF r.wed,aF r.dV,ah aA r.dW,aj Ak.ma r.dU.length Ak.mc] 44);have hxr:=Bx.new wr 44 #[ah aA r.ver,aj Ak.ta r.txt.length Ak.tc,aj Ak.ga r.got.length Ak.gc,aj Ak.sa r.dQ.length Ak.sc,aF r.wed,aF r.dV,ah aA r.dW,aj Ak.ma r.dU.length Ak.mc];have mZ:=dP hba;have HB:=dP hb;have HO:=dP (dY.ig hO hba);have hAn:=CW Ak r (wr.alloc (aH #[ah aA r.ver,aj Ak.ta r.txt.length Ak.tc,aj Ak.ga r.got.length Ak.gc,aj Ak.sa r.dQ.length Ak.sc,aF r.wed,aF r.dV,ah aA r.dW,aj Ak.ma r.dU.length Ak.mc] 44)) (nM.below hba) hg0 hsr;unfold iK at hAn;unfold fQ at hAn;obtain⟨⟨x0,x1,x2,x3⟩,x4,x5,x6,x7⟩:=Bx.r8 hxr;clear nM hb hO hxr hba hra;go_upto_region 5 with fail
   clear d0 d1 d2 d3 d4 d5 d6 d7;generalize wr.alloc (aH #[ah aA r.ver,aj Ak.ta r.txt.length Ak.tc,aj Ak.ga r.got.length Ak.gc,aj Ak.sa r.dQ.length Ak.sc,aF r.wed,aF r.dV,ah aA r.dW,aj Ak.ma r.dU.length Ak.mc] 44)=W5 at *;have hmt:=ao3 (aP #[ah aA r.ver,aj Ak.ta r.txt.length Ak.tc,aj Ak.ga r.got.length Ak.gc,aj Ak.sa r.dQ.length Ak.sc,aF r.wed,aF r.dV,ah aA r.dW,aj Ak.ma r.dU.length Ak.mc]);go_wp2_with fail
   refine hAn.mono ?_;rintro e V1 ⟨Ar,rfl,fr,hr1,hr2,hr3⟩;have hA:=UZ HO.out hr3 hr1 hr2 zN;have HR3:=dP hr3;have HR2:=dP hr3.size;have Xv:=dP mZ.out.size;clear hAn hmt x0 x1 x2 x3 x4 x5 x6 x7 hr1 hr2 hr3;unfold iK;unfold fQ at hA ⊢;go_wp2_with (at_builtin;refine fG (by rfl) _ _ _ _ (by rfl) _ _ (by rfl) (by rfl) hA ⟨rfl,rfl,rfl,rfl⟩ ?_;rintro v1 w1 ⟨a1,e1,f1,rfl,q1,q2,q3⟩;have tN:aG (dY.ow w1 (iH 8 jo (Z++[r])) (aj a1 (Z++[r]).length e1) f1):=q1;have zO:aG (∀ b,f1 b->fz b\/W5.heap.size<=b):=q2;have zQ:aG (eX fz W5 w1):=q3;clear q1 q2 q3 hA)
   have HL:aG ((Z++[r]).length=Z.length+1):=by rw[aG,bD];rfl
   have hs1:=HB.out.size;have hs2:=Xv.out;go_roundw
   case rel=>exact⟨j+1,a1,e1,Z++[r],f1,by omega,by go_num,by rw[HL.out],HN.out,tN.out,fun b hb=>(zO.out b hb).elim (hfz b) (fun h=>by omega),zQ.out.below (eU HB.out mZ.out) (by omega) (fun b hb=>hfz b hb)⟩
   case measure=>simp[dG];omega
  ·have k1:¬ ((j:Int)<m.rows.length):=by omega
   have eZ:Z=m.rows:=by rw[hZ.out,show j=m.rows.length by omega,List.take_length]
   subst eZ;have HO:aG (oN w wr (iH 8 jo m.rows) (aj a m.rows.length cc)):=⟨fz,hO,hfz,hb⟩;clear hO hb hZ;go_wp2;go_ret
   exact⟨a,cc,rfl,HO.out⟩
theorem S9 (A:Ma) (m:Mb) (w:aI) (hv:tY w A m) (hok:∀ k,k<m.rows.length->0<(dO m.rows k).got.length/\kH (dO m.rows k)<=1000) (hml:m.rows.length<=5) (hsl:m.dR.length<=100) :
  dF dA 165 #[iU A m] w fun e w'=>Uw w w' e m:=by
 have hb1:=dX w (aH #[ah aA m.id,ah aA m.n,aj A.ra m.rows.length A.rc,aj A.sa m.dR.length A.sc,aF m.done] 47);have hb2:=dX (w.alloc (aH #[ah aA m.id,ah aA m.n,aj A.ra m.rows.length A.rc,aj A.sa m.dR.length A.sc,aF m.done] 47)) (aH #[ah aA 0,ah aA 0,aj ak 0 0,aj ak 0 0,aF aC] 47);have hx1:Bx ((w.alloc (aH #[ah aA m.id,ah aA m.n,aj A.ra m.rows.length A.rc,aj A.sa m.dR.length A.sc,aF m.done] 47)).alloc (aH #[ah aA 0,ah aA 0,aj ak 0 0,aj ak 0 0,aF aC] 47)) w.heap.size 47 #[ah aA m.id,ah aA m.n,aj A.ra m.rows.length A.rc,aj A.sa m.dR.length A.sc,aF m.done]:=(Bx.new w _ _).alloc _
 have hx2:Bx ((w.alloc (aH #[ah aA m.id,ah aA m.n,aj A.ra m.rows.length A.rc,aj A.sa m.dR.length A.sc,aF m.done] 47)).alloc (aH #[ah aA 0,ah aA 0,aj ak 0 0,aj ak 0 0,aF aC] 47)) (w.heap.size+1) 47 #[ah aA 0,ah aA 0,aj ak 0 0,aj ak 0 0,aF aC]:=by
  have:=Bx.new (w.alloc (aH #[ah aA m.id,ah aA m.n,aj A.ra m.rows.length A.rc,aj A.sa m.dR.length A.sc,aF m.done] 47)) 47 #[ah aA 0,ah aA 0,aj ak 0 0,aj ak 0 0,aF aC];simp only[bH] at this;exact this
 have pK:Below w.heap.size w ((w.alloc (aH #[ah aA m.id,ah aA m.n,aj A.ra m.rows.length A.rc,aj A.sa m.dR.length A.sc,aF m.done] 47)).alloc (aH #[ah aA 0,ah aA 0,aj ak 0 0,aj ak 0 0,aF aC] 47)):=eU hb1 hb2;have hsz:w.heap.size+2=((w.alloc (aH #[ah aA m.id,ah aA m.n,aj A.ra m.rows.length A.rc,aj A.sa m.dR.length A.sc,aF m.done] 47)).alloc (aH #[ah aA 0,ah aA 0,aj ak 0 0,aj ak 0 0,aF aC] 47)).heap.size:=by simp only[bH]
 unfold iU iq;have qH:aG (Bx ((w.alloc (aH #[ah aA m.id,ah aA m.n,aj A.ra m.rows.length A.rc,aj A.sa m.dR.length A.sc,aF m.done] 47)).alloc (aH #[ah aA 0,ah aA 0,aj ak 0 0,aj ak 0 0,aF aC] 47)) w.heap.size 47 #[ah aA m.id,ah aA m.n,aj A.ra m.rows.length A.rc,aj A.sa m.dR.length A.sc,aF m.done]):=hx1;have l9:aG (Bx ((w.alloc (aH #[ah aA m.id,ah aA m.n,aj A.ra m.rows.length A.rc,aj A.sa m.dR.length A.sc,aF m.done] 47)).alloc (aH #[ah aA 0,ah aA 0,aj ak 0 0,aj ak 0 0,aF aC] 47)) (w.heap.size+1) 47 #[ah aA 0,ah aA 0,aj ak 0 0,aj ak 0 0,aF aC]):=hx2;have HB:aG (Below w.heap.size w ((w.alloc (aH #[ah aA m.id,ah aA m.n,aj A.ra m.rows.length A.rc,aj A.sa m.dR.length A.sc,aF m.done] 47)).alloc (aH #[ah aA 0,ah aA 0,aj ak 0 0,aj ak 0 0,aF aC] 47))):=pK;have HV:aG (tY w A m):=hv;have Bh:aG (w.heap.size+2=((w.alloc (aH #[ah aA m.id,ah aA m.n,aj A.ra m.rows.length A.rc,aj A.sa m.dR.length A.sc,aF m.done] 47)).alloc (aH #[ah aA 0,ah aA 0,aj ak 0 0,aj ak 0 0,aF aC] 47)).heap.size):=hsz;obtain⟨d0,d1,d2,d3,d4⟩:=Bx.r5 hx1;clear hb1 hb2 hx1 hx2 pK hsz hv;have gq:=iD;clear d0 d1 d2 d3 d4;go_enter Tryz.func165,Tryz.ntmps165
 go_upto_region 1 with fail
 generalize (w.alloc (aH #[ah aA m.id,ah aA m.n,aj A.ra m.rows.length A.rc,aj A.sa m.dR.length A.sc,aF m.done] 47)).alloc (aH #[ah aA 0,ah aA 0,aj ak 0 0,aj ak 0 0,aF aC] 47)=W0 at *;have hbd:Below W0.heap.size W0 W0.drew:=(Same.drewN W0 1).below;have KS:∀ X,Below W0.heap.size W0 X->X.cell? ⟨w.heap.size,3,ak⟩=au (aj A.sa m.dR.length A.sc):=fun X hX=>(Bx.r5 (qH.out.below hX)).2.2.2.1
 have d2:W0.drew.cell? ⟨w.heap.size,2,ak⟩=au (aj A.ra m.rows.length A.rc):=(Bx.r5 (qH.out.below hbd)).2.2.1;have hA1:=ao4 A m W0.drew ((HV.out.below HB.out).below hbd) hok hml;refine lU (S:=fun X:aI=>X.cell? ⟨w.heap.size,3,ak⟩=au (aj A.sa m.dR.length A.sc)) 9 gq ((KS _ hbd)) fun hHeld=>?_
 refine fE (i:=0) rfl ?_;refine fE (i:=3) rfl ?_;refine fC (i:=4) rfl hHeld ?_;refine iJ (i:=1) rfl fun K hK=>?_
 go_simp;refine hK.out _ _ (KS _ hbd) (fun eP=>?_)
 clear hK hHeld;have hHeld:=eP;try simp only[iC]
 refine iJ (i:=2) rfl fun K hK=>?_
 go_simp
 go_at_call 181
 refine hA1.mono ?_;rintro e W3 ⟨a1,c1,rfl,f1,o1,p1,b1⟩;have hb3:=eU hbd b1;have hA2:=CV A.sa A.sc m.dR W3 (HV.out.Js.dR.below (eU HB.out hb3) (cO _)) (by omega)
 refine hK.out _ _ (KS _ hb3) (fun eP=>?_)
 clear hK hHeld;have hHeld:=eP;try simp only[iC]
 refine fE (i:=6) rfl ?_;refine iJ (i:=5) rfl fun K hK=>?_
 go_simp
 go_at_call 167
 refine hA2.mono ?_;rintro e W4 ⟨a2,c2,rfl,f2,o2,p2,b2⟩;have hb4:=eU hb3 b2;have hx4:=qH.out.below hb4;have HX4:=dP hx4;have HY4:=dP (l9.out.below hb4);have HB4:=dP hb4;have BQ:aG (oN W0 W3 (iH 8 jo m.rows) (aj a1 m.rows.length c1)):=⟨f1,o1,p1,hb3⟩;have yT:aG (oN W3 W4 (gJ m.dR) (aj a2 m.dR.length c2)):=⟨f2,o2,p2,b2⟩;refine hK.out _ _ (KS _ hb4) (fun eP=>?_)
 clear hK hHeld;have hHeld:=eP;try simp only[iC]
 have e2:=hx4.f 2;clear d2;obtain⟨d0,d1,d2,d3,d4⟩:=Bx.r5 hx4;have hx6:Bx (W4.setCell ⟨w.heap.size,2,ak⟩ (aj a1 m.rows.length c1)) w.heap.size 47 #[ah aA m.id,ah aA m.n,aj a1 m.rows.length c1,aj A.sa m.dR.length A.sc,aF m.done]:=by simpa using hx4.lK 2 (aj a1 m.rows.length c1)
 have e3:=hx6.f 3;have z3:=hx6.at 3 (v:=aj A.sa m.dR.length A.sc) rfl;refine iJ (i:=7) rfl fun K hK=>?_
 go_simp;refine hK.out _ _ z3 (fun eP=>?_)
 clear hK hHeld;have hHeld:=eP;try simp only[iC]
 refine fE (i:=8) rfl ?_;refine oV rfl fun K hK=>?_
 go_simp;refine hK.out _ _ ?_;clear hK hHeld hx6 z3 e2 e3 d0 d1 d2 d3 d4 hx4 o1 o2 p1 p2 b1 b2 hb3 hb4 hbd KS hA1 hA2;go_upto_region 2 with fail
 have hx5:Bx ((W4.setCell ⟨w.heap.size,2,ak⟩ (aj a1 m.rows.length c1)).setCell ⟨w.heap.size,3,ak⟩ (aj a2 m.dR.length c2)) w.heap.size 47 #[ah aA m.id,ah aA m.n,aj a1 m.rows.length c1,aj a2 m.dR.length c2,aF m.done]:=by simpa using (HX4.out.lK 2 (aj a1 m.rows.length c1)).lK 3 (aj a2 m.dR.length c2)
 have hy5:Bx ((W4.setCell ⟨w.heap.size,2,ak⟩ (aj a1 m.rows.length c1)).setCell ⟨w.heap.size,3,ak⟩ (aj a2 m.dR.length c2)) (w.heap.size+1) 47 #[ah aA 0,ah aA 0,aj ak 0 0,aj ak 0 0,aF aC]:=(HY4.out.far (by omega) _).far (by omega) _
 have hw5:eX (fun x=>x=w.heap.size) W4 ((W4.setCell ⟨w.heap.size,2,ak⟩ (aj a1 m.rows.length c1)).setCell ⟨w.heap.size,3,ak⟩ (aj a2 m.dR.length c2)):=(eX.set W4 w.heap.size 2 _).trans (eX.set _ w.heap.size 3 _) (fun _ _ h=>h)
 have P8:aG (∃ f,gB ((W4.setCell ⟨w.heap.size,2,ak⟩ (aj a1 m.rows.length c1)).setCell ⟨w.heap.size,3,ak⟩ (aj a2 m.dR.length c2)) (jB m) (jC ⟨a1,c1,a2,c2⟩ m) f/\∀ b,f b->w.heap.size+2<=b):=by
  obtain⟨f1,o1,p1,b1⟩:=BQ.out;obtain⟨f2,o2,p2,b2⟩:=yT.out;have hs:=Bh.out;have hs1:=b1.size;have hl1:=dY.kW o1;refine⟨_,pX (dY.lJ (dY.ig o1 b2) hw5 (fun b hb e=>by have:=p1 b hb;omega)) (pX (dY.lJ o2 hw5 (fun b hb e=>by have:=p2 b hb;omega)) (⟨rfl,fun _ h=>h⟩:gB _ [] [] (fun _=>False)) (fun _ _ h=>h)) (fun b h1 h2=>by rcases h2 with h2|h2;have:=hl1 b h1;have:=p2 b h2;omega;exact h2),fun b hb=>?_⟩
  rcases hb with h|h|h
  ·have:=p1 b h;omega
  ·have:=p2 b h;omega
  ·exact h.elim
 have oM:aG (Below w.heap.size w ((W4.setCell ⟨w.heap.size,2,ak⟩ (aj a1 m.rows.length c1)).setCell ⟨w.heap.size,3,ak⟩ (aj a2 m.dR.length c2))):=by
  have hb:=eU HB.out HB4.out;exact hw5.below hb hb.size (fun b e=>by omega)
 clear hw5;obtain⟨d0,d1,d2,d3,d4⟩:=Bx.r5 hx5;obtain⟨z0,z1,z2,z3,z4⟩:=Bx.r5 hy5;obtain⟨y0,y1,y2,y3,y4⟩:=hy5.f5;clear hx5 hy5;generalize (W4.setCell ⟨w.heap.size,2,ak⟩ (aj a1 m.rows.length c1)).setCell ⟨w.heap.size,3,ak⟩ (aj a2 m.dR.length c2)=W5 at *
 have HN:aG (∀ {z0 z1 z2 z3 z4:aJ},kE w (((((W5.setCell ⟨w.heap.size+1,0,ak⟩ z0).setCell ⟨w.heap.size+1,1,ak⟩ z1).setCell ⟨w.heap.size+1,2,ak⟩ z2).setCell ⟨w.heap.size+1,3,ak⟩ z3).setCell ⟨w.heap.size+1,4,ak⟩ z4) (jB m) (jC ⟨a1,c1,a2,c2⟩ m)):=fun {z0 z1 z2 z3 z4}=>by
  obtain⟨f,h1,h2⟩:=P8.out;exact⟨f,iy h1 (qG W5 (w.heap.size+1)) (fun b hb e=>by have:=h2 b hb;omega),fun b hb=>by have:=h2 b hb;omega,(qG W5 (w.heap.size+1)).below oM.out oM.out.size (fun b e=>by omega)⟩
 go_wp2;refine bY (v:=iU ⟨a1,c1,a2,c2⟩ m) (by simp[results,Tryz.results165,go_sem,iU,iq, *]) rfl ?_
 exact⟨_,rfl,HN.out⟩
theorem Tc (A:Ma) (m:Mb) (i n:Nat) (w:aI) (hv:tY w A m) (ok:iO m i n) :
  dF dA 137 #[iU A m] w fun e w'=>aG6 w w' e m:=by
 have hb1:=dX w (aH #[ah aA m.id,ah aA m.n,aj A.ra m.rows.length A.rc,aj A.sa m.dR.length A.sc,aF m.done] 47);have hb2:=dX (w.alloc (aH #[ah aA m.id,ah aA m.n,aj A.ra m.rows.length A.rc,aj A.sa m.dR.length A.sc,aF m.done] 47)) (aH #[ah aA 0,aj ak 0 0,aj ak 0 0,aF aC] 183);have hx1:Bx ((w.alloc (aH #[ah aA m.id,ah aA m.n,aj A.ra m.rows.length A.rc,aj A.sa m.dR.length A.sc,aF m.done] 47)).alloc (aH #[ah aA 0,aj ak 0 0,aj ak 0 0,aF aC] 183)) w.heap.size 47 #[ah aA m.id,ah aA m.n,aj A.ra m.rows.length A.rc,aj A.sa m.dR.length A.sc,aF m.done]:=(Bx.new w _ _).alloc _
 have hx2:Bx ((w.alloc (aH #[ah aA m.id,ah aA m.n,aj A.ra m.rows.length A.rc,aj A.sa m.dR.length A.sc,aF m.done] 47)).alloc (aH #[ah aA 0,aj ak 0 0,aj ak 0 0,aF aC] 183)) (w.heap.size+1) 183 #[ah aA 0,aj ak 0 0,aj ak 0 0,aF aC]:=by
  have:=Bx.new (w.alloc (aH #[ah aA m.id,ah aA m.n,aj A.ra m.rows.length A.rc,aj A.sa m.dR.length A.sc,aF m.done] 47)) 183 #[ah aA 0,aj ak 0 0,aj ak 0 0,aF aC];simp only[bH] at this;exact this
 have pK:Below w.heap.size w ((w.alloc (aH #[ah aA m.id,ah aA m.n,aj A.ra m.rows.length A.rc,aj A.sa m.dR.length A.sc,aF m.done] 47)).alloc (aH #[ah aA 0,aj ak 0 0,aj ak 0 0,aF aC] 183)):=eU hb1 hb2;have hsz:w.heap.size+2=((w.alloc (aH #[ah aA m.id,ah aA m.n,aj A.ra m.rows.length A.rc,aj A.sa m.dR.length A.sc,aF m.done] 47)).alloc (aH #[ah aA 0,aj ak 0 0,aj ak 0 0,aF aC] 183)).heap.size:=by simp only[bH]
 have jq:=ok.n5
 have hA1 := S9 A m ((w.alloc (aH #[ah aA m.id,ah aA m.n,aj A.ra m.rows.length A.rc,aj A.sa m.dR.length A.sc,aF m.done] 47)).alloc (aH #[ah aA 0,aj ak 0 0,aj ak 0 0,aF aC] 183)) (hv.below pK) (fun k hk => by
  have h:=ok.ok k (by rw[<- ok.len];exact hk)
  exact⟨by rw[h.gl];omega,by have:=h.c8.2;omega⟩) (by rw[ok.len];omega) (by have:=ok.sl;omega)
 unfold iU iq at hA1;unfold iU iq;have l9:aG (Bx ((w.alloc (aH #[ah aA m.id,ah aA m.n,aj A.ra m.rows.length A.rc,aj A.sa m.dR.length A.sc,aF m.done] 47)).alloc (aH #[ah aA 0,aj ak 0 0,aj ak 0 0,aF aC] 183)) (w.heap.size+1) 183 #[ah aA 0,aj ak 0 0,aj ak 0 0,aF aC]):=hx2;have HB:aG (Below w.heap.size w ((w.alloc (aH #[ah aA m.id,ah aA m.n,aj A.ra m.rows.length A.rc,aj A.sa m.dR.length A.sc,aF m.done] 47)).alloc (aH #[ah aA 0,aj ak 0 0,aj ak 0 0,aF aC] 183))):=pK;have Bh:aG (w.heap.size+2=((w.alloc (aH #[ah aA m.id,ah aA m.n,aj A.ra m.rows.length A.rc,aj A.sa m.dR.length A.sc,aF m.done] 47)).alloc (aH #[ah aA 0,aj ak 0 0,aj ak 0 0,aF aC] 183)).heap.size):=hsz;obtain⟨d0,d1,d2,d3,d4⟩:=Bx.r5 hx1;clear hb1 hb2 hx1 hx2 pK hsz hv;go_enter Tryz.func137,Tryz.ntmps137
 go_upto_region 1 with fail
 generalize (w.alloc (aH #[ah aA m.id,ah aA m.n,aj A.ra m.rows.length A.rc,aj A.sa m.dR.length A.sc,aF m.done] 47)).alloc (aH #[ah aA 0,aj ak 0 0,aj ak 0 0,aF aC] 183)=W0 at *;go_wp2_with fail
 refine hA1.mono ?_;rintro e W3 ⟨A3,rfl,f3,h1,h2,h3⟩;unfold iU iq;have hb7:=dX W3 (aH #[ah aA m.id,ah aA m.n,aj A3.ra m.rows.length A3.rc,aj A3.sa m.dR.length A3.sc,aF m.done] 47);have hx7:=Bx.new W3 47 #[ah aA m.id,ah aA m.n,aj A3.ra m.rows.length A3.rc,aj A3.sa m.dR.length A3.sc,aF m.done];have Td:=(l9.out.below h3).below hb7;have HL7:aG (gB (W3.alloc (aH #[ah aA m.id,ah aA m.n,aj A3.ra m.rows.length A3.rc,aj A3.sa m.dR.length A3.sc,aF m.done] 47)) (jB m) (jC A3 m) f3/\∀ b,f3 b->w.heap.size+2<=b):=⟨gG h1 hb7,fun b hb=>by have:=h2 b hb;have:=Bh.out;omega⟩
 have LD:aG (Below w.heap.size w (W3.alloc (aH #[ah aA m.id,ah aA m.n,aj A3.ra m.rows.length A3.rc,aj A3.sa m.dR.length A3.sc,aF m.done] 47))):=by
  have hb:=eU HB.out h3;exact eU hb hb7
 clear d0 d1 d2 d3 d4 hA1 h1 h2 h3 hb7;obtain⟨d0,d1,d2,d3,d4⟩:=Bx.r5 hx7;obtain⟨z0,z1,z2,z3⟩:=Bx.r4 Td;have y0:=Td.f 0;have y1:=Td.f 1;have y2:=Td.f 2;have y3:=Td.f 3;clear hx7 Td;go_upto_region 2 with fail
 generalize W3.alloc (aH #[ah aA m.id,ah aA m.n,aj A3.ra m.rows.length A3.rc,aj A3.sa m.dR.length A3.sc,aF m.done] 47)=W5 at *
 have HN:aG (∀ {z0 z1 z2 z3:aJ},kE w ((((W5.setCell ⟨w.heap.size+1,0,ak⟩ z0).setCell ⟨w.heap.size+1,1,ak⟩ z1).setCell ⟨w.heap.size+1,2,ak⟩ z2).setCell ⟨w.heap.size+1,3,ak⟩ z3) (jB m) (jC A3 m)):=fun {z0 z1 z2 z3}=>by
  obtain⟨h1,h2⟩:=HL7.out;exact⟨f3,iy h1 (UY W5 (w.heap.size+1)) (fun b hb e=>by have:=h2 b hb;omega),fun b hb=>by have:=h2 b hb;omega,(UY W5 (w.heap.size+1)).below LD.out LD.out.size (fun b e=>by omega)⟩
 go_wp2;refine bY (v:=Ju A3 m) (by simp[results,Tryz.results137,go_sem,Ju,Fq, *]) rfl ?_
 exact⟨_,rfl,HN.out⟩
end Go.Proofs.YtafimeakbdmkjaaGreat