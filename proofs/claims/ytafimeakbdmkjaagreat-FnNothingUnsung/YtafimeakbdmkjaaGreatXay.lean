/-
  Texts in one.
-/
import Derived.Test.YtafimeakbdmkjaaGreatXaa
import Derived.Test.YtafimeakbdmkjaaGreatXau
import Derived.Test.YtafimeakbdmkjaaGreatXat
import Derived.Test.YtafimeakbdmkjaaGreatXax
import Derived.Test.YtafimeakbdmkjaaGreatXas
import Derived.Test.YtafimeakbdmkjaaGreatXaq
import Derived.Test.YtafimeakbdmkjaaGreatXao
import Derived.Test.YtafimeakbdmkjaaGreatXag
import Derived.Test.YtafimeakbdmkjaaGreatXam
import Derived.Test.YtafimeakbdmkjaaGreatXap
import Derived.Test.YtafimeakbdmkjaaGreatXah
namespace Go.Proofs.YtafimeakbdmkjaaGreat
open Bool renaming and_eq_true->bI,false->aC,true->aB
open Go renaming Addr->dH,Calls->dF,Value->aJ,World->aI,bodyPost_ret->bY
open Go.Ending renaming returned->aK
open Go.Instr renaming typeAssert->bK
open Go.IntKind renaming i64->aA
open Go.Obj renaming cells->aH
open Go.Proofs.Tryz renaming prog->dA
open Go.RowKit renaming Hid->aG,intOf->dG
open Go.RowKit.Below renaming refl->dw
open Go.Value renaming agg->aP,bool->aF,int->ah,int->dB,pointer->aO,slice->aj,string->aN
open Go.World renaming block_lt_of_cell?->aX,size_alloc->bH
open List renaming all_eq_true->bJ,getD_eq_getElem?_getD->aS,getElem?_eq_getElem->aV,length_cons->bP,length_set->bQ,replicate->bV,take_of_length_le->aY
open Nat renaming le_refl->cO,le_trans->bZ,zero_le->cZ
open Option renaming none->ak,some->au
set_option linter.unusedVariables false
set_option linter.unusedSimpArgs false
open Go.RowKit Go.Sort
set_option maxRecDepth 100000
set_option maxHeartbeats 12800000
variable {x:Ac} {i len n:Nat} {m:Mb} {q:Int} {X w:aI} {L:List Ac}
section
theorem af6 (v:aJ) (w:aI):(bK (.iface 159 v) 77 153 aB).run dA w=.ok (.tuple #[aP #[ah aA 0,.string .empty],aF aC]) w:=by kernel_rfl
theorem af7 (v:aJ) (w:aI):(bK (.iface 159 v) 77 155 aB).run dA w=.ok (.tuple #[aP #[ah aA 0,ah aA 0],aF aC]) w:=by kernel_rfl
theorem af8 (v:aJ) (w:aI):(bK (.iface 159 v) 77 156 aB).run dA w=.ok (.tuple #[aP #[ah aA 0,ah aA 0],aF aC]) w:=by kernel_rfl
theorem af9 (v:aJ) (w:aI):(bK (.iface 159 v) 77 158 aB).run dA w=.ok (.tuple #[aP #[ah aA 0],aF aC]) w:=by kernel_rfl
theorem ag0 (v:aJ) (w:aI):(bK (.iface 159 v) 77 159 aB).run dA w=.ok (.tuple #[v,aF aB]) w:=by kernel_rfl
attribute [local irreducible] sv
theorem as4 (B:Nat) (g:Gr) (n a:Nat) (b:Int) (fp:Fp) (w:aI) (h:iP w B 0 (fZ g) fp) (ok:OkG g n) (ha:a<n) (hb:ji b) :
  dF dA 83 #[aO (au ⟨B,0,ak⟩),.iface 159 (aP #[ah aA (a:Int),ah aA b])] w fun e w'=>e=aK (aF (fJ (eF g a) b).2)/\fH w w' B 0 (fZ { g with mem:=g.mem.set a (fJ (eF g a) b).1 }) fp:=by
 have gq:=iD;have hal:a<g.mem.length:=by rw[ok.ml];exact ha
 obtain⟨bb,off,c,G0⟩:=Gw.start h (by omega)
 have hba:=dX w (aH #[ah aA (a:Int),ah aA b] 159);have hxm:=Bx.new w 159 #[ah aA (a:Int),ah aA b];have G1:=G0.step hba;obtain⟨A,hc5,hf5,hmp⟩:=G1.mbP ok hal
 have hbw:bb<w.heap.size:=by
  obtain⟨_,⟨p0,_⟩,_⟩:=G0.mbP ok hal;exact aX _ _ p0
 have mD:=dP G1;have HX:=dP hxm;have XH:=dP hmp;have ug:=dP hc5;have tJ:=dP hf5;have om:=ok.mem a ha;have Ia:iG (eF g a)=aB:=nD.2 ⟨a,n,om⟩;have b0:(0:Int)<=a:=by omega
 have b1:(a:Int)<g.mem.length:=by omega
 clear h ok G0 G1 hba hxm hmp om hc5 hf5;have q1:=af6 (aP #[ah aA (a:Int),ah aA b]);have q2:=af7 (aP #[ah aA (a:Int),ah aA b]);have q3:=af8 (aP #[ah aA (a:Int),ah aA b]);have q4:=af9 (aP #[ah aA (a:Int),ah aA b]);have q5:=ag0 (aP #[ah aA (a:Int),ah aA b]);go_enter Tryz.func83,Tryz.ntmps83
 go_upto_region 17 with fail
 generalize (w.alloc (aH #[ah aA (a:Int),ah aA b] 159))=W1 at *;have hbd:=(Same.drewN W1 1).below;have Bj:=Yk A (eF g a) b W1.drew (XH.out.below hbd) hb;have HH:J3 (eF g a) b=(fJ (eF g a) b):=by rw[J3,if_pos Ia]
 rw[HH] at Bj;clear HH Ia hb;generalize hq2:(fJ (eF g a) b).2=hf2 at *;generalize hq1:(fJ (eF g a) b).1=m2 at *;have HE2:=dP hq2;have Rt:=dP hq1;clear hq1 hq2;generalize hmm:eF g a=m at *;have KS:∀ Z,Below W1.heap.size W1 Z->Z.cell? ⟨B,0,ak⟩=au (aj (au ⟨bb,off,ak⟩) g.mem.length c)/\Z.cell? ⟨w.heap.size,0,ak⟩=au (ah aA (a:Int))/\Z.cell? ⟨w.heap.size,1,ak⟩=au (ah aA b):=fun Z hZ=>⟨(mD.out.step hZ).mem,(HX.out.below hZ).at 0 rfl,(HX.out.below hZ).at 1 rfl⟩
 unfold iU iq at Bj;clear q1 q2 q3 q4 q5;refine lU (S:=fun Z:aI=>Z.cell? ⟨B,0,ak⟩=au (aj (au ⟨bb,off,ak⟩) g.mem.length c)/\Z.cell? ⟨w.heap.size,0,ak⟩=au (ah aA (a:Int))/\Z.cell? ⟨w.heap.size,1,ak⟩=au (ah aA b)) 26 gq ((KS _ hbd)) fun hHeld=>?_
 refine fE (i:=0) rfl ?_;refine fE (i:=1) rfl ?_;refine fE (i:=2) rfl ?_;refine ni (i:=3) rfl hHeld ?_;refine fE (i:=4) rfl ?_;refine fE (i:=5) rfl ?_;refine ni (i:=6) rfl hHeld ?_;refine fE (i:=7) rfl ?_;refine fE (i:=8) rfl ?_;refine fE (i:=9) rfl ?_;refine ni (i:=10) rfl hHeld ?_;refine fE (i:=11) rfl ?_;refine fE (i:=12) rfl ?_;refine ni (i:=13) rfl hHeld ?_;refine fE (i:=14) rfl ?_;refine fE (i:=16) rfl ?_;refine fE (i:=17) rfl ?_;refine ni (i:=18) rfl hHeld ?_;obtain⟨k0,k1,k2,k3,k4⟩:=ug.out;refine iJ (i:=15) rfl fun K hK=>?_
 go_simp;refine hK.out _ _ (KS _ hbd) (fun eP=>?_)
 clear hK hHeld;have hHeld:=eP;try simp only[iC]
 clear k0 k1 k2 k3 k4;refine iJ (i:=19) rfl fun K hK=>?_
 go_simp
 go_at_call 126
 refine Bj.mono ?_;rintro e w1 ⟨A2,rfl,fr,hr1,hr2,hr3⟩;have hb1:=eU hbd hr3;have GH:=mD.out.Nl hal hb1 hr1 (fun b h=>bZ hbd.size (hr2 b h))
 have Qc:=dP GH;have OO:Bx (((((w1.setCell ⟨bb,off+a*5,ak⟩ (ah aA m2.id)).setCell ⟨bb,off+a*5+1,ak⟩ (ah aA m2.n)).setCell ⟨bb,off+a*5+2,ak⟩ (aj A2.ra m2.rows.length A2.rc)).setCell ⟨bb,off+a*5+3,ak⟩ (aj A2.sa m2.dR.length A2.sc)).setCell ⟨bb,off+a*5+4,ak⟩ (aF m2.done)) w.heap.size 159 #[ah aA (a:Int),ah aA b]:=(((((HX.out.below hb1).far (g:=bb) (by omega) _).far (g:=bb) (by omega) _).far (g:=bb) (by omega) _).far (g:=bb) (by omega) _).far (g:=bb) (by omega) _
 have LM:=GH.mem;rw[show ({ g with mem:=g.mem.set a m2 }:Gr).mem.length=g.mem.length from bQ] at LM
 have HK9:aG ((fun Z:aI=>Z.cell? ⟨B,0,ak⟩=au (aj (au ⟨bb,off,ak⟩) g.mem.length c)/\Z.cell? ⟨w.heap.size,0,ak⟩=au (ah aA (a:Int))/\Z.cell? ⟨w.heap.size,1,ak⟩=au (ah aA b)) (((((w1.setCell ⟨bb,off+a*5,ak⟩ (ah aA m2.id)).setCell ⟨bb,off+a*5+1,ak⟩ (ah aA m2.n)).setCell ⟨bb,off+a*5+2,ak⟩ (aj A2.ra m2.rows.length A2.rc)).setCell ⟨bb,off+a*5+3,ak⟩ (aj A2.sa m2.dR.length A2.sc)).setCell ⟨bb,off+a*5+4,ak⟩ (aF m2.done))):=⟨LM,OO.at 0 rfl,OO.at 1 rfl⟩
 obtain⟨k0,k1,k2,k3,k4⟩:=ug.out;have t:∀ {x v},W1.cell? x=au v->w1.cell? x=au v:=fun h=>gy hb1 h
 replace k0:=t k0;replace k1:=t k1;replace k2:=t k2;replace k3:=t k3;replace k4:=t k4;obtain⟨z0,z1,z2,z3,z4⟩:=tJ.out
 have tz:∀ {x v},W1.cell? x=au v->W1.frozen? x=aC->w1.frozen? x=aC:=fun {x v} h hz=>by
  have e:=hb1.block x.block (aX _ _ h);simpa only[World.frozen?,e] using hz
 replace z0:=tz ug.out.1 z0;replace z1:=tz ug.out.2.1 z1;replace z2:=tz ug.out.2.2.1 z2;replace z3:=tz ug.out.2.2.2.1 z3;replace z4:=tz ug.out.2.2.2.2 z4;unfold iU iq;refine hK.out _ _ (KS _ hb1) (fun eP=>?_)
 clear hK hHeld;have hHeld:=eP;try simp only[iC]
 refine fE (i:=20) rfl ?_;refine fE (i:=21) rfl ?_;refine fE (i:=22) rfl ?_;refine fE (i:=23) rfl ?_;refine iJ (i:=24) rfl fun K hK=>?_
 go_simp;refine hK.out _ _ HK9.out (fun eP=>?_)
 clear hK hHeld;have hHeld:=eP;try simp only[iC]
 clear k0 k1 k2 k3 k4 z0 z1 z2 z3 z4 t tz hr1 hr2 hr3 hb1 hbd KS Bj GH OO LM;generalize (((((w1.setCell ⟨bb,off+a*5,ak⟩ (ah aA m2.id)).setCell ⟨bb,off+a*5+1,ak⟩ (ah aA m2.n)).setCell ⟨bb,off+a*5+2,ak⟩ (aj A2.ra m2.rows.length A2.rc)).setCell ⟨bb,off+a*5+3,ak⟩ (aj A2.sa m2.dR.length A2.sc)).setCell ⟨bb,off+a*5+4,ak⟩ (aF m2.done))=W9 at *;refine fE (i:=25) rfl ?_;refine uO (by kernel_rfl) ?_
 clear hHeld;go_wp2
 first|go_end0|go_ret
 exact⟨by rw[HE2.out];rfl,by rw[Rt.out];exact Qc.out.iw⟩
end
section
theorem Yl {n m: Int} {xs: List Int} (h:mY n xs=aB) (hm:n<=m):mY m xs=aB:=by
 rw[mY,bJ] at h ⊢;intro i hi;have:=h i hi;rw[bI,iZ] at this ⊢;exact⟨by omega,this.2⟩
theorem as5 (h:x.kind≠2) (h':x.kind≠3) (h'':x.kind≠5):uV x=[x.a]:=by
 rw[uV,if_neg (by omega)]
theorem Kv (h:x.kind=2\/x.kind=3\/x.kind=5):uV x=[x.a,x.b]:=by rw[uV,if_pos h]
theorem Ic (g:Gr) (x:Ac):mY (g.mem.length:Int) [x.a,x.b]=mV g x:=by rw[PY,mV]
theorem aC3 {g: Gr} (h:xu x=aC\/rH g x=aC):gQ g x=(g,aC):=by
 by_cases h3:x.kind=3
 ·rw[WX h3]
  rcases h with h|h
  ·rw[xu,decide_eq_false_iff_not] at h
   omega
  ·rw[rH,Kv (by omega),Ic,decide_eq_true h3,Bool.true_or,Bool.and_true] at h
   rw[h]
   rfl
 ·by_cases hn:inB x.a 0 ((g.mem.length:Int)-1)=aC\/ou g x.a.toNat=aC
  ·exact Pn h3 hn
  ·have h1:inB x.a 0 ((g.mem.length:Int)-1)=aB:=by
    cases e:inB x.a 0 ((g.mem.length:Int)-1) with
    | true=>rfl
    | false=>exact absurd (.inl e) hn
   have h2:ou g x.a.toNat=aB:=by
    cases e:ou g x.a.toNat with
    | true=>rfl
    | false=>exact absurd (.inr e) hn
   rw[Po h3 h1 h2];rcases h with h|h
   ·rw[xu,decide_eq_false_iff_not] at h
    rw[if_neg (by omega),if_neg (by omega),if_neg (by omega),if_neg (by omega),if_neg (by omega),if_neg (by omega)]
   ·by_cases h25:x.kind=2\/x.kind=3\/x.kind=5
    ·rw[rH,Kv h25,Ic,h2,Bool.or_true,Bool.and_true] at h
     rcases h25 with e|e|e
     ·rw[if_neg (by omega),if_pos e,if_neg (by rw[h];decide)]
     ·exact absurd e h3
     ·rw[if_neg (by omega),if_neg (by omega),if_neg (by omega),if_pos e,if_neg (by rw[h];decide)]
    ·rw[rH,as5 (by omega) (by omega) (by omega),aa4,h1,h2,Bool.or_true] at h
     cases h
theorem as6 {g: Gr} (ok:OkG g n) (h:GK x=aC):xu x=aC\/rH g x=aC:=by
 cases hk:xu x with
 | false=>exact .inl rfl
 | true =>
  refine .inr ?_;rw[GK,hk,Bool.true_and] at h;rw[rH]
  cases e:mY (g.mem.length:Int) (uV x) with
  | false=>rfl
  | true =>
   have:=Yl e (m:=5) (by have:=ok.ml;have:=ok.n5;omega)
   rw[h] at this
   cases this
def DN (p:Bool):Int:=if p=aB then 0 else 1
def ag1 (g:Gr) (x:Ac):Prop:=∀ (B:Nat) (fp:Fp) (w:aI),iP w B 0 (fZ g) fp->xu x=aB->rH g x=aB->dF dA 83 #[aO (au ⟨B,0,ak⟩),qU x] w fun e w'=>e=aK (aF (gQ g x).2)/\fH w w' B 0 (fZ (gQ g x).1) fp
attribute [local irreducible] sv
theorem TM (B:Nat) (g:Gr) (n:Nat) (x:Ac) (fp:Fp) (w:aI) (h:iP w B 0 (fZ g) fp) (ok:OkG g n) (ha:ji x.a) (hb:ji x.b) (ht:x.txt.length<=1048576) (hv:ag1 g x) :
  dF dA 43 #[aO (au ⟨B,0,ak⟩),aP #[ah aA x.kind,ah aA x.a,ah aA x.b,aN (sv x.txt)]] w fun e w'=>e=aK (ah aA (DN (gQ g x).2))/\fH w w' B 0 (fZ (gQ g x).1) fp:=by
 have hba:=dX w (aH #[ah aA x.kind,ah aA x.a,ah aA x.b,aN (sv x.txt)] 38);have hx:=Bx.new w 38 #[ah aA x.kind,ah aA x.a,ah aA x.b,aN (sv x.txt)];obtain⟨y0,y1,y2,y3⟩:=Bx.a4 hx;have hS:=Tm x ha hb (w.alloc (aH #[ah aA x.kind,ah aA x.a,ah aA x.b,aN (sv x.txt)] 38));have HB:aG (Below w.heap.size w (w.alloc (aH #[ah aA x.kind,ah aA x.a,ah aA x.b,aN (sv x.txt)] 38))):=hba;have H0:aG (fH w w B 0 (fZ g) fp):=fH.refl h;have iE:aG (OkG g n):=ok;have kP:aG (xu x=aC\/rH g x=aC->gQ g x=(g,aC)):=aC3;clear hba hx h ok
 cases hs:GK x with
 | false =>
  have HZ:=dP (kP.out (as6 iE.out hs));rw[hs] at hS;generalize qU x=V at *;clear hs ha hb ht hv kP;go_enter Tryz.func43,Tryz.ntmps43
  go_wp2_with fail
  refine hS.mono ?_;rintro e w1 ⟨rfl,hb1⟩;have HB1:=dP (H0.out.below (eU HB.out hb1));clear hb1 hS y0 y1 y2 y3;go_wp2;go_ret
  exact⟨by rw[HZ.out];rfl,by rw[HZ.out];exact HB1.out⟩
 | true =>
  have hk:xu x=aB:=by
   cases e:xu x with
   | true=>rfl
   | false=>rw[GK,e] at hs;cases hs
  rw[hs] at hS
  have HM:aG (∀ w1,Below w.heap.size w w1->dF dA 82 #[aO (au ⟨B,0,ak⟩),qU x] w1 fun e w'=>e=aK (aF (rH g x))/\fH w w' B 0 (fZ g) fp):=fun w1 h1=>by
   obtain⟨gU,hp,_,hgo⟩:=(H0.out.below h1).next;exact (ap9 B g n x gU w1 hp iE.out hk ha hb).mono (fun e w' h=>⟨h.1,(H0.out.below h1).below h.2⟩)
  have HT:aG (rH g x=aB->∀ w1,fH w w1 B 0 (fZ g) fp->dF dA 83 #[aO (au ⟨B,0,ak⟩),qU x] w1 fun e w'=>e=aK (aF (gQ g x).2)/\fH w w' B 0 (fZ (gQ g x).1) fp):=fun hm w1 h1=>by
   obtain⟨gU,hp,_,hgo⟩:=h1.next;exact (hv B gU w1 hp hk hm).mono (fun e w' h=>⟨h.1,hgo _ _ rfl h.2⟩)
  clear hs hk ha hb ht hv;generalize qU x=V at *;go_enter Tryz.func43,Tryz.ntmps43
  go_wp2_with fail
  refine hS.mono ?_;rintro e w1 ⟨rfl,hb1⟩;have hM:=HM.out w1 (eU HB.out hb1);clear hb1 hS y0 y1 y2 y3;go_wp2_with fail
  refine hM.mono ?_;rintro e w2 ⟨rfl,hb2⟩;have HB2:=dP hb2;clear hM hb2 HM
  cases hmt:rH g x with
  | false =>
   have HZ:=dP (kP.out (.inr hmt));clear hmt HT;go_wp2;go_ret
   exact⟨by rw[HZ.out];rfl,by rw[HZ.out];exact HB2.out⟩
  | true =>
   have hT:=HT.out hmt w2 HB2.out;clear hmt HT kP;go_wp2_with fail
   refine hT.mono ?_;rintro e w3 ⟨rfl,hb3⟩;have HB3:=dP hb3;clear hT hb3
   cases hz:(gQ g x).2 with
   | false =>
    have HZ:=dP hz;clear hz;go_wp2;go_ret
    exact⟨by rw[HZ.out];rfl,HB3.out⟩
   | true =>
    have HZ:=dP hz;clear hz;go_wp2;go_ret
    exact⟨by rw[HZ.out];rfl,HB3.out⟩
end
def wX (g:Gr) (L:List Ml) (k:Nat):Gr:=(L.take k).foldl qh g
theorem JC {g: Gr} {L: List Ml} {k: Nat} {x: Ml} (h:L[k]?=au x):wX g L (k+1)=qh (wX g L k) x:=by
 unfold wX;rw[List.take_add_one,h,List.foldl_append]
 rfl
theorem Ie {g:Gr} {n:Nat} (ok:OkG g n) {L:List Ml} (hL:∀ x∈L,∃ b:Nat,x.to=(b:Int)/\b<n):∀ k,OkG (wX g L k) n
 | 0=>ok
 | k+1=>by
  cases e:L[k]? with
  | none =>
   have:L.length<=k:=by
    rcases Nat.lt_or_ge k L.length with h|h
    ·rw[aV h] at e;cases e
    ·exact h
   have ih:=Ie ok hL k;unfold wX at ih ⊢
   rwa [aY (by omega),<- aY this]
  | some x =>
   rw[JC e];obtain⟨b,h1,h2⟩:=hL x (List.mem_of_getElem? e);exact ab5 (Ie ok hL k) h1 h2
theorem as7 (B:Nat) (g:Gr) (n:Nat) (fp:Fp) (w:aI) (h:iP w B 0 (fZ g) fp) (ok:OkG g n) (hv:∀ k,k<n->(eF (kD g k) k).own.ver<1000000) :
  dF dA 36 #[aO (au ⟨B,0,ak⟩)] w fun e w'=>e=aK (.tuple #[])/\fH w w' B 0 (fZ (pW g)) fp:=by
 have gq:=iD;have jq:=ok.n5;obtain⟨bb0,aM4,c00,G0⟩:=Gw.start h (by rw[ok.ml];omega)
 obtain⟨ub,uo,uc,u1,_,_,_⟩:=G0.bit (k:=0) (by rw[ok.ul];omega)
 rw[ok.ul] at u1;simp only[Nat.zero_add] at u1;have HU0:=dP u1;have H0:=dP (fH.refl h);have iE:=dP (vK ok);have HV:=dP hv;have yK:=dP (DI ok);clear h ok hv G0;go_enter Tryz.func36,Tryz.ntmps36
 go_wp2_with fail
 clear u1
 go_loopw [12] (fun i wr=>∃ k:Nat,k<=n/\i=ah aA (k:Int)/\aG (wr.cell? ⟨B,1,ak⟩=au (aj (au ⟨ub,uo,ak⟩) n uc))/\fH w wr B 0 (fZ (kD g k)) fp) (fun i _=>n-(dG i).toNat)
 case atStart=>exact⟨0,cZ _,rfl,HU0,H0.out⟩
 case round =>
  obtain⟨k,hk,rfl,HU,hb⟩:=hrel;have HB:=dP hb;clear hb;by_cases hlt:k<n
  ·have k1:(k:Int)<n:=by omega
   have k0:(0:Int)<=k:=by omega
   obtain⟨gU,hp,_,hgo⟩:=HB.out.next;have I5:=iE.out k (by omega)
   obtain⟨bb,off,c,G⟩:=Gw.start hp (by rw[I5.ml];omega)
   obtain⟨ub',uo',uc',v1,v2,_,_⟩:=G.bit (k:=k) (by rw[I5.ul];exact hlt)
   simp only[Nat.zero_add] at v1;rw[HU.out,I5.ul] at v1
   cases v1
   have HM:=dP (zu g k);have HGo:=dP hgo;have U5:=dP I5;have hvk:=HV.out k hlt;have HG:=dP G;clear hgo hp I5 G;generalize hgk:kD g k=gk at *
   cases hup:ou gk k with
   | false =>
    have HN:aG (kD g (k+1)=gk):=by rw[aG,HM.out,qx,if_neg (by rw[hup];decide)]
    rw[hup] at v2;clear hup hgk hvk;go_wp2;go_roundw
    case rel=>exact⟨k+1,by omega,by go_num,HU,by rw[HN.out];exact HB.out⟩
    case measure=>simp[dG];omega
   | true =>
    have HN:aG (kD g (k+1)=oC (gk.set k (fM (eF gk k))) (k:Int)):=by rw[aG,HM.out,qx,if_pos hup]
    rw[hup] at v2;have hkl:k<gk.mem.length:=by rw[U5.out.ml];exact hlt
    obtain⟨A,hc5,hf5,hmp⟩:=HG.out.mbP U5.out hkl
    have hbB:bb≠B:=fun e=>by
     obtain⟨_,_,f0,_,_,_,_,_,_,hmem,hap,_⟩:=HG.out.full;obtain⟨_,_,_,ee,h1,_⟩:=yx uz (by omega) hmem (rX hkl)
     cases ee
     exact (hap _ h1).2 e
    have XH:=dP hmp;have ug:=dP hc5;have tJ:=dP hf5;have Ia:iG (eF gk k)=aB:=nD.2 ⟨k,n,U5.out.mem k hlt⟩;have b1:(k:Int)<gk.mem.length:=by omega
    have hbd:=(Same.drewN wr 1).below;have Bj:=Yi A (eF gk k) wr.drew (XH.out.below hbd) (fun _=>hvk)
    have HH:PL (eF gk k)=fM (eF gk k):=by rw[PL,if_pos Ia]
    rw[HH] at Bj;have HSt:aG (OkG (gk.set k (fM (eF gk k))) n):=(U5.out.row hlt).1;clear HH Ia hvk hup hgk hc5 hf5 hmp;generalize hq1:fM (eF gk k)=m2 at *;clear hq1;generalize hmm:eF gk k=m at *;clear hmm;have KS:∀ Z,Below wr.heap.size wr Z->Z.cell? ⟨B,0,ak⟩=au (aj (au ⟨bb,off,ak⟩) gk.mem.length c):=fun Z hZ=>(HG.out.step hZ).mem
    have HPt:aG (∀ (lq:Fp) (X:aI),iP X B 0 (fZ (gk.set k m2)) lq->dF dA 71 #[aO (au ⟨B,0,ak⟩),ah aA (k:Int)] X fun e w'=>e=aK (.tuple #[])/\fH X w' B 0 (fZ (oC (gk.set k m2) (k:Int))) lq/\w'.cell? ⟨B,0+1,ak⟩=X.cell? ⟨B,0+1,ak⟩):=fun lq X hX=>ap2 B 0 (gk.set k m2) n k lq X hX HSt.out hlt
    unfold iU iq at Bj;go_upto_region 4 with fail
    clear v2;refine lU (S:=fun Z:aI=>Z.cell? ⟨B,0,ak⟩=au (aj (au ⟨bb,off,ak⟩) gk.mem.length c)) 15 gq ((KS _ hbd)) fun hHeld=>?_
    refine fE (i:=0) rfl ?_;refine fE (i:=1) rfl ?_;refine fE (i:=2) rfl ?_;refine ni (i:=3) rfl hHeld ?_;refine fE (i:=4) rfl ?_;refine fE (i:=5) rfl ?_;refine fE (i:=6) rfl ?_;refine fE (i:=7) rfl ?_;refine ni (i:=8) rfl hHeld ?_;refine fE (i:=9) rfl ?_;refine fE (i:=10) rfl ?_;obtain⟨j0,j1,j2,j3,j4⟩:=ug.out;refine iJ (i:=11) rfl fun K hK=>?_
    go_simp;refine hK.out _ _ (KS _ hbd) (fun eP=>?_)
    clear hK hHeld;have hHeld:=eP;try simp only[iC]
    clear j0 j1 j2 j3 j4;refine iJ (i:=12) rfl fun K hK=>?_
    go_simp
    go_at_call 70
    refine Bj.mono ?_;rintro e w1 ⟨A2,rfl,fr,hr1,hr2,hr3⟩;have hb1:=eU hbd hr3;have GH:=HG.out.Nl hkl hb1 hr1 (fun b h=>bZ hbd.size (hr2 b h))
    have Qc:=dP GH;have LM:=GH.mem;rw[show ({ gk with mem:=gk.mem.set k m2 }:Gr).mem.length=gk.mem.length from bQ] at LM
    have HK9:=dP LM
    have HU9:aG ((((((w1.setCell ⟨bb,off+k*5,ak⟩ (ah aA m2.id)).setCell ⟨bb,off+k*5+1,ak⟩ (ah aA m2.n)).setCell ⟨bb,off+k*5+2,ak⟩ (aj A2.ra m2.rows.length A2.rc)).setCell ⟨bb,off+k*5+3,ak⟩ (aj A2.sa m2.dR.length A2.sc)).setCell ⟨bb,off+k*5+4,ak⟩ (aF m2.done)).cell? ⟨B,1,ak⟩=au (aj (au ⟨ub,uo,ak⟩) n uc)):=by
     have e0:=gy hb1 HU.out;rw[aG,World.cell?_setCell_far _ _ _ _ hbB,World.cell?_setCell_far _ _ _ _ hbB,World.cell?_setCell_far _ _ _ _ hbB,World.cell?_setCell_far _ _ _ _ hbB,World.cell?_setCell_far _ _ _ _ hbB];exact e0
    obtain⟨j0,j1,j2,j3,j4⟩:=ug.out;have t:∀ {x v},wr.cell? x=au v->w1.cell? x=au v:=fun h=>gy hb1 h
    replace j0:=t j0;replace j1:=t j1;replace j2:=t j2;replace j3:=t j3;replace j4:=t j4;obtain⟨z0,z1,z2,z3,z4⟩:=tJ.out
    have tz:∀ {x v},wr.cell? x=au v->wr.frozen? x=aC->w1.frozen? x=aC:=fun {x v} h hz=>by
     have e:=hb1.block x.block (aX _ _ h);simpa only[World.frozen?,e] using hz
    replace z0:=tz ug.out.1 z0;replace z1:=tz ug.out.2.1 z1;replace z2:=tz ug.out.2.2.1 z2;replace z3:=tz ug.out.2.2.2.1 z3;replace z4:=tz ug.out.2.2.2.2 z4;unfold iU iq;refine hK.out _ _ (KS _ hb1) (fun eP=>?_)
    clear hK hHeld;have hHeld:=eP;try simp only[iC]
    refine fE (i:=13) rfl ?_;refine iJ (i:=14) rfl fun K hK=>?_
    go_simp;refine hK.out _ _ HK9.out (fun eP=>?_)
    clear hK hHeld;have hHeld:=eP;try simp only[iC]
    clear j0 j1 j2 j3 j4 z0 z1 z2 z3 z4 t tz hr1 hr2 hr3 hb1 hbd KS Bj GH LM;generalize (((((w1.setCell ⟨bb,off+k*5,ak⟩ (ah aA m2.id)).setCell ⟨bb,off+k*5+1,ak⟩ (ah aA m2.n)).setCell ⟨bb,off+k*5+2,ak⟩ (aj A2.ra m2.rows.length A2.rc)).setCell ⟨bb,off+k*5+3,ak⟩ (aj A2.sa m2.dR.length A2.sc)).setCell ⟨bb,off+k*5+4,ak⟩ (aF m2.done))=W9 at *;refine uO (by kernel_rfl) ?_
    clear hHeld;obtain⟨lq,hp3,_,aC4⟩:=(HGo.out W9 (fZ (gk.set k m2)) rfl Qc.out.iw).next;have hP:=HPt.out lq W9 hp3;have aM5:=dP aC4;clear hp3 aC4 HPt;go_wp2_with fail
    refine hP.mono ?_;rintro e w4 ⟨rfl,hb4,XO⟩;have HB4:aG (fH w w4 B 0 (fZ (oC (gk.set k m2) (k:Int))) fp):=aM5.out _ _ rfl hb4
    have HU4:aG (w4.cell? ⟨B,1,ak⟩=au (aj (au ⟨ub,uo,ak⟩) n uc)):=by
     simp only[Nat.zero_add] at XO;exact XO.trans HU9.out
    clear hb4 XO hP;go_wp2;go_roundw
    case rel=>exact⟨k+1,by omega,by go_num,HU4,by rw[HN.out];exact HB4.out⟩
    case measure=>simp[dG];omega
  ·have k1:¬ ((k:Int)<n):=by omega
   have e:k=n:=by omega
   have HF:=dP (yK.out.trans (Jw _ _ rfl));have MJ:=dP (iE.out n (cO _));subst e;clear yK iE HV H0 HU0 HU k1 hlt hk;generalize kD g k=gr at *;obtain⟨la,lc,f3,gU,c2,z2,hown,hnB,hpl,hdis,hgo⟩:=XJ HB.out;have aN0:=MJ.out.pJ;have HB0:=dP (fH.refl hpl);have HGo:=dP hgo
   have HA:aG (∀ w2 cs2 j,fH (wr.setCell ⟨B,2,ak⟩ (aj ak 0 0)) w2 B 0 cs2 gU->j<gr.dS.length->∃ lb lo A,la=au ⟨lb,lo,ak⟩/\aL3 w2 lb (lo+j*10) (fF gr j) A/\ql w2 A (fF gr j).row):=fun w2 cs2 j hb hj=>by
    have how:=dY.lJ hown hb.wrt (fun b hb h=>h.elim (fun h1=>hdis b h1 hb) (fun e=>hnB (e ▸ hb)))
    obtain⟨lb,lo,lc',q1,q2,q3,g1,g2,g3,e,_,_,_,_,_,_,l1,l2,l3,_,_,_,p1,p2,p3⟩:=RF rD how (nH hj)
    cases e
    obtain⟨A,rfl,Wh⟩:=RP l2;obtain⟨_,_,_,_,_,_,_,R⟩:=MJ.out.kU _ (List.mem_of_getElem? (nH hj));have r64:=Tf R;exact⟨lb,lo,A,rfl,p2,BR (zW Wh (lo:=0) (fun b _=>cZ b)) R.fit r64.1 (by have:=r64.2;omega)⟩
   have HK : aG (∀ j,OkG (wX { gr with dS := [] } gr.dS j) k) := Ie (g := { gr with dS := [] }) (L := gr.dS) ⟨MJ.out.n5,MJ.out.ml,MJ.out.ul,by simp,MJ.out.mem,fun x hx => by cases hx⟩ (fun x hx => by
    obtain⟨_,b,_,h2,_,h4,_⟩:=MJ.out.kU x hx;exact⟨b,h2,h4⟩)
   clear hown hnB hpl hdis hgo;go_wp2_with fail
   clear c2 z2;generalize wr.setCell ⟨B,2,ak⟩ (aj ak 0 0)=W0 at *
   go_loopw [45] (fun i w2=>∃ j:Nat,j<=gr.dS.length/\i=ah aA (j:Int)/\fH W0 w2 B 0 (fZ (wX { gr with dS:=[] } gr.dS j)) gU) (fun i _=>gr.dS.length-(dG i).toNat)
   case atStart=>exact⟨0,cZ _,rfl,HB0.out⟩
   case round =>
    obtain⟨j,hj,rfl,hb⟩:=hrel;have Gv:=dP hb;clear hb;by_cases hlt:j<gr.dS.length
    ·have k1:(j:Int)<gr.dS.length:=by omega
     have k0:(0:Int)<=j:=by omega
     obtain⟨lb,lo,A,rfl,hat,nM⟩:=HA.out wr _ j Gv.out hlt;obtain⟨a,b,m1,m2,han,hbn,_,_⟩:=MJ.out.kU _ (List.mem_of_getElem? (nH hlt));have HM:aG (wX { gr with dS:=[] } gr.dS (j+1)=qh (wX { gr with dS:=[] } gr.dS j) (fF gr j)):=JC (nH hlt)
     generalize fF gr j=y at *;obtain⟨fr,tt,r⟩:=y;simp only at m1 m2
     subst m1 m2;have hb3:=dX wr (aH #[ah aA (a:Int),ah aA (b:Int),ah aA r.ver,aj A.ta r.txt.length A.tc,aj A.ga r.got.length A.gc,aj A.sa r.dQ.length A.sc,aF r.wed,aF r.dV,ah aA r.dW,aj A.ma r.dU.length A.mc] 68);obtain⟨ED,Ym,_,Qr⟩:=(Gv.out.below hb3).next;have hHe:=ap5 B (wX { gr with dS:=[] } gr.dS j) k a b r A ED _ Ym (HK.out j) hbn han (nM.below hb3)
     have ag2:=dP Qr;obtain⟨⟨y0,y1,y2,y3,y4⟩,y5,y6,y7,y8,y9⟩:=Bx.DJ (Bx.new wr 68 #[ah aA (a:Int),ah aA (b:Int),ah aA r.ver,aj A.ta r.txt.length A.tc,aj A.ga r.got.length A.gc,aj A.sa r.dQ.length A.sc,aF r.wed,aF r.dV,ah aA r.dW,aj A.ma r.dU.length A.mc]);have x0:=hat 0 _ rfl;have x1:=hat 1 _ rfl;have x2:=hat 2 _ rfl;have x3:=hat 3 _ rfl;have x4:=hat 4 _ rfl;have x5:=hat 5 _ rfl;have x6:=hat 6 _ rfl;have x7:=hat 7 _ rfl;have x8:=hat 8 _ rfl;have x9:=hat 9 _ rfl;simp only[Nat.add_zero] at x0;clear hat nM hb3 Ym Qr han hbn HK HA;go_wp2_with fail
     refine hHe.mono ?_;rintro e w6 ⟨rfl,hb6⟩
     have uS:aG (fH W0 w6 B 0 (fZ (wX { gr with dS:=[] } gr.dS (j+1))) gU):=by
      rw[aG,HM.out];exact ag2.out _ _ rfl hb6
     clear hb6 hHe y0 y1 y2 y3 y4 y5 y6 y7 y8 y9 x0 x1 x2 x3 x4 x5 x6 x7 x8 x9;go_wp2;go_roundw
     case rel=>exact⟨j+1,by omega,by go_num,uS.out⟩
     case measure=>simp[dG];omega
    ·have k1:¬ ((j:Int)<gr.dS.length):=by omega
     have e:j=gr.dS.length:=by omega
     have HR:aG (wX { gr with dS:=[] } gr.dS j=pW g):=by rw[aG,HF.out,e,wX,List.take_length]
     have HE:aG (fH w wr B 0 (fZ (pW g)) fp):=by
      rw[aG,<- HR.out];exact HGo.out _ _ rfl Gv.out
     clear e;go_wp2;go_end0;exact⟨rfl,HE.out⟩
section
def QY:Prop:=∀ (A:Ga) (g:Gr) (n:Nat) (x:Ac) (w:aI),uU w A g->OkG g n->ji x.a->ji x.b->x.txt.length<=1048576->ag1 g x->dF dA 13 #[gX A g,o8 x] w fun e w'=>Nh w w' e (gQ g x).1 (DN (gQ g x).2)
attribute [local irreducible] sv
theorem QZ:QY:=by
 intro A g n x w hv ok ha hb ht kC;have hb0:Below w.heap.size w (((w.alloc (aH #[aj A.ma g.mem.length A.mc,aj A.ua g.up.length A.uc,aj A.la g.dS.length A.lc] 28)).alloc (aH #[ah aA x.kind,ah aA x.a,ah aA x.b,aN (sv x.txt)] 38)).alloc (aH #[aj ak 0 0,aj ak 0 0,aj ak 0 0] 28)):=((dw _ _).alloc (cO _) _).alloc (by simp) _ |>.alloc (by simp only[bH];omega) _
 have hx0:Bx (((w.alloc (aH #[aj A.ma g.mem.length A.mc,aj A.ua g.up.length A.uc,aj A.la g.dS.length A.lc] 28)).alloc (aH #[ah aA x.kind,ah aA x.a,ah aA x.b,aN (sv x.txt)] 38)).alloc (aH #[aj ak 0 0,aj ak 0 0,aj ak 0 0] 28)) w.heap.size 28 #[aj A.ma g.mem.length A.mc,aj A.ua g.up.length A.uc,aj A.la g.dS.length A.lc]:=((Bx.new w _ _).alloc _).alloc _
 have hx1:Bx (((w.alloc (aH #[aj A.ma g.mem.length A.mc,aj A.ua g.up.length A.uc,aj A.la g.dS.length A.lc] 28)).alloc (aH #[ah aA x.kind,ah aA x.a,ah aA x.b,aN (sv x.txt)] 38)).alloc (aH #[aj ak 0 0,aj ak 0 0,aj ak 0 0] 28)) (w.heap.size+1) 38 #[ah aA x.kind,ah aA x.a,ah aA x.b,aN (sv x.txt)]:=by
  have:=(Bx.new (w.alloc (aH #[aj A.ma g.mem.length A.mc,aj A.ua g.up.length A.uc,aj A.la g.dS.length A.lc] 28)) 38 #[ah aA x.kind,ah aA x.a,ah aA x.b,aN (sv x.txt)]).alloc (aH #[aj ak 0 0,aj ak 0 0,aj ak 0 0] 28);simp only[bH] at this;exact this
 have hx2:Bx (((w.alloc (aH #[aj A.ma g.mem.length A.mc,aj A.ua g.up.length A.uc,aj A.la g.dS.length A.lc] 28)).alloc (aH #[ah aA x.kind,ah aA x.a,ah aA x.b,aN (sv x.txt)] 38)).alloc (aH #[aj ak 0 0,aj ak 0 0,aj ak 0 0] 28)) (w.heap.size+2) 28 #[aj ak 0 0,aj ak 0 0,aj ak 0 0]:=by
  have:=Bx.new ((w.alloc (aH #[aj A.ma g.mem.length A.mc,aj A.ua g.up.length A.uc,aj A.la g.dS.length A.lc] 28)).alloc (aH #[ah aA x.kind,ah aA x.a,ah aA x.b,aN (sv x.txt)] 38)) 28 #[aj ak 0 0,aj ak 0 0,aj ak 0 0];simp only[bH] at this;exact this
 have hv0:=hv.below hb0;unfold gX iW o8 rV;generalize qP:((w.alloc (aH #[aj A.ma g.mem.length A.mc,aj A.ua g.up.length A.uc,aj A.la g.dS.length A.lc] 28)).alloc (aH #[ah aA x.kind,ah aA x.a,ah aA x.b,aN (sv x.txt)] 38)).alloc (aH #[aj ak 0 0,aj ak 0 0,aj ak 0 0] 28)=W0 at *;have hS:=Tm x ha hb W0;have HX0:=dP hx0;have qH:=dP hx1;have l9:=dP hx2;have E5:=dP hv0;have HB0:=dP hb0;have iE:=dP ok;have HI:aG (ji x.a/\ji x.b/\x.txt.length<=1048576/\ag1 g x):=⟨ha,hb,ht,kC⟩;obtain⟨d0,d1,d2,d3⟩:=Bx.a4 hx1;clear hv hb0 hx0 hx1 hx2 hv0 ok ha hb ht kC;generalize qU x=V at *
 cases hs:GK x with
 | false =>
  rw[hs] at hS;clear hs;go_enter Tryz.func13,Tryz.ntmps13
  go_wp2_with fail
  refine hS.mono ?_;rintro e w1 ⟨rfl,hb1⟩;have rW:=dP hb1;clear hb1 hS d0 d1 d2 d3;have hC:=J9 A g n w1 (E5.out.below rW.out) iE.out;unfold gX iW at hC;obtain⟨c0,c1,c2⟩:=Bx.g3 (HX0.out.below rW.out);go_wp2_with fail
  refine hC.mono ?_;rintro e w2 ⟨A2,rfl,fp,hl2,hf2,hb2⟩;have hlt2:=jd hl2;have hB2:=eU rW.out hb2;have hba:=dX w2 (aH #[aj A2.ma g.mem.length A2.mc,aj A2.ua g.up.length A2.uc,aj A2.la g.dS.length A2.lc] 28);have hxb:=Bx.new w2 28 #[aj A2.ma g.mem.length A2.mc,aj A2.ua g.up.length A2.uc,aj A2.la g.dS.length A2.lc];have hP:iP (w2.alloc (aH #[aj A2.ma g.mem.length A2.mc,aj A2.ua g.up.length A2.uc,aj A2.la g.dS.length A2.lc] 28)) w2.heap.size 0 (fZ g) fp:=vM (A:=A2) hxb (gG hl2 hba) (fun k=>by have:=hlt2 _ k;omega)
  have hB3:=eU hB2 hba;have HZ3:=dP (l9.out.below hB3);have Yn:=dP (eU HB0.out hB3);have hH:=TM w2.heap.size g n x fp _ hP iE.out HI.out.1 HI.out.2.1 HI.out.2.2.1 HI.out.2.2.2;obtain⟨e0,e1,e2,e3⟩:=Bx.a4 (qH.out.below hB3);have hs2:=hB2.size;have hsx:=hb2.size;have hr1:=(l9.out.below rW.out).lt;have HF2:=dP hf2;unfold gX iW;generalize OY:w2.alloc (aH #[aj A2.ma g.mem.length A2.mc,aj A2.ua g.up.length A2.uc,aj A2.la g.dS.length A2.lc] 28)=V3 at *;have aC5:=hxb.lt;clear hxb hP hl2 hf2 hlt2 hb2 hba c0 c1 c2 hC hB2 hB3;go_wp2_with fail
  refine hH.mono ?_;rintro e Y ⟨rfl,hBc⟩;have hsw:=HB0.out.size;obtain⟨A3,⟨y0,y1,y2⟩,hz3,HN⟩:=yL (w:=w) (r:=w.heap.size+2) hBc (fun b hb=>by have:=HF2.out b hb;exact⟨by omega,by omega⟩) (by omega) (by omega) (by omega) (by have:=HZ3.out.lt;omega) Yn.out HZ3.out
  obtain⟨z0,z1,z2⟩:=Bx.g3 hz3;obtain⟨f0,f1,f2⟩:=hz3.f3;have sF:aG (∀ {a b c:aJ},kE w (((Y.setCell ⟨w.heap.size+2,0,ak⟩ a).setCell ⟨w.heap.size+2,1,ak⟩ b).setCell ⟨w.heap.size+2,2,ak⟩ c) (fZ (gQ g x).1) (jm A3 (gQ g x).1)):=HN Y (dw _ _);generalize hpm:(gQ g x).1=pm at *;generalize hcd:DN (gQ g x).2=cd at *;have Yo:aG ((gQ g x).1=pm):=hpm;have HCd:aG (DN (gQ g x).2=cd):=hcd;clear hH hBc HN hz3 hpm hcd e0 e1 e2 e3;go_wp2;refine bY (v:=.tuple #[gX A3 pm,ah aA cd]) (by simp[results,Tryz.results13,go_sem,gX,iW, *]) rfl ?_
  rw[Yo.out,HCd.out];exact⟨_,rfl,sF.out⟩
 | true =>
  rw[hs] at hS;clear hs;go_enter Tryz.func13,Tryz.ntmps13
  go_wp2_with fail
  refine hS.mono ?_;rintro e w0 ⟨rfl,hb1⟩;have hK:=BK A g w0 (E5.out.below hb1);rw[oD.2 ⟨n,iE.out⟩] at hK;unfold gX iW at hK;have HB1:=dP hb1;obtain⟨c0,c1,c2⟩:=Bx.g3 (HX0.out.below hb1);clear hb1 hS d0 d1 d2 d3;go_wp2_with fail
  refine hK.mono ?_;rintro e w1 ⟨rfl,hb2⟩;have rW:=dP (eU HB1.out hb2);clear hb2 hK c0 c1 c2 HB1;have hC:=J9 A g n w1 (E5.out.below rW.out) iE.out;unfold gX iW at hC;obtain⟨c0,c1,c2⟩:=Bx.g3 (HX0.out.below rW.out);go_wp2_with fail
  refine hC.mono ?_;rintro e w2 ⟨A2,rfl,fp,hl2,hf2,hb2⟩;have hlt2:=jd hl2;have hB2:=eU rW.out hb2;have hba:=dX w2 (aH #[aj A2.ma g.mem.length A2.mc,aj A2.ua g.up.length A2.uc,aj A2.la g.dS.length A2.lc] 28);have hxb:=Bx.new w2 28 #[aj A2.ma g.mem.length A2.mc,aj A2.ua g.up.length A2.uc,aj A2.la g.dS.length A2.lc];have hP:iP (w2.alloc (aH #[aj A2.ma g.mem.length A2.mc,aj A2.ua g.up.length A2.uc,aj A2.la g.dS.length A2.lc] 28)) w2.heap.size 0 (fZ g) fp:=vM (A:=A2) hxb (gG hl2 hba) (fun k=>by have:=hlt2 _ k;omega)
  have hB3:=eU hB2 hba;have HZ3:=dP (l9.out.below hB3);have Yn:=dP (eU HB0.out hB3);have hH:=TM w2.heap.size g n x fp _ hP iE.out HI.out.1 HI.out.2.1 HI.out.2.2.1 HI.out.2.2.2;obtain⟨e0,e1,e2,e3⟩:=Bx.a4 (qH.out.below hB3);have hs2:=hB2.size;have hsx:=hb2.size;have hr1:=(l9.out.below rW.out).lt;have HF2:=dP hf2;unfold gX iW;generalize OY:w2.alloc (aH #[aj A2.ma g.mem.length A2.mc,aj A2.ua g.up.length A2.uc,aj A2.la g.dS.length A2.lc] 28)=V3 at *;have aC5:=hxb.lt;clear hxb hP hl2 hf2 hlt2 hb2 hba c0 c1 c2 hC hB2 hB3;go_wp2_with fail
  refine hH.mono ?_;rintro e Y ⟨rfl,hBc⟩;have hsw:=HB0.out.size;obtain⟨A3,⟨y0,y1,y2⟩,hz3,HN⟩:=yL (w:=w) (r:=w.heap.size+2) hBc (fun b hb=>by have:=HF2.out b hb;exact⟨by omega,by omega⟩) (by omega) (by omega) (by omega) (by have:=HZ3.out.lt;omega) Yn.out HZ3.out
  obtain⟨z0,z1,z2⟩:=Bx.g3 hz3;obtain⟨f0,f1,f2⟩:=hz3.f3;have sF:aG (∀ {a b c:aJ},kE w (((Y.setCell ⟨w.heap.size+2,0,ak⟩ a).setCell ⟨w.heap.size+2,1,ak⟩ b).setCell ⟨w.heap.size+2,2,ak⟩ c) (fZ (gQ g x).1) (jm A3 (gQ g x).1)):=HN Y (dw _ _);generalize hpm:(gQ g x).1=pm at *;generalize hcd:DN (gQ g x).2=cd at *;have Yo:aG ((gQ g x).1=pm):=hpm;have HCd:aG (DN (gQ g x).2=cd):=hcd;clear hH hBc HN hz3 hpm hcd e0 e1 e2 e3;go_wp2;refine bY (v:=.tuple #[gX A3 pm,ah aA cd]) (by simp[results,Tryz.results13,go_sem,gX,iW, *]) rfl ?_
  rw[Yo.out,HCd.out];exact⟨_,rfl,sF.out⟩
end
def U6 (g:Gr) (n:Nat):Prop:=∀ j,j<8->∀ k,k<n->(eF (kD (pY j g) k) k).own.ver<1000000
def Yp:Prop:=∀ (A:Ga) (g:Gr) (n:Nat) (w:aI),uU w A g->OkG g n->U6 g n->dF dA 10 #[gX A g] w fun e w'=>AX w w' e (vC g)
theorem Yq:Yp:=by
 intro A g n w hv ok kC;have hb0:Below w.heap.size w ((w.alloc (aH #[aj A.ma g.mem.length A.mc,aj A.ua g.up.length A.uc,aj A.la g.dS.length A.lc] 28)).alloc (aH #[aj ak 0 0,aj ak 0 0,aj ak 0 0] 28)):=((dw _ _).alloc (cO _) _).alloc (by simp) _
 have hx0:Bx ((w.alloc (aH #[aj A.ma g.mem.length A.mc,aj A.ua g.up.length A.uc,aj A.la g.dS.length A.lc] 28)).alloc (aH #[aj ak 0 0,aj ak 0 0,aj ak 0 0] 28)) w.heap.size 28 #[aj A.ma g.mem.length A.mc,aj A.ua g.up.length A.uc,aj A.la g.dS.length A.lc]:=(Bx.new w _ _).alloc _
 have hx2:Bx ((w.alloc (aH #[aj A.ma g.mem.length A.mc,aj A.ua g.up.length A.uc,aj A.la g.dS.length A.lc] 28)).alloc (aH #[aj ak 0 0,aj ak 0 0,aj ak 0 0] 28)) (w.heap.size+1) 28 #[aj ak 0 0,aj ak 0 0,aj ak 0 0]:=by
  have:=Bx.new (w.alloc (aH #[aj A.ma g.mem.length A.mc,aj A.ua g.up.length A.uc,aj A.la g.dS.length A.lc] 28)) 28 #[aj ak 0 0,aj ak 0 0,aj ak 0 0];simp only[bH] at this;exact this
 have hv0:=hv.below hb0;unfold gX iW;generalize qP:(w.alloc (aH #[aj A.ma g.mem.length A.mc,aj A.ua g.up.length A.uc,aj A.la g.dS.length A.lc] 28)).alloc (aH #[aj ak 0 0,aj ak 0 0,aj ak 0 0] 28)=W0 at *;have hK:=BK A g W0 hv0;rw[oD.2 ⟨n,ok⟩] at hK;unfold gX iW at hK;have HX0:=dP hx0;have l9:=dP hx2;have E5:=dP hv0;have HB0:=dP hb0;have iE:=dP ok;have HVc:=dP kC;have HCk:=dP (zY ok);obtain⟨c0,c1,c2⟩:=Bx.g3 hx0;clear hv hb0 hx0 hx2 hv0 ok kC;go_enter Tryz.func10,Tryz.ntmps10
 go_wp2_with fail
 refine hK.mono ?_;rintro e w1 ⟨rfl,hb1⟩;have rW:=dP hb1;clear hb1 hK c0 c1 c2;have hC:=J9 A g n w1 (E5.out.below rW.out) iE.out;unfold gX iW at hC;obtain⟨c0,c1,c2⟩:=Bx.g3 (HX0.out.below rW.out);go_wp2_with fail
 refine hC.mono ?_;rintro e w2 ⟨A2,rfl,fp,hl2,hf2,hb2⟩;have hlt2:=jd hl2;have hB2:=eU rW.out hb2;have hba:=dX w2 (aH #[aj A2.ma g.mem.length A2.mc,aj A2.ua g.up.length A2.uc,aj A2.la g.dS.length A2.lc] 28);have hxb:=Bx.new w2 28 #[aj A2.ma g.mem.length A2.mc,aj A2.ua g.up.length A2.uc,aj A2.la g.dS.length A2.lc];have hP:iP (w2.alloc (aH #[aj A2.ma g.mem.length A2.mc,aj A2.ua g.up.length A2.uc,aj A2.la g.dS.length A2.lc] 28)) w2.heap.size 0 (fZ g) fp:=vM (A:=A2) hxb (gG hl2 hba) (fun k=>by have:=hlt2 _ k;omega)
 have hB3:=eU hB2 hba;have HZ3:=dP (l9.out.below hB3);have Yn:=dP (eU HB0.out hB3);have HP0:=dP (fH.refl hP);have hs2:=hB2.size;have hsx:=hb2.size;have hr1:=(l9.out.below rW.out).lt;have HF2:=dP hf2;unfold gX iW;generalize OY:w2.alloc (aH #[aj A2.ma g.mem.length A2.mc,aj A2.ua g.up.length A2.uc,aj A2.la g.dS.length A2.lc] 28)=V3 at *;have aC5:=hxb.lt;clear hxb hP hl2 hf2 hlt2 hb2 hba c0 c1 c2 hC hB2 hB3;go_wp2_with fail
 go_loopw [10] (fun i wr=>∃ j:Nat,j<=8/\i=ah aA (j:Int)/\fH V3 wr w2.heap.size 0 (fZ (pY j g)) fp) (fun i _=>8-(dG i).toNat)
 case atStart=>exact⟨0,cZ _,rfl,HP0.out⟩
 case round =>
  obtain⟨j,hj,rfl,hb⟩:=hrel;have Gv:=dP hb;clear hb;by_cases hlt:j<8
  ·have k1:(j:Int)<8:=by omega
   obtain⟨ED,Ym,_,Qr⟩:=Gv.out.next;have XT:=as7 w2.heap.size (pY j g) n ED wr Ym (HCk.out j) (HVc.out j hlt);have ag2:=dP Qr;clear Ym Qr;go_wp2_with fail
   refine XT.mono ?_;rintro e w6 ⟨rfl,hb6⟩;have uS:aG (fH V3 w6 w2.heap.size 0 (fZ (pY (j+1) g)) fp):=ag2.out _ _ rfl hb6;clear hb6 XT;go_wp2;go_roundw
   case rel=>exact⟨j+1,by omega,by go_num,uS.out⟩
   case measure=>simp[dG];omega
  ·have k1:¬ ((j:Int)<8):=by omega
   have e:j=8:=by omega
   have hBc:fH V3 wr w2.heap.size 0 (fZ (vC g)) fp:=by
    have:=Gv.out;rw[e,<- Xb] at this;exact this
   clear e;have hsw:=HB0.out.size;obtain⟨A3,⟨y0,y1,y2⟩,hz3,HN⟩:=yL (w:=w) (r:=w.heap.size+1) hBc (fun b hb=>by have:=HF2.out b hb;exact⟨by omega,by omega⟩) (by omega) (by omega) (by omega) (by have:=HZ3.out.lt;omega) Yn.out HZ3.out
   obtain⟨z0,z1,z2⟩:=Bx.g3 hz3;obtain⟨f0,f1,f2⟩:=hz3.f3;have sF:aG (∀ {a b c:aJ},kE w (((wr.setCell ⟨w.heap.size+1,0,ak⟩ a).setCell ⟨w.heap.size+1,1,ak⟩ b).setCell ⟨w.heap.size+1,2,ak⟩ c) (fZ (vC g)) (jm A3 (vC g))):=HN wr (dw _ _);generalize hpm:vC g=pm at *;have Yo:aG (vC g=pm):=hpm;clear hBc HN hz3 hpm;go_wp2;refine bY (v:=gX A3 pm) (by simp[results,Tryz.results10,go_sem,gX,iW, *]) rfl ?_
   rw[Yo.out];exact⟨_,rfl,sF.out⟩
def NoD (r:Rw):Prop:=r.wed=aC/\r.dQ=[]
def Sy (r o:Rw):Prop:=r.ver<o.ver\/r=o
theorem Sy.refl (a:Rw):Sy a a:=.inr rfl
def xQ (g:Gr) (i:Nat):Rw:=dO (eF g i).rows i
structure ND (n c:Nat) (g:Gr):Prop where
 G:qO n g
 up:∀ i,i<n->ou g i=aB
 dn:∀ i,i<n->(eF g i).done=aC
 rows:∀ i j,i<n->j<n->NoD (dO (eF g i).rows j)/\Sy (dO (eF g i).rows j) (xQ g j)
 dS:∀ x∈g.dS,NoD x.row/\Sy x.row (xQ g x.fr.toNat)
 ver:∀ i,i<n->(xQ g i).ver<=(c:Int)
theorem ND.new (hn:1<=n/\n<=5):ND n 0 (jf (n:Int)).1:=by
 obtain⟨ok,e⟩:=Hl hn;have hb:inB (n:Int) 1 5=aB:=iZ.2 (by omega)
 have hmN:∀ i,i<n->eF (jf (n:Int)).1 i=⟨(i:Int),(n:Int),bV n (jS (n:Int)),[],aC⟩:=fun i hi=>by
  rw[jf,if_pos hb];unfold eF;simp only[Int.toNat_natCast]
  rw[aS,List.getElem?_map,List.getElem?_range hi];simp only[Option.map_some,Option.getD_some]
  rw[kM,if_pos ⟨hb,iZ.2 (by omega)⟩]
  simp
 have hrow:∀ j,j<n->dO (bV n (jS (n:Int))) j=jS (n:Int):=fun j hj=>by simp[dO,List.getElem?_replicate,hj]
 have ho:∀ j,j<n->xQ (jf (n:Int)).1 j=jS (n:Int):=fun j hj=>by unfold xQ;rw[hmN j hj];exact hrow j hj
 refine⟨Du hn,fun i hi=>?_,fun i hi=>by rw[hmN i hi],fun i j hi hj=>?_, ?_,fun i hi=>by rw[ho i hi,e];simp⟩
 ·rw[jf,if_pos hb];simp[ou,List.getElem?_replicate,hi]
 ·rw[ho j hj,hmN i hi]
  simp only[hrow j hj]
  exact⟨by rw[e];exact⟨rfl,rfl⟩,Sy.refl _⟩
 ·rw[jf,if_pos hb];intro x hx;cases hx
theorem as8 (M:iO m i n) (t:List UInt8):(dO (jD m t).1.rows i).ver<=(dO m.rows i).ver+1:=by
 have hi:i<m.rows.length:=by rw[M.len];exact M.lt
 unfold jD
 split
 ·simp only;omega
 ·simp only[Mb.put,M.i,M.own]
  rw[gY hi,if_pos rfl];simp only;omega
theorem Yr (M:iO m i n) (x:Int):(dO (fJ m x).1.rows i).ver<=(dO m.rows i).ver+1:=by
 have hi:i<m.rows.length:=by rw[M.len];exact M.lt
 unfold fJ
 split
 ·simp only;omega
 ·simp only[Mb.put,M.i,M.own]
  rw[gY hi,if_pos rfl];simp only;omega
theorem Qs (M:iO m i n):(dO (fM m).rows i).ver<=(dO m.rows i).ver+1:=by
 have hi:i<m.rows.length:=by rw[M.len];exact M.lt
 unfold fM
 split
 ·omega
 ·rename_i hn
  have S:=DF M (by cases e:m.done with|false=>rfl|true=>exact absurd (.inl e) hn)
  have hv:=S.ver;simp only[M.i]
  rw[gY hi,if_pos rfl,S.e5]
  split
  ·omega
  ·simp only;omega
def kG (g:Gr) (n:Nat) (q:Int):Prop:=∀ k,k<n->(xQ g k).ver<=q
theorem kG.mono {g: Gr} {p: Int} (h:kG g n p) (hq:p<=q):kG g n q:=fun k hk=>Int.le_trans (h k hk) hq
theorem kG.set {g: Gr} (G:OkG g n) (h:kG g n q) (hi:i<n) {m': Mb} (hm:(dO m'.rows i).ver<=(xQ g i).ver+1):kG (g.set i m') n (q+1):=fun k hk=>by
 have hil:i<g.mem.length:=by rw[G.ml];exact hi
 unfold xQ;rw[vJ hil]
 split
 ·rename_i e
  subst e;have:=h k hk;omega
 ·have:=h k hk
  unfold xQ at this;omega
theorem kG.C9 {g g': Gr} (h:kG g n q) (e:g'.mem=g.mem):kG g' n q:=fun k hk=>by
 have:=h k hk;unfold xQ eF at this ⊢;rw[e];exact this
theorem kG.land {g:Gr} {n:Nat} {q:Int} (G:OkG g n) (h:kG g n q) {i:Nat} (hi:i<g.dS.length):kG (ku g i) n q:=fun k hk=>by
 have h0:=h k hk;unfold xQ at h0 ⊢;rcases (G.land hi).2.2.2 k hk with e|⟨r,a,_,e⟩
 ·rw[e];exact h0
 ·rw[e]
  obtain⟨h1,h2,h3,h4,h5,h6⟩:=sV (G.mem k hk) (a:Int) r;rw[h4];exact h0
theorem kG.act {g: Gr} (G:OkG g n) (h:kG g n q) (x:Ac):kG (gQ g x).1 n (q+1):=by
 have hs:kG g n (q+1):=h.mono (by omega)
 have Ob:mV g x=aB->∃ a b:Nat,x.a=(a:Int)/\x.b=(b:Int)/\a<n/\b<n/\a≠b:=fun ht=>by
  simp only[mV,bI,decide_eq_true_eq] at ht;rw[G.ml] at ht;obtain⟨a,e1,h1⟩:=qE ht.1;obtain⟨b,e2,h2⟩:=qE ht.2.1;exact⟨a,b,e1,e2,h1,h2,fun e=>ht.2.2 (by rw[e1,e2,e])⟩
 unfold gQ;by_cases c3:x.kind=3
 ·rw[if_pos c3]
  by_cases c2:mV g x=aB
  ·rw[if_pos c2]
   cases e:g.dS.findIdx? (fun y=>decide (y.fr=x.a/\y.to=x.b)) with
   | none=>exact hs
   | some i=>exact (kG.land G h (List.findIdx?_eq_some_iff_getElem.1 e).1).mono (by omega)
  ·rw[if_neg c2];exact hs
 ·rw[if_neg c3]
  by_cases c0:inB x.a 0 ((g.mem.length:Int)-1)=aC\/ou g x.a.toNat=aC
  ·rw[if_pos c0];exact hs
  ·rw[if_neg c0]
   simp only[not_or] at c0;rw[G.ml] at c0;obtain⟨a,ea,ha⟩:=qE (by simpa using c0.1)
   have M:=G.mem a ha;have et:x.a.toNat=a:=by rw[ea];rfl
   rw[et];by_cases c1:x.kind=1
   ·rw[if_pos c1];exact kG.set G h ha (as8 M x.txt)
   ·rw[if_neg c1]
    by_cases c2:x.kind=2
    ·rw[if_pos c2]
     by_cases c4:mV g x=aB
     ·rw[if_pos c4]
      obtain⟨a',b,e1,e2,h1,h2,h3⟩:=Ob c4;rw[e1,e2];exact hs.C9 (G.push h1 h2 h3).2.1
     ·rw[if_neg c4];exact hs
    ·rw[if_neg c2]
     by_cases c4:x.kind=4
     ·rw[if_pos c4];exact kG.set G h ha (Qs M)
     ·rw[if_neg c4]
      by_cases c5:x.kind=5
      ·rw[if_pos c5]
       by_cases c6:mV g x=aB
       ·rw[if_pos c6];exact kG.set G h ha (Yr M x.b)
       ·rw[if_neg c6];exact hs
      ·rw[if_neg c5]
       by_cases c6:x.kind=6
       ·rw[if_pos c6];exact hs.C9 rfl
       ·rw[if_neg c6]
        by_cases c7:x.kind=7
        ·rw[if_pos c7,ea]
         exact hs.C9 (OkG.all ha (List.range g.mem.length) G (fun y hy=>by rw[G.ml] at hy;exact List.mem_range.1 hy)).2.1
        ·rw[if_neg c7];exact hs
theorem kG.play {n:Nat}:∀ (l:List Ac) {g:Gr} {q:Int},OkG g n->kG g n q->kG (oU g l) n (q+(l.length:Int))
 | [],g,q,G,h=>by simpa[oU] using h
 | x::l,g,q,G,h=>by
  have:=kG.play l (RH G x).1 (h.act G x);rw[bP];exact this.mono (by omega)
theorem MK {n:Nat} {q:Int}:∀ (f:Nat) {g:Gr},OkG g n->kG g n q->kG (drain f g) n q
 | 0,g,G,h=>h
 | f+1,g,G,h=>by
  rw[drain]
  split
  ·rename_i hl
   exact MK f (G.land hl).1 (kG.land G h hl)
  ·exact h
theorem kG.rows {g:Gr} {n:Nat} {q:Int} (G:OkG g n) (h:kG g n q):∀ k,k<=n->kG (kD g k) n (q+(k:Int))
 | 0,_=>by simpa[kD] using h
 | k+1,hk=>by
  have ih:=kG.rows G h k (by omega)
  have Gk:=vK G k (by omega)
  rw[zu,qx]
  split
  ·have h1:=kG.set Gk ih (i:=k) (by omega) (Qs (Gk.mem k (by omega)))
   have G1:=(Gk.row (k:=k) (by omega)).1
   have e:(oC ((kD g k).set k (fM (eF (kD g k) k))) (k:Int)).mem=((kD g k).set k (fM (eF (kD g k) k))).mem:=by
    unfold oC;exact (OkG.all (a:=k) (by omega) _ G1 (fun x hx=>by have:=List.mem_range.1 hx;rw[G1.ml] at this;exact this)).2.1
   exact (h1.C9 e).mono (by push_cast;omega)
  ·exact ih.mono (by push_cast;omega)
theorem ML {g:Gr} {n:Nat} {q:Int} (G:OkG g n) (h:kG g n q):∀ j:Nat,kG (pY j g) n (q+5*(j:Int))
 | 0=>by simpa[pY] using h
 | j+1=>by
  have ih:=ML G h j;have Gj:=zY G j;have hn:=G.n5;rw[pY,DI Gj];exact ((MK _ (vK Gj n (cO _)) (kG.rows Gj ih n (cO _)))).mono (by push_cast;omega)
theorem as9 {g: Gr} (G:OkG g n) (h:kG g n q) (hq:q+45<1000000):U6 g n:=fun j hj k hk=>by
 have Gj:=zY G j;have h1:=kG.rows Gj (ML G h j) k (by omega) k hk
 have hn:=G.n5;have M:=(vK Gj k (by omega)).mem k hk
 rw[M.own];unfold xQ at h1;omega
theorem ND.owV {c: Nat} {g: Gr} (D:ND n c g):kG g n (c:Int):=D.ver
theorem MN (hn:1<=n/\n<=5):kG (jf (n:Int)).1 n 0:=(ND.new hn).owV
section
theorem aC6 (L:List Ac):L.flatMap D5=pl (sG L):=by
 induction L with
 | nil=>rfl
 | cons x L ih =>
  rw[List.flatMap_cons,ih]
  show D5 x++pl (sG L)=pl ((rV x).toList++sG L)
  unfold pl;rw[List.map_append]
  rfl
theorem Qu {a: Option dH} {c: Nat} {G: Option Nat} (h:iQ w 4 a L.length c (sG L) G):dY.ow w (iH 4 D5 L) (aj a L.length c) (fun b=>G=au b) :=
 ⟨a,c,sG L,G,fun _=>False,rfl,h,by rw[aC6];exact rM.2 ⟨rfl,fun _ h=>h⟩,fun _ _ h=>h,fun b=>⟨.inl,fun h=>h.elim id False.elim⟩⟩
theorem aj3 {Y: aI} {p: Nat} {a: Option dH} {cap: Nat} {bs: Nat->Int} {oa: Option dH} {c: Nat} {G: Option Nat} (h:AL w X Y p a len cap bs oa c G L):dY.ow Y (iH 4 D5 L) (aj oa L.length c) (fun b=>G=au b):=Qu h.own
structure qV (w X Y:aI) (p:Nat) (a:Option dH) (len cap:Nat) (bs:Nat->Int) (o:Nat) (g:Gr) (fp:Fp):Prop where
 cc:Cc w Y p a len cap bs
 res:Bx Y X.heap.size 28 #[aj ak 0 0,aj ak 0 0,aj ak 0 0]
 kT:iP Y o 0 (fZ g) fp
 jV:∀ b,fp b->X.heap.size<b
 hpo:p<X.heap.size
 ho:X.heap.size<o
 gr:X.grownBy Y (au p)
section
variable {w X Y Y':aI} {p:Nat} {a:Option dH} {len cap:Nat} {bs:Nat->Int} {o:Nat} {g g':Gr} {fp:Fp}
theorem qV.lt (h:qV w X Y p a len cap bs o g fp):w.heap.size<=X.heap.size:=by have:=h.cc.hp;have:=h.hpo;omega
theorem qV.drawn (h:qV w X Y p a len cap bs o g fp) (hg:Y.grownBy Y' (au p)) (hc:Cc w Y' p a len cap bs):qV w X Y' p a len cap bs o g fp:=by
 have h1:=h.hpo;have h2:=h.ho;exact⟨hc,h.res.grown hg (by simp;omega),h.kT.wrt (eX.lI hg) (fun b hb e=>by cases e;rcases hb with hb|hb;have:=h.jV _ hb;omega;omega),h.jV,h1,h2,fP h.gr hg⟩
theorem qV.step (h:qV w X Y p a len cap bs o g fp) (hb:Below Y.heap.size Y Y'):qV w X Y' p a len cap bs o g fp :=
 ⟨h.cc.step hb,h.res.below hb,h.kT.below hb,h.jV,h.hpo,h.ho,fP h.gr ⟨hb.os,hb.tape,hb.output,hb.size,fun x hx _=>hb.block x hx⟩⟩
theorem qV.act (h:qV w X Y p a len cap bs o g fp) (hb:fH Y Y' o 0 (fZ g') fp):∃ fp',qV w X Y' p a len cap bs o g' fp'/\∀ b,fp' b->fp b\/Y.heap.size<=b:=by
 have h1:=h.hpo;have h2:=h.ho;have h3:=h.lt;obtain⟨gU,hp,hf,_⟩:=hb.next;have hs:=h.gr.size;have hw:∀ b,(fp b\/b=o)->X.heap.size<b:=fun b hb=>by rcases hb with hb|hb;exact h.jV b hb;omega
 exact⟨gU,⟨h.cc.wrt hb.wrt (fun k=>by have:=hw p k;omega) (fun b k=>by have:=hw b k;omega),h.res.wrt hb.wrt (fun k=>by have:=hw _ k;omega),hp,fun b hb=>by rcases hf b hb with k|k;exact h.jV b k;have:=h.res.lt;omega,h1,h2,nU h.gr hb.wrt (fun b k=>by have:=hw b k;omega)⟩,hf⟩
theorem qV.done (h:qV w X Y p a len cap bs o g fp):∃ A:Ga,(Y.cell? ⟨o,0,ak⟩=au (aj A.ma g.mem.length A.mc)/\Y.cell? ⟨o,1,ak⟩=au (aj A.ua g.up.length A.uc)/\Y.cell? ⟨o,2,ak⟩=au (aj A.la g.dS.length A.lc))/\gB Y (fZ g) (jm A g) fp /\
  ∀ (x0 x1 x2:aJ),gB (((Y.setCell ⟨X.heap.size,0,ak⟩ x0).setCell ⟨X.heap.size,1,ak⟩ x1).setCell ⟨X.heap.size,2,ak⟩ x2) (fZ g) (jm A g) fp/\Cc w (((Y.setCell ⟨X.heap.size,0,ak⟩ x0).setCell ⟨X.heap.size,1,ak⟩ x1).setCell ⟨X.heap.size,2,ak⟩ x2) p a len cap bs/\X.grownBy (((Y.setCell ⟨X.heap.size,0,ak⟩ x0).setCell ⟨X.heap.size,1,ak⟩ x1).setCell ⟨X.heap.size,2,ak⟩ x2) (au p):=by
 obtain⟨vs,hpc,hov,hnB⟩:=h.kT;obtain⟨A,rfl⟩:=Px hov;have hl3:(jm A g).length=3:=rfl;have c:=hpc.cell;have h1:=h.hpo;have h3:=h.lt;refine⟨A,⟨c 0 (by rw[hl3];omega),c 1 (by rw[hl3];omega),c 2 (by rw[hl3];omega)⟩,hov,fun x0 x1 x2=>?_⟩
 have hw:=oK Y X.heap.size (a:=x0) (b:=x1) (c:=x2);exact⟨iy hov hw (fun b hb e=>by have:=h.jV b hb;omega),h.cc.wrt hw (by omega) (fun b e=>by omega),nU h.gr hw (fun b e=>by omega)⟩
end
def aj6 (w X X':aI) (p:Nat) (a:Option dH) (len cap:Nat) (bs:Nat->Int) (e:Ending) (g:Gr):Prop:=∃ (A:Ga) (fp:Fp),e=aK (gX A g)/\gB X' (fZ g) (jm A g) fp/\(∀ b,fp b->X.heap.size<=b)/\Cc w X' p a len cap bs/\X.grownBy X' (au p)
def aM6 (g:Gr):Prop:=∃ n,qO n g/\n<=4/\kG g n 325
theorem TN {W: aI} {p: Nat} {a: Option dH} {cap: Nat} {bs: Nat->Int} {A: Ga} {g: Gr} {fp: Fp} (hc:Cc w W p a len cap bs) (hr:Bx W X.heap.size 28 #[aj ak 0 0,aj ak 0 0,aj ak 0 0]) (hg:X.grownBy W (au p)) (hp:p<X.heap.size) (hl:gB W (fZ g) (jm A g) fp) (hf:∀ b,fp b->X.heap.size<b) :
  qV w X (W.alloc (aH #[aj A.ma g.mem.length A.mc,aj A.ua g.up.length A.uc,aj A.la g.dS.length A.lc] 28)) p a len cap bs W.heap.size g fp:=by
 have hba:=dX W (aH #[aj A.ma g.mem.length A.mc,aj A.ua g.up.length A.uc,aj A.la g.dS.length A.lc] 28);have hxb:=Bx.new W 28 #[aj A.ma g.mem.length A.mc,aj A.ua g.up.length A.uc,aj A.la g.dS.length A.lc];have hlt:=jd hl;have hrl:=hr.lt;exact⟨hc.step hba,hr.below hba,vM (A:=A) hxb (gG hl hba) (fun k=>by have:=hlt _ k;omega),hf,hp,by omega,fP hg ⟨hba.os,hba.tape,hba.output,hba.size,fun x hx _=>hba.block x hx⟩⟩
attribute [local irreducible] sv
theorem U7 {p: Nat} {a: Option dH} {cap: Nat} {bs: Nat->Int} (h:Cc w X p a len cap bs) :
  dF dA 60 #[aO (au ⟨p,0,ak⟩)] X fun e X'=>∃ g,aM6 g/\aj6 w X X' p a len cap bs e g:=by
 have Fb:=h.lt;have hwp:=h.hp;have b0:=dX X (aH #[aj ak 0 0,aj ak 0 0,aj ak 0 0] 28);have HR0:aG (Bx (X.alloc (aH #[aj ak 0 0,aj ak 0 0,aj ak 0 0] 28)) X.heap.size 28 #[aj ak 0 0,aj ak 0 0,aj ak 0 0]):=Bx.new X _ _;have wV:aG (Cc w (X.alloc (aH #[aj ak 0 0,aj ak 0 0,aj ak 0 0] 28)) p a len cap bs):=h.step b0;have nT:aG (X.grownBy (X.alloc (aH #[aj ak 0 0,aj ak 0 0,aj ak 0 0] 28)) (au p)):=⟨b0.os,b0.tape,b0.output,b0.size,fun x hx _=>b0.block x hx⟩
 clear h b0;generalize qP:X.alloc (aH #[aj ak 0 0,aj ak 0 0,aj ak 0 0] 28)=W0 at *;go_enter Tryz.func60,Tryz.ntmps60
 go_wp2_with fail
 refine (jP 4 4 rfl wV.out (by omega) (by omega)).mono ?_
 rintro e W1 ⟨y,rfl,hy,c1,g1⟩;obtain⟨n,hn⟩:∃ n:Nat,aG (n=1+y):=⟨_,rfl⟩;have hn4:1<=n/\n<=4:=by have:=hn.out;omega
 have en:(1:Int)+(y:Int)=n:=by have:=hn.out;omega
 have yK:=dP c1;have mD:=dP (fP nT.out g1);have HR1:aG (Bx W1 X.heap.size 28 #[aj ak 0 0,aj ak 0 0,aj ak 0 0]):=HR0.out.grown g1 (by simp;omega)
 have hN:=Hq (n:Int) W1;clear c1 g1 HR0 wV nT qP;go_wp2_with fail
 rw[en] at *;clear en hy;refine hN.mono ?_;rintro e W2 ⟨A,rfl,yZ,hl,hf,hb2⟩;have FH:aG (qO n (jf (n:Int)).1):=Du ⟨hn4.1,by omega⟩
 have Qv:aG (kG (jf (n:Int)).1 n 0):=MN ⟨hn4.1,by omega⟩
 have HM:aG (qV w X (W2.alloc (aH #[aj A.ma (jf (n:Int)).1.mem.length A.mc,aj A.ua (jf (n:Int)).1.up.length A.uc,aj A.la (jf (n:Int)).1.dS.length A.lc] 28)) p a len cap bs W2.heap.size (jf (n:Int)).1 yZ):=by
  have h1:=mD.out.size;have h2:=HR1.out.lt;exact TN (yK.out.step hb2) (HR1.out.below hb2) (fP mD.out ⟨hb2.os,hb2.tape,hb2.output,hb2.size,fun x hx _=>hb2.block x hx⟩) Fb hl (fun b hb=>by have:=hf b hb;omega)
 generalize (jf (n:Int)).2=bb at *;generalize (jf (n:Int)).1=g0 at *;unfold gX iW;clear hl hf hb2 hN yK mD HR1;go_upto_region 3 with fail
 generalize W2.alloc (aH #[aj A.ma g0.mem.length A.mc,aj A.ua g0.up.length A.uc,aj A.la g0.dS.length A.lc] 28)=W3 at *;generalize W2.heap.size=o at *;have hD:=Jp n (n:Int) rfl hn4.1 (by omega) HM.out.cc
 go_wp2_with fail
 refine hD.mono ?_;rintro e W4 ⟨oa,c,G,L,rfl,hA,hLl⟩;have mG:=dP (HM.out.drawn hA.gr hA.cc);have MP:=dP (aj3 hA)
 have LC:aG (∀ b,G=au b->¬ yZ b/\b≠o):=fun b hb=>by
  have h1:=hA.lo b hb;refine⟨fun k=>?_,fun k=>?_⟩
  ·have:=HM.out.kT.flt b k;omega
  ·have:=HM.out.kT.lt;omega
 have uT:=dP hA.ok;clear hA hD HM;go_wp2_with fail
 go_loopw [7] (fun v wr=>∃ (k:Nat) (g:Gr) (fp:Fp),k<=L.length/\v=ah aA (k:Int)/\qO n g/\kG g n (k:Int)/\qV w X wr p a len cap bs o g fp/\dY.ow wr (iH 4 D5 L) (aj oa L.length c) (fun b=>G=au b)/\∀ b,G=au b->¬ fp b/\b≠o) (fun v _=>L.length-(dG v).toNat)
 case atStart=>exact⟨0,g0,yZ,cZ _,rfl,FH.out,Qv.out,mG.out,MP.out,LC.out⟩
 case round =>
  obtain⟨k,g,fp,hk,rfl,hok,how,hM,hL,hd⟩:=hrel;have iE:=dP hok;have rP:=dP how;have HM:=dP hM;have HL:=dP hL;have HD:=dP hd;clear hok how hM hL hd mG MP LC FH Qv;by_cases hlt:k<L.length
  ·have k1:(k:Int)<L.length:=by omega
   have k0:(0:Int)<=k:=by omega
   obtain⟨lb,lo,hoa,d0,d1,d2,d3⟩:=Xe (dY.wF HL.out) hlt;have hxs:=uT.out (xq L k) (List.mem_of_getElem? (Pz hlt));have hAc:=EY o 0 g n (xq L k) fp wr HM.out.kT iE.out.pR (by have:=hxs.2;omega)
   have HF:aG (∀ Y,fH wr Y o 0 (fZ (gQ g (xq L k)).1) fp->∃ (k':Nat) (g:Gr) (fp:Fp),k'<=L.length/\(dB aA ((k:Int)+1))=ah aA (k':Int)/\qO n g/\kG g n (k':Int)/\qV w X Y p a len cap bs o g fp/\dY.ow Y (iH 4 D5 L) (aj oa L.length c) (fun b=>G=au b)/\∀ b,G=au b->¬ fp b/\b≠o):=fun Y hb=>by
    obtain⟨fp',h1,h2⟩:=HM.out.act hb;refine⟨k+1,_,fp',by omega,by push_cast;rfl,Oa iE.out _,by have:=rP.out.act iE.out.pR (xq L k);exact this.mono (by push_cast;omega),h1,dY.lJ HL.out hb.wrt (fun b e k2=>by rcases k2 with k2|k2;exact (HD.out b e).1 k2;exact (HD.out b e).2 k2),fun b e=>⟨fun k2=>?_,(HD.out b e).2⟩⟩
    rcases h2 b k2 with h3|h3
    ·exact (HD.out b e).1 h3
    ·have:=dY.kW HL.out b e;omega
   unfold o8 rV at hAc;subst hoa;generalize xq L k=x at *;clear hxs HM HL HD iE rP;go_wp2_with fail
   refine hAc.mono ?_;rintro e Y2 ⟨rfl,hb5⟩;have HE:aG _:=HF.out Y2 hb5;clear hb5 HF hAc d0 d1 d2 d3;generalize (gQ g x).2=bz at *;go_wp2;go_roundw
   case rel=>exact HE.out
   case measure=>simp[dG];omega
  ·have k1:¬ ((k:Int)<L.length):=by omega
   obtain⟨A9,⟨c0,c1,c2⟩,hown,hfin⟩:=HM.out.done;have HFin:=dP hfin;have Oo:aG (∀ b,fp b->X.heap.size<=b):=fun b hb=>by have:=HM.out.jV b hb;omega
   obtain⟨z0,z1,z2⟩:=Bx.g3 HM.out.res;obtain⟨f0,f1,f2⟩:=HM.out.res.f3;have HQ:aG (kG g n 325):=rP.out.mono (by omega)
   clear hown hfin HM HL HD rP;go_wp2;refine bY (v:=gX A9 g) (by simp[results,Tryz.results60,go_sem,gX,iW, *]) rfl ?_
   obtain⟨q1,q2,q3⟩:=HFin.out (aj A9.ma g.mem.length A9.mc) (aj A9.ua g.up.length A9.uc) (aj A9.la g.dS.length A9.lc);exact⟨g,⟨n,iE.out,hn4.2,HQ.out⟩,A9,fp,rfl,q1,Oo.out,q2,q3⟩
end
end Go.Proofs.YtafimeakbdmkjaaGreat