/-
  Texts in one.
-/
import Derived.Test.YtafimeakbdmkjaaGreatXaa
import Derived.Test.YtafimeakbdmkjaaGreatXak
import Derived.Test.YtafimeakbdmkjaaGreatXac
import Derived.Test.YtafimeakbdmkjaaGreatXab
namespace Go.Proofs.YtafimeakbdmkjaaGreat
open Bool renaming false->aC,true->aB
open Go renaming Addr->dH,Calls->dF,Value->aJ,World->aI,bodyPost_ret->bY,maxLen->dD,wpQuiet_nil->dh
open Go.Builtin renaming append_->bU
open Go.Ending renaming returned->aK
open Go.IntKind renaming i64->aA
open Go.Obj renaming cells->aH
open Go.Proofs.Tryz renaming prog->dA,underlying41->bG
open Go.RowKit renaming Hid->aG,intOf->dG
open Go.RowKit.Below renaming refl->dw
open Go.Value renaming bool->aF,int->ah,int->dB,pointer->aO,slice->aj,string->aN
open List renaming length_set->bQ,take_of_length_le->aY,take_succ_eq_append_getElem->aQ
open Nat renaming le_refl->cO,le_trans->bZ,zero_le->cZ
open Option renaming none->ak,some->au
open Option.some renaming inj->bT
set_option linter.unusedVariables false
set_option linter.unusedSimpArgs false
open Go.RowKit Go.Sort
set_option maxRecDepth 100000
set_option maxHeartbeats 12800000
variable {R:List Rw} {c g id k len off:Nat} {L:List Nat} {Z s:List Int} {X w:aI} {A:Ra} {f:Fp} {Zr:Array aJ}
theorem LH {cs:List Int} {M:Nat} (h:∀ i,i<cs.length->el cs i<=(M:Int)):∀ d,gZ cs (M+d)=gZ cs M
 | 0=>rfl
 | d+1=>by
  rw[<- Nat.add_assoc,qM,LH h d]
  have:kJ cs (M+d) cs.length=[]:=by
   unfold kJ
   have:(List.range cs.length).filter (fun i=>decide (((M+d:Nat):Int)<el cs i))=[]:=by
    rw[List.filter_eq_nil_iff];intro i hi;have:=h i (List.mem_range.1 hi);simp
    omega
   rw[this]
   rfl
  rw[this,List.append_nil]
theorem O1 {cs:List Int} (h1:∀ i,i<cs.length->0<=el cs i/\el cs i<=12):∀ k,k<=cs.length->rU cs k<=12
 | 0,_=>by simp[rU,hiL]
 | k+1,hk=>by
  rw[Hw (by omega)]
  have:=O1 h1 k (by omega)
  have:=(h1 k (by omega)).2
  omega
theorem am1 {cs: List Int} (h1:∀ i,i<cs.length->0<=el cs i/\el cs i<=12):gZ cs (rU cs cs.length).toNat=gZ cs 12:=by
 have hb:=WI (fun i hi=>⟨(h1 i hi).1,by have:=(h1 i hi).2;omega⟩) cs.length (cO _)
 have hm:=O1 h1 cs.length (cO _);have:=LH (cs:=cs) (M:=(rU cs cs.length).toNat) (fun i hi=>by have:=hb.2.2 i hi;omega) (12-(rU cs cs.length).toNat)
 rw[show (rU cs cs.length).toNat+(12-(rU cs cs.length).toNat)=12 by omega] at this
 exact this.symm
theorem WJ {o: Rw} (hk:k<L.length):ends R id o (L.take (k+1))=(ends R id o (L.take k)&&((dO R (L.getD k 0)).dV&&(decide ((dO R (L.getD k 0)).dW=o.dW)&&(decide ((dO R (L.getD k 0)).dU=o.dU)&&decide ((id:Int)∉(dO R (L.getD k 0)).dQ))))):=by
 have e:L.getD k 0=L[k]:=by simp[List.getD,hk]
 unfold ends;rw[aQ hk,List.all_append,e];simp
theorem am2 {o: Rw} (hk:k<L.length) (h:((dO R (L.getD k 0)).dV&&(decide ((dO R (L.getD k 0)).dW=o.dW)&&(decide ((dO R (L.getD k 0)).dU=o.dU)&&decide ((id:Int)∉(dO R (L.getD k 0)).dQ))))=aC):ends R id o L=aC:=by
 rw[ends,List.all_eq_false];exact⟨L.getD k 0,lX hk,by simp only[h];decide⟩
def jy (s Z:List Int) (j:Nat):List Int:=(Z.take j).foldl (fun s q=>if q∈s then s else gV s q) s
theorem zn {j: Nat} (hj:j<Z.length):jy s Z (j+1)=if el Z j∈jy s Z j then jy s Z j else gV (jy s Z j) (el Z j):=by
 have e:el Z j=Z[j]:=by simp[el,hj]
 unfold jy;rw[aQ hj,List.foldl_append,e]
 rfl
theorem LJ:jy s Z Z.length=Z.foldl (fun s q=>if q∈s then s else gV s q) s:=by rw[jy,List.take_length]
theorem Ba {s Z:List Int}:∀ j,(jy s Z j).length<=s.length+j
 | 0=>by simp[jy]
 | j+1=>by
  rcases Nat.lt_or_ge j Z.length with h|h
  ·rw[zn h]
   have:=Ba (s:=s) (Z:=Z) j
   split
   ·omega
   ·have:=YS (jy s Z j) (el Z j);omega
  ·have e:jy s Z (j+1)=jy s Z j:=by unfold jy;rw[aY (by omega),aY h]
   rw[e];have:=Ba (s:=s) (Z:=Z) j;omega
theorem zq {s Z:List Int} (h1:Fits s) (h2:Fits Z):∀ j,Fits (jy s Z j)
 | 0=>h1
 | j+1=>by
  rcases Nat.lt_or_ge j Z.length with h|h
  ·rw[zn h]
   have ih:=zq h1 h2 j
   split
   ·exact ih
   ·intro x hx
    rcases nC.1 hx with k|k
    ·rw[k];exact h2 _ (kK h)
    ·exact ih x k
  ·have e:jy s Z (j+1)=jy s Z j:=by unfold jy;rw[aY (by omega),aY h]
   rw[e];exact zq h1 h2 j
def Jj (m:Mb) (i:Nat) (L:List Nat):Mb:=if ends m.rows i (dO m.rows i) L=aB then { m with done:=aB,dR:=jJ m.dR (dO m.rows i).dU } else m
theorem Mw.aI9 {B o: Nat} {m: Mb} {fp: Fp} (h:Mw w X B o m fp g off c) (hk:k<m.rows.length) (Lp:RV X g (off+k*8) A (dO m.rows k)):tV X A.ma (dO m.rows k).dU B:=by
 obtain⟨gU,hp,hf1,hgo⟩:=h.iw.next;obtain⟨g',off',c',f,h1,hgB,hfg,hfs,⟨vs,hpc,hov,I4⟩,hput⟩:=hp.el (F:=jo) jU (by omega) (j:=2) (L:=m.rows) rfl (iV hk)
 have e:=bT (h1.symm.trans h.rws)
 cases e
 have hv:=EP.vals (A:=A) ⟨hpc,hov,I4⟩ Lp;obtain⟨A',e',hl⟩:=wP hov;rw[hv] at e';obtain rfl:=RQ e';have hnB:¬ f B:=fun k=>hp.nB (hfs B k)
 obtain⟨u1,vW,f1,g1,e1,o1,h2,d1,i1⟩:=hl
 cases e1
 obtain⟨u2,wY,f2,g2,e2,o2,h3,d2,i2⟩:=h2
 cases e2
 obtain⟨u3,Es,f3,g3,e3,o3,h4,d3,i3⟩:=h3
 cases e3
 obtain⟨u4,NU,f4,g4,e4,o4,h5,d4,i4⟩:=h4
 cases e4
 exact⟨Lp.2.dU,UE o4 (fun k=>hnB ((i1 B).2 (.inr ((i2 B).2 (.inr ((i3 B).2 (.inr ((i4 B).2 (.inl k)))))))))⟩
theorem WL (B o:Nat) (m:Mb) (i n:Nat) (L:List Nat) (la:Option dH) (lc:Nat) (fl fp:Fp) (w:aI) (h:iP w B o (jY m) fp) (ok:iO m i n) (hrd:(dO m.rows i).dV=aB) (hl:dY.ow w (gJ (lN L)) (aj la L.length lc) fl) (hL:∀ k∈L,k<n) (hLn:L.length<=n) :
  dF dA 121 #[aO (au ⟨B,o,ak⟩),aj la L.length lc] w fun e w'=>e=aK (.tuple #[])/\Mk w w' B o (Jj m i L) fp:=by
 have gq:=iD;have hil:i<m.rows.length:=by rw[ok.len];exact ok.lt
 obtain⟨g,off,c,M0⟩:=Mw.start h (by omega)
 obtain⟨c0,c1,c4⟩:=M0.id';have nK:=M0.rws;rw[ok.hid] at c0;have i0:(0:Int)<=i:=by omega
 have i1:(i:Int)<m.rows.length:=by omega
 have HC2:=dP M0.rws;have kQ:=dP M0;have hr:=ok.ok i ok.lt;have jq:=hr.n5;have Gh:aG (∀ X,Below w.heap.size w X->Vec X la (lN L).length (lN L)):=fun X hX=>lW (by rw[jl];exact dY.ig hl hX) (wo hL (by omega))
 have HL:=dP hL;obtain⟨Ao,aw9,_,_⟩:=M0.OW ok.fit hil;have ax0:=dP aw9;obtain⟨⟨⟨d0,d1,d2,d3⟩,d4,d5,d6,d7⟩,UG⟩:=aw9;have aJ0:=dP h.lt;generalize hro:dO m.rows i=ro at *;have HRO:=dP hro;have HRD:=dP hrd;clear hro hrd
 have KS:∀ X,Below w.heap.size w X->(X.cell? ⟨B,o+2,ak⟩=au (aj (au ⟨g,off,ak⟩) m.rows.length c)/\X.cell? ⟨B,o,ak⟩=au (ah aA (i:Int))/\X.cell? ⟨g,off+i*8,ak⟩=au (ah aA ro.ver)/\X.cell? ⟨g,off+i*8+1,ak⟩=au (aj Ao.ta ro.txt.length Ao.tc)/\X.cell? ⟨g,off+i*8+2,ak⟩=au (aj Ao.ga ro.got.length Ao.gc)/\X.cell? ⟨g,off+i*8+3,ak⟩=au (aj Ao.sa ro.dQ.length Ao.sc)/\X.cell? ⟨g,off+i*8+4,ak⟩=au (aF ro.wed)/\X.cell? ⟨g,off+i*8+5,ak⟩=au (aF ro.dV)/\X.cell? ⟨g,off+i*8+6,ak⟩=au (ah aA ro.dW)/\X.cell? ⟨g,off+i*8+7,ak⟩=au (aj Ao.ma ro.dU.length Ao.mc)):=fun X hX=>by
  have t:∀ {x v},w.cell? x=au v->X.cell? x=au v:=fun h=>gy hX h
  exact⟨t nK,t c0,t d0,t d1,t d2,t d3,t d4,t d5,t d6,t d7⟩
 have hbd:=(Same.drewN w 1).below;clear c0 c1 c4 nK M0 h hl hL UG d0 d1 d2 d3 d4 d5 d6 d7;go_enter Tryz.func121,Tryz.ntmps121
 go_wp2_with fail
 refine lU (S:=fun X:aI=>X.cell? ⟨B,o+2,ak⟩=au (aj (au ⟨g,off,ak⟩) m.rows.length c)/\X.cell? ⟨B,o,ak⟩=au (ah aA (i:Int))/\X.cell? ⟨g,off+i*8,ak⟩=au (ah aA ro.ver)/\X.cell? ⟨g,off+i*8+1,ak⟩=au (aj Ao.ta ro.txt.length Ao.tc)/\X.cell? ⟨g,off+i*8+2,ak⟩=au (aj Ao.ga ro.got.length Ao.gc)/\X.cell? ⟨g,off+i*8+3,ak⟩=au (aj Ao.sa ro.dQ.length Ao.sc)/\X.cell? ⟨g,off+i*8+4,ak⟩=au (aF ro.wed)/\X.cell? ⟨g,off+i*8+5,ak⟩=au (aF ro.dV)/\X.cell? ⟨g,off+i*8+6,ak⟩=au (ah aA ro.dW)/\X.cell? ⟨g,off+i*8+7,ak⟩=au (aj Ao.ma ro.dU.length Ao.mc)) 11 gq ((KS _ hbd)) fun hHeld=>?_
 refine fC (i:=0) rfl hHeld ?_;refine fC (i:=1) rfl hHeld ?_;refine fC (i:=2) rfl hHeld ?_;refine fC (i:=3) rfl hHeld ?_;refine fC (i:=4) rfl hHeld ?_;refine fC (i:=5) rfl hHeld ?_;refine fC (i:=6) rfl hHeld ?_;refine fC (i:=7) rfl hHeld ?_;refine fC (i:=8) rfl hHeld ?_;refine fC (i:=9) rfl hHeld ?_;refine iJ (i:=10) rfl fun K hK=>?_
 go_simp;have hb2:Below w.heap.size w (w.drew.alloc (aH #[ah aA 0,aj ak 0 0,aj ak 0 0,aj ak 0 0,aF aC,aF aC,ah aA 0,aj ak 0 0] 44)):=hbd.trans ((dX w.drew _).mono hbd.size);refine hK.out _ _ (KS _ hb2) (fun eP=>?_)
 clear hK hHeld;have hHeld:=eP;try simp only[iC]
 refine oV rfl fun K hK=>?_
 go_simp;refine hK.out _ _ ?_;have hb5:Below w.heap.size w (w.alloc (aH #[ah aA ro.ver,aj Ao.ta ro.txt.length Ao.tc,aj Ao.ga ro.got.length Ao.gc,aj Ao.sa ro.dQ.length Ao.sc,aF ro.wed,aF ro.dV,ah aA ro.dW,aj Ao.ma ro.dU.length Ao.mc] 44)).drew:=(dX w _).trans ((Same.drewN _ 1).below.mono (dX w _).size);have hx5:Bx (w.alloc (aH #[ah aA ro.ver,aj Ao.ta ro.txt.length Ao.tc,aj Ao.ga ro.got.length Ao.gc,aj Ao.sa ro.dQ.length Ao.sc,aF ro.wed,aF ro.dV,ah aA ro.dW,aj Ao.ma ro.dU.length Ao.mc] 44)).drew w.heap.size 44 #[ah aA ro.ver,aj Ao.ta ro.txt.length Ao.tc,aj Ao.ga ro.got.length Ao.gc,aj Ao.sa ro.dQ.length Ao.sc,aF ro.wed,aF ro.dV,ah aA ro.dW,aj Ao.ma ro.dU.length Ao.mc]:=Bx.new w _ _;generalize (w.alloc (aH #[ah aA ro.ver,aj Ao.ta ro.txt.length Ao.tc,aj Ao.ga ro.got.length Ao.gc,aj Ao.sa ro.dQ.length Ao.sc,aF ro.wed,aF ro.dV,ah aA ro.dW,aj Ao.ma ro.dU.length Ao.mc] 44)).drew=W1 at *;clear hHeld KS hbd hb2 hK;have HXo:aG (Bx W1 w.heap.size 44 #[ah aA ro.ver,aj Ao.ta ro.txt.length Ao.tc,aj Ao.ga ro.got.length Ao.gc,aj Ao.sa ro.dQ.length Ao.sc,aF ro.wed,aF ro.dV,ah aA ro.dW,aj Ao.ma ro.dU.length Ao.mc]):=hx5;have fU:aG (Mw w W1 B o m fp g off c):=kQ.out.step hb5;have HB1:aG (Below w.heap.size w W1):=hb5;clear hx5 hb5 kQ;go_wp2_with fail
 go_loopw [5] (fun v wr=>∃ k:Nat,k<=L.length/\v=ah aA (k:Int)/\aG (ends m.rows i ro (L.take k)=aB)/\Below W1.heap.size W1 wr) (fun v _=>L.length-(dG v).toNat)
 case atStart=>exact⟨0,cZ _,rfl,rfl,dw _ _⟩
 case round =>
  obtain⟨k,hk,rfl,ET,hgr⟩:=hrel;have M:=fU.out.step hgr;have hBw:=eU HB1.out hgr;by_cases hlt:k<L.length
  ·have qI:L.getD k 0<n:=HL.out _ (lX hlt)
   have uG:L.getD k 0<m.rows.length:=by rw[ok.len];exact qI
   have rQ:=Gh.out wr hBw;rcases rQ.2.2 with hz|⟨lb,lo,hla,hlc⟩
   ·rw[jl] at hz;omega
   have hlk:=hlc k (by rw[jl];exact hlt)
   rw[wQ hlt] at hlk;obtain⟨AJ,zS,_,_⟩:=M.OW ok.fit uG;have HEt:=WJ (R:=m.rows) (id:=i) (o:=ro) hlt;have aJ1:aG (((dO m.rows (L.getD k 0)).dV&&(decide ((dO m.rows (L.getD k 0)).dW=ro.dW)&&(decide ((dO m.rows (L.getD k 0)).dU=ro.dU)&&decide ((i:Int)∉(dO m.rows (L.getD k 0)).dQ))))=aC->ends m.rows i ro L=aC):=fun h=>am2 hlt h
   rw[ET.out,Bool.true_and] at HEt;have aJ2:=dP HEt;clear HEt;have aw8:=ok.ok _ qI;generalize L.getD k 0=J at *;have k1:(k:Int)<L.length:=by omega
   have k0:(0:Int)<=k:=by omega
   have J0:(0:Int)<=J:=by omega
   have J1:(J:Int)<m.rows.length:=by omega
   have nK:=M.rws;obtain⟨⟨⟨d0,d1,d2,d3⟩,d4,d5,d6,d7⟩,zT⟩:=zS;have Hu:=dP zT;have UH:=dP (ax0.out.2.below hBw);have HM:=dP M;have O4:=dP (HXo.out.below hgr);have HGr:=dP hgr;generalize hrr:dO m.rows J=r at *
   have KS:∀ X,Below wr.heap.size wr X->(X.cell? ⟨B,o+2,ak⟩=au (aj (au ⟨g,off,ak⟩) m.rows.length c)/\X.cell? ⟨lb,lo+k,ak⟩=au (ah aA (J:Int))/\X.cell? ⟨g,off+J*8,ak⟩=au (ah aA r.ver)/\X.cell? ⟨g,off+J*8+1,ak⟩=au (aj AJ.ta r.txt.length AJ.tc)/\X.cell? ⟨g,off+J*8+2,ak⟩=au (aj AJ.ga r.got.length AJ.gc)/\X.cell? ⟨g,off+J*8+3,ak⟩=au (aj AJ.sa r.dQ.length AJ.sc)/\X.cell? ⟨g,off+J*8+4,ak⟩=au (aF r.wed)/\X.cell? ⟨g,off+J*8+5,ak⟩=au (aF r.dV)/\X.cell? ⟨g,off+J*8+6,ak⟩=au (ah aA r.dW)/\X.cell? ⟨g,off+J*8+7,ak⟩=au (aj AJ.ma r.dU.length AJ.mc)):=fun X hX=>by
    have t:∀ {x v},wr.cell? x=au v->X.cell? x=au v:=fun h=>gy hX h
    exact⟨t nK,t hlk,t d0,t d1,t d2,t d3,t d4,t d5,t d6,t d7⟩
   have hbd:=(Same.drewN wr 1).below;clear hrr M zT hlc hlk nK d0 d1 d2 d3 d4 d5 d6 d7 hBw rQ hgr;subst hla;go_wp2_with fail
   refine lU (S:=fun X:aI=>X.cell? ⟨B,o+2,ak⟩=au (aj (au ⟨g,off,ak⟩) m.rows.length c)/\X.cell? ⟨lb,lo+k,ak⟩=au (ah aA (J:Int))/\X.cell? ⟨g,off+J*8,ak⟩=au (ah aA r.ver)/\X.cell? ⟨g,off+J*8+1,ak⟩=au (aj AJ.ta r.txt.length AJ.tc)/\X.cell? ⟨g,off+J*8+2,ak⟩=au (aj AJ.ga r.got.length AJ.gc)/\X.cell? ⟨g,off+J*8+3,ak⟩=au (aj AJ.sa r.dQ.length AJ.sc)/\X.cell? ⟨g,off+J*8+4,ak⟩=au (aF r.wed)/\X.cell? ⟨g,off+J*8+5,ak⟩=au (aF r.dV)/\X.cell? ⟨g,off+J*8+6,ak⟩=au (ah aA r.dW)/\X.cell? ⟨g,off+J*8+7,ak⟩=au (aj AJ.ma r.dU.length AJ.mc)) 11 gq ((KS _ hbd)) fun hHeld=>?_
   refine fC (i:=0) rfl hHeld ?_;refine fC (i:=1) rfl hHeld ?_;refine fC (i:=2) rfl hHeld ?_;refine fC (i:=3) rfl hHeld ?_;refine fC (i:=4) rfl hHeld ?_;refine fC (i:=5) rfl hHeld ?_;refine fC (i:=6) rfl hHeld ?_;refine fC (i:=7) rfl hHeld ?_;refine fC (i:=8) rfl hHeld ?_;refine fC (i:=9) rfl hHeld ?_;refine iJ (i:=10) rfl fun K hK=>?_
   go_simp;have hb2:Below wr.heap.size wr (wr.drew.alloc (aH #[ah aA 0,aj ak 0 0,aj ak 0 0,aj ak 0 0,aF aC,aF aC,ah aA 0,aj ak 0 0] 44)):=hbd.trans ((dX wr.drew _).mono hbd.size);refine hK.out _ _ (KS _ hb2) (fun eP=>?_)
   clear hK hHeld;have hHeld:=eP;try simp only[iC]
   refine oV rfl fun K hK=>?_
   go_simp;refine hK.out _ _ ?_;have hb5:Below wr.heap.size wr (wr.alloc (aH #[ah aA r.ver,aj AJ.ta r.txt.length AJ.tc,aj AJ.ga r.got.length AJ.gc,aj AJ.sa r.dQ.length AJ.sc,aF r.wed,aF r.dV,ah aA r.dW,aj AJ.ma r.dU.length AJ.mc] 44)).drew:=(dX wr _).trans ((Same.drewN _ 1).below.mono (dX wr _).size);have hx5:Bx (wr.alloc (aH #[ah aA r.ver,aj AJ.ta r.txt.length AJ.tc,aj AJ.ga r.got.length AJ.gc,aj AJ.sa r.dQ.length AJ.sc,aF r.wed,aF r.dV,ah aA r.dW,aj AJ.ma r.dU.length AJ.mc] 44)).drew wr.heap.size 44 #[ah aA r.ver,aj AJ.ta r.txt.length AJ.tc,aj AJ.ga r.got.length AJ.gc,aj AJ.sa r.dQ.length AJ.sc,aF r.wed,aF r.dV,ah aA r.dW,aj AJ.ma r.dU.length AJ.mc]:=Bx.new wr _ _;generalize (wr.alloc (aH #[ah aA r.ver,aj AJ.ta r.txt.length AJ.tc,aj AJ.ga r.got.length AJ.gc,aj AJ.sa r.dQ.length AJ.sc,aF r.wed,aF r.dV,ah aA r.dW,aj AJ.ma r.dU.length AJ.mc] 44)).drew=W5 at *;clear hHeld KS hbd hb2 hK;have oM:aG (Below wr.heap.size wr W5):=hb5;obtain⟨⟨x0,x1,x2,x3⟩,x4,x5,x6,x7⟩:=Bx.r8 hx5;obtain⟨⟨y0,y1,y2,y3⟩,y4,y5,y6,y7⟩:=Bx.r8 (O4.out.below hb5);have cid:=(HM.out.step hb5).id'.1;rw[ok.hid] at cid;have T5:∀ {x v},W5.cell? x=au v->∀ q:Bk W5,q.w.cell? x=au v:=fun h q=>gy q.h h
   have yI:=T5 x3;have Cj:=T5 x5;have Jf:=T5 x6;have O5:=T5 x7;have O6:=T5 y6;have O7:=T5 y7;have pid:=T5 cid
   have C1:∀ q:Bk W5,dF dA 153 #[aj AJ.ma r.dU.length AJ.mc,aj Ao.ma ro.dU.length Ao.mc] q.w fun e w'=>e=aK (aF (decide (r.dU=ro.dU)))/\Below q.w.heap.size q.w w':=fun q=>by
    have hq:=eU oM.out q.h;exact (Jh AJ.ma Ao.ma r.dU.length AJ.mc ro.dU.length Ao.mc r.dU ro.dU q.w (Hu.out.below hq).dU (UH.out.below hq).dU Hu.out.mm).mono (fun e w' ⟨h4,n,h5⟩=>⟨h4,by rw[h5];exact fO (dw _ _)⟩)
   have C2:∀ q:Bk W5,dF dA 113 #[aj AJ.sa r.dQ.length AJ.sc,ah aA (i:Int)] q.w fun e w'=>e=aK (aF (decide ((i:Int)∈r.dQ)))/\Below q.w.heap.size q.w w':=fun q=>by
    have hq:=eU oM.out q.h;exact (qL AJ.sa r.dQ.length AJ.sc (i:Int) r.dQ q.w (Hu.out.below hq).dQ Hu.out.ms).mono (fun e w' h=>⟨h.1,by rw[h.2];exact dw _ _⟩)
   clear x0 x1 x2 x3 x4 x5 x6 x7 y0 y1 y2 y3 y4 y5 y6 y7 hx5 hb5 T5 cid;obtain⟨dd,hdd⟩:∃ dd:Bool,aG (dd=(r.dV&&(decide (r.dW=ro.dW)&&(decide (r.dU=ro.dU)&&decide ((i:Int)∉r.dQ))))):=⟨_,rfl⟩;go_upto_region 5 with fail
   go_cut [61] from 35 to 61 (fun v X=>v=aF (!dd)/\Below W5.heap.size W5 X)
   case first =>
    rcases Bool.eq_false_or_eq_true r.dV with a1|a1
    rotate_left
    ·have hd0:aG (dd=aC):=by rw[aG,hdd.out,a1];rfl
     rw[a1] at Cj;clear a1;refine jg ?_;repeat (go_big_quiet_step ((first|(go_at_call 153;exact eY _ (C1 _))|(go_at_call 113;exact eY _ (C2 _))|rfl)))
     refine dh (iL fun wE eG=>?_)
     try go_wp2_with fail
     go_meet
     case rel=>exact⟨by rw[hd0.out];rfl,eG⟩
    rw[a1] at Cj;by_cases a2:r.dW=ro.dW;rotate_left
    ·have hd0:aG (dd=aC):=by rw[aG,hdd.out,decide_eq_false a2];simp
     have g2:(r.dW != ro.dW)=aB:=by simpa using a2
     clear a1 a2;refine jg ?_;repeat (go_big_quiet_step ((first|(go_at_call 153;exact eY _ (C1 _))|(go_at_call 113;exact eY _ (C2 _))|rfl)))
     refine dh (iL fun wE eG=>?_)
     try go_wp2_with fail
     go_meet
     case rel=>exact⟨by rw[hd0.out];rfl,eG⟩
    have g2:(r.dW != ro.dW)=aC:=by simpa using a2
    by_cases a3:r.dU=ro.dU;rotate_left
    ·have hd0:aG (dd=aC):=by rw[aG,hdd.out,decide_eq_false a3];simp
     rw[decide_eq_false a3] at C1;clear a1 a2 a3;refine jg ?_;repeat (go_big_quiet_step ((first|(go_at_call 153;exact eY _ (C1 _))|(go_at_call 113;exact eY _ (C2 _))|rfl)))
     refine dh (iL fun wE eG=>?_)
     try go_wp2_with fail
     go_meet
     case rel=>exact⟨by rw[hd0.out];rfl,eG⟩
    rw[decide_eq_true a3] at C1;by_cases a4:(i:Int)∈r.dQ
    ·have hd0:aG (dd=aC):=by rw[aG,hdd.out];simp[a4]
     rw[decide_eq_true a4] at C2;clear a1 a2 a3 a4;refine jg ?_;repeat (go_big_quiet_step ((first|(go_at_call 153;exact eY _ (C1 _))|(go_at_call 113;exact eY _ (C2 _))|rfl)))
     refine dh (iL fun wE eG=>?_)
     try go_wp2_with fail
     go_meet
     case rel=>exact⟨by rw[hd0.out];rfl,eG⟩
    have hd0:aG (dd=aB):=by rw[aG,hdd.out,a1,decide_eq_true a2,decide_eq_true a3,decide_eq_true a4];rfl
    rw[decide_eq_false a4] at C2;clear a1 a2 a3 a4;refine jg ?_;repeat (go_big_quiet_step ((first|(go_at_call 153;exact eY _ (C1 _))|(go_at_call 113;exact eY _ (C2 _))|rfl)))
    refine dh (iL fun wE eG=>?_)
    try go_wp2_with fail
    go_meet
    case rel=>exact⟨by rw[hd0.out];rfl,eG⟩
   case rest =>
    obtain⟨rfl,hBc⟩:=hcut;have Ji:=eU oM.out hBc;have jW:=dP (HM.out.step Ji);have HG6:=dP (eU HGr.out Ji);clear yI Cj Jf O5 O6 O7 pid C1 C2 hBc Ji
    cases dd with
    | false =>
     have HZ:=dP (aJ1.out hdd.out.symm);go_wp2
     (try simp only[Exit.inBlock,Exit.then])
     refine bY (results_none rfl _ _ _) rfl ?_;rw[Jj,HRO.out,HZ.out];exact⟨rfl,jW.out.mk' HC2.out rfl⟩
    | true =>
     have HE2:aG (ends m.rows i ro (L.take (k+1))=aB):=by rw[aG,aJ2.out];exact hdd.out.symm
     go_wp2;go_roundw
     case rel=>exact⟨k+1,by omega,by go_num,HE2,HG6.out⟩
     case measure=>simp[dG];omega
  ·have k1:¬ ((k:Int)<L.length):=by omega
   have HZ:aG (Jj m i L={ m with done:=aB,dR:=jJ m.dR ro.dU }):=by
    have e:ends m.rows i ro L=aB:=by rw[<- ET.out,aY (by omega)]
    rw[aG,Jj,HRO.out,e]
    rfl
   have ax1:RV wr g (off+i*8) Ao (dO m.rows i):=by rw[HRO.out];exact ax0.out.below hBw
   have hVB:=M.aI9 hil ax1;rw[HRO.out] at hVB;obtain⟨u4,f4,q1,q2,_,_,q4⟩:=M.KX (j:=4) (cl:=.v (aF m.done)) rfl (by omega)
   obtain⟨q5,q6,M2⟩:=q4 wr (.v (aF aB)) (aF aB) (fun _=>False) { m with done:=aB } rfl rfl (eX.refl _ _) ⟨rfl,fun _ h=>h⟩ (fun b hb=>hb.elim)
   have jk:aG (Mw w (wr.setCell ⟨B,o+4,ak⟩ (aF aB)) B o { m with done:=aB } fp g off c):=M2
   have Ru:aG (tV (wr.setCell ⟨B,o+4,ak⟩ (aF aB)) Ao.ma ro.dU B):=hVB.set _ _;have l9:aG (Bx (wr.setCell ⟨B,o+4,ak⟩ (aF aB)) w.heap.size 44 #[ah aA ro.ver,aj Ao.ta ro.txt.length Ao.tc,aj Ao.ga ro.got.length Ao.gc,aj Ao.sa ro.dQ.length Ao.sc,aF ro.wed,aF ro.dV,ah aA ro.dW,aj Ao.ma ro.dU.length Ao.mc]):=(HXo.out.below hgr).far (by have:=aJ0.out;omega) _
   have htr:=hr.dV HRD.out;have htl:=htr.2.2.2.1;have h12:∀ j,j<ro.dU.length->0<=el ro.dU j/\el ro.dU j<=12:=fun j hj=>(jF hr.n5 htl).1 ⟨htr.2.2.1,htr.2.2.2.2⟩ j (by omega)
   have Gm:=dP htl;have htp:0<ro.dU.length/\ro.dU.length<=5:=by omega
   clear M M2 ax1 hVB hBw hgr q4 ET htr htl;go_upto_region 6 with fail
   go_upto_region 7 with fail
   generalize wr.setCell ⟨B,o+4,ak⟩ (aF aB)=V1 at *;clear q1 q2 q5 q6;have x7:=l9.out.at 7 rfl;simp only[List.getElem_toArray,List.getElem_cons_succ,List.getElem_cons_zero] at x7;rcases Ru.out.vec.2.2 with h0|⟨tb,tof,hta,htc⟩
   ·omega
   rw[hta] at x7;have hW:=QS tb tof Ao.mc ro.dU ro.dU.length V1 rfl (by omega) (fun j hj=>htc j hj) (fun j hj=>by have:=h12 j hj;omega)
   rw[am1 h12] at hW;clear hta htc;go_wp2_with fail
   refine hW.mono ?_;rintro e ws ⟨sg,so,sc,rfl,hsg,hO,hbs⟩;obtain⟨jw,f1,f2,_,M5,WM⟩:=jk.out.sub hbs;have HSg:aG (jJ m.dR ro.dU=jy m.dR (gZ ro.dU 12) (gZ ro.dU 12).length):=by rw[aG,LJ];rfl
   have zN:(gZ ro.dU 12).length<=1000:=by
    have:=FU ro.dU 12;rw[Gm.out] at this;omega
   have WO:Fits (gZ ro.dU 12):=ES (by omega) (by omega)
   have yJ:=dP WM;have iM:=dP M5;have HsB:aG (¬ jw sg/\sg≠B):=⟨fun k=>by have:=f1 _ k;omega,by omega⟩
   generalize gZ ro.dU 12=Z at *;have HOs:aG (dY.ow ws (gJ Z) (aj (au ⟨sg,so,ak⟩) Z.length sc) (fun b=>b=sg)):=je.2 ⟨_,sc,au sg,rfl,iQ.of hO,fun b=>by simp[eq_comm]⟩
   clear hW x7 hO hbs f1 f2 WM M5 hsg l9 Ru jk;go_wp2_with fail
   go_loopw [8] (fun v wr=>∃ j:Nat,j<=Z.length/\v=ah aA (j:Int)/\Mw ws wr B o { m with done:=aB,dR:=jy m.dR Z j } jw g off c) (fun v _=>Z.length-(dG v).toNat)
   case atStart=>exact⟨0,cZ _,rfl,iM.out⟩
   case round =>
    obtain⟨j,hj,rfl,M⟩:=hrel;by_cases hlt2:j<Z.length
    ·have j1:(j:Int)<Z.length:=by omega
     have j0:(0:Int)<=j:=by omega
     have hsl:=Ba (s:=m.dR) (Z:=Z) j;have hsf:=zq (s:=m.dR) (Z:=Z) ok.fit.2 WO j;have hms:=ok.sl;have HN:aG (jy m.dR Z (j+1)=if el Z j∈jy m.dR Z j then jy m.dR Z j else gV (jy m.dR Z j) (el Z j)):=zn hlt2
     have WQ:=lW (M.RU HOs.out (fun b hb=>by rw[hb];exact HsB.out)) WO
     rcases WQ.2.2 with hz|⟨zb,zo,ez,hzc⟩
     ·omega
     cases ez
     have hzj:=hzc j hlt2;generalize el Z j=x at *;generalize hsj:jy m.dR Z j=sj at *;obtain⟨u,f,hu,hfz,how,xJ,hset⟩:=M.KX (j:=3) (cl:=gJ sj) rfl (by omega)
     have how':=how;obtain⟨ya,yc,G,rfl,_,_⟩:=je.1 how';have LK:=lW how hsf;have HM:=dP M;have T5:∀ {x v},wr.cell? x=au v->∀ q:Bk wr,q.w.cell? x=au v:=fun h q=>gy q.h h
     have p3:=T5 hu;have pz:=T5 hzj;have C2:∀ q:Bk wr,dF dA 113 #[aj ya sj.length yc,ah aA x] q.w fun e w'=>e=aK (aF (decide (x∈sj)))/\Below q.w.heap.size q.w w':=fun q=>(qL ya sj.length yc x sj q.w (LK.below q.h (cO _)) (by unfold dD;omega)).mono (fun e w' h=>⟨h.1,by rw[h.2];exact dw _ _⟩)
     clear hsj hset how how' xJ LK hzc WQ M T5 hu hfz hzj;by_cases hxs:x∈sj
     ·have yT:aG (jy m.dR Z (j+1)=sj):=by rw[aG,HN.out,if_pos hxs]
      rw[decide_eq_true hxs] at C2;clear hxs HN;go_wp2_with fail
      refine jg ?_;repeat (go_big_quiet_step ((first|(go_at_call 113;exact eY _ (C2 _))|rfl)))
      refine dh (iL fun wE eG=>?_)
      have oW:=dP (HM.out.step eG);clear p3 pz C2 eG;go_wp2;go_roundw
      case rel=>exact⟨j+1,by omega,by go_num,by rw[yT.out];exact oW.out⟩
      case measure=>simp[dG];omega
     ·have yT:aG (jy m.dR Z (j+1)=gV sj x):=by rw[aG,HN.out,if_neg hxs]
      rw[decide_eq_false hxs] at C2;clear hxs HN;go_wp2_with fail
      refine jg ?_;repeat (go_big_quiet_step ((first|(go_at_call 113;exact eY _ (C2 _))|rfl)))
      refine dh (iL fun wE eG=>?_)
      have M7:=HM.out.step eG;have y3:=p3 ⟨wE,eG⟩;have yz:=pz ⟨wE,eG⟩;simp only at y3 yz
      obtain⟨u,f,hu,hfz,how,xJ,hset⟩:=M7.KX (j:=3) (cl:=gJ sj) rfl (by omega)
      obtain rfl:=bT (hu.symm.trans y3);have hbd:=(Same.drewN wE 1).below;have hP:=NR ya yc sj x wE.drew f (dY.ig how hbd) hsf (by omega)
      have KS:∀ X,Below wE.heap.size wE X->(X.cell? ⟨B,o+3,ak⟩=au (aj ya sj.length yc)/\X.cell? ⟨sg,so+j,ak⟩=au (ah aA x)):=fun X hX=>by
       have t:∀ {x v},wE.cell? x=au v->X.cell? x=au v:=fun h=>gy hX h
       exact⟨t y3,t yz⟩
      have HS:=dP hset;clear M7 y3 yz hu hfz how xJ hset p3 pz C2 eG;go_wp2_with fail
      refine lU (S:=fun X:aI=>X.cell? ⟨B,o+3,ak⟩=au (aj ya sj.length yc)/\X.cell? ⟨sg,so+j,ak⟩=au (ah aA x)) 12 gq ((KS _ hbd)) fun hHeld=>?_
      refine fC (i:=0) rfl hHeld ?_;refine fC (i:=1) rfl hHeld ?_;refine fC (i:=2) rfl hHeld ?_;refine fC (i:=3) rfl hHeld ?_;refine fC (i:=4) rfl hHeld ?_;refine fC (i:=5) rfl hHeld ?_;refine fC (i:=6) rfl hHeld ?_;refine fC (i:=7) rfl hHeld ?_;refine fC (i:=8) rfl hHeld ?_;refine iJ (i:=9) rfl fun K hK=>?_
      go_simp
      go_at_call 106
      refine hP.mono ?_;rintro e w1 ⟨a1,e1',f1,rfl,k1',k2,k3⟩;have hb1:=eU hbd k3;obtain⟨z1,z2,M8⟩:=HS.out w1 (gJ (gV sj x)) _ f1 { m with done:=aB,dR:=gV sj x } rfl rfl (eX.of_below hb1) k1' (fun b hb=>k2 b hb)
      have oZ:=dP M8;refine hK.out _ _ (KS _ hb1) (fun eP=>?_)
      clear hK hHeld;have hHeld:=eP;try simp only[iC]
      refine fE (i:=10) rfl ?_;refine fC (i:=11) rfl hHeld ?_;refine oV rfl fun K hK=>?_
      go_simp;refine hK.out _ _ ?_;clear M8 k1' k2 k3 hP HS hHeld KS hbd hb1 hK;generalize w1.setCell ⟨B,o+3,ak⟩ (aj a1 (gV sj x).length e1')=V9 at *;clear z1 z2;go_wp2;go_roundw
      case rel=>exact⟨j+1,by omega,by go_num,by rw[yT.out];exact oZ.out⟩
      case measure=>simp[dG];omega
    ·have j1:¬ ((j:Int)<Z.length):=by omega
     have ej:j=Z.length:=by omega
     have oW:aG (Mw w wr B o { m with done:=aB,dR:=jJ m.dR ro.dU } fp g off c):=by
      rw[aG,HSg.out,<- ej];exact yJ.out _ _ M
     clear M ej;go_wp2;go_end0;rw[HZ.out];exact⟨rfl,oW.out.mk' HC2.out rfl⟩
theorem jI.wrt {w': aI} {p: Nat} {a: Option dH} {cap: Nat} (h:jI w p a len cap) (hw:eX f w w') (hp:¬ f p):jI w' p a len cap:=by
 have hlt:=h.lt;obtain⟨i,x,hi,hh⟩:=h;exact⟨i,x,hi,(hw.block p hlt hp).trans hh⟩
theorem Cc.wrt {w X X':aI} {p:Nat} {a:Option dH} {len cap:Nat} {bs:Nat->Int} {f:Fp} (h:Cc w X p a len cap bs) (hw:eX f X X') (hp:¬ f p) (hl:∀ b,f b->w.heap.size<=b):Cc w X' p a len cap bs :=
 ⟨h.cur.wrt hw hp,h.code,hw.below h.below h.below.size hl,h.off,h.hl,h.hp⟩
theorem nU {Y Y': aI} {p: Nat} (h:X.grownBy Y (au p)) (hw:eX f Y Y') (hl:∀ b,f b->X.heap.size<=b):X.grownBy Y' (au p) :=
 ⟨hw.os.trans h.os,hw.tape.trans h.tape,hw.output.trans h.output,bZ h.size hw.size,fun b hb hn=>(hw.block b (Nat.lt_of_lt_of_le hb h.size) (fun e=>by have:=hl b e;omega)).trans (h.block b hb hn)⟩
structure SD (w X Y:aI) (p:Nat) (a:Option dH) (len cap:Nat) (bs:Nat->Int) (T:TypeId) (o:Nat) (Z C:Array aJ) (cs:List dY) (vs:List aJ) (fp:Fp):Prop where
 cc:Cc w Y p a len cap bs
 res:Bx Y X.heap.size T Z
 own:Bx Y o T C
 ls:gB Y cs vs fp
 jV:∀ b,fp b->X.heap.size<b/\b≠o
 hpo:p<X.heap.size
 ho:X.heap.size<o
 gr:X.grownBy Y (au p)
section
variable {w X Y Y':aI} {p:Nat} {a:Option dH} {len cap:Nat} {bs:Nat->Int} {T:TypeId} {o:Nat} {Z C:Array aJ} {cs:List dY} {vs:List aJ} {fp:Fp}
theorem SD.lt (h:SD w X Y p a len cap bs T o Z C cs vs fp):w.heap.size<=X.heap.size:=by have:=h.cc.hp;have:=h.hpo;omega
theorem SD.drawn (h:SD w X Y p a len cap bs T o Z C cs vs fp) (hg:Y.grownBy Y' (au p)) (hc:Cc w Y' p a len cap bs):SD w X Y' p a len cap bs T o Z C cs vs fp:=by
 have h1:=h.hpo;have h2:=h.ho;exact⟨hc,h.res.grown hg (by simp;omega),h.own.grown hg (by simp;omega),iy h.ls (eX.lI hg) (fun b hb e=>by cases e;have:=(h.jV _ hb).1;omega),h.jV,h1,h2,fP h.gr hg⟩
theorem SD.step (h:SD w X Y p a len cap bs T o Z C cs vs fp) (hb:Below Y.heap.size Y Y'):SD w X Y' p a len cap bs T o Z C cs vs fp :=
 ⟨h.cc.step hb,h.res.below hb,h.own.below hb,gG h.ls hb,h.jV,h.hpo,h.ho,fP h.gr ⟨hb.os,hb.tape,hb.output,hb.size,fun x hx _=>hb.block x hx⟩⟩
theorem SD.drewN (h:SD w X Y p a len cap bs T o Z C cs vs fp) (n:Nat):SD w X (Y.drewN n) p a len cap bs T o Z C cs vs fp:=h.step (Same.drewN Y n).below
theorem SD.set (h:SD w X Y p a len cap bs T o Z C cs vs fp) (i:Nat) (v:aJ):SD w X (Y.setCell ⟨o,i,ak⟩ v) p a len cap bs T o Z (C.setIfInBounds i v) cs vs fp:=by
 have h1:=h.hpo;have h2:=h.ho;have h3:=h.lt;have hw:=eX.set Y o i v;exact⟨h.cc.wrt hw (by omega) (fun b e=>by omega),h.res.far (by omega) v,h.own.lK i v,iy h.ls hw (fun b hb e=>(h.jV b hb).2 e),h.jV,h1,h2,nU h.gr hw (fun b e=>by omega)⟩
theorem SD.new (h:SD w X Y p a len cap bs T o Z C cs vs fp) {j:Nat} {c c':dY} {u':aJ} {f':Fp} (hj:cs[j]?=au c) (hc:dY.ow Y c' u' f') (hf:∀ b,f' b->X.heap.size<b/\b≠o) (hd:∀ b,f' b->¬ fp b):∃ fp',SD w X Y p a len cap bs T o Z C (cs.set j c') (vs.set j u') fp':=by
 obtain⟨u,f,hu,ho,hs,hp⟩:=zF h.ls hj;exact⟨_,h.cc,h.res,h.own,hp Y c' u' f' (cO _) hc (fun _ _ _=>rfl) (fun b hb k=>absurd k (hd b hb)),fun b hb=>by rcases hb with hb|hb;exact hf b hb;exact h.jV b hb.1,h.hpo,h.ho,h.gr⟩
theorem SD.at (h:SD w X Y p a len cap bs T o Z C cs vs fp) {j:Nat} {c:dY} (hj:cs[j]?=au c):∃ u f,vs[j]?=au u/\dY.ow Y c u f/\(∀ b,f b->fp b) /\
  ∀ (Y':aI) (c':dY) (u':aJ) (f':Fp),eX f Y Y'->dY.ow Y' c' u' f'->(∀ b,f' b->f b\/Y.heap.size<=b)->∃ fp',SD w X Y' p a len cap bs T o Z C (cs.set j c') (vs.set j u') fp':=by
 obtain⟨u,f,hu,ho,hs,hp⟩:=zF h.ls hj;refine⟨u,f,hu,ho,hs,fun Y' c' u' f' hw hc' hf'=>?_⟩
 have h1:=h.hpo;have h2:=h.ho;have h3:=h.lt;have hl:=jd h.ls;have hol:=h.own.lt;have k:∀ b,f b->X.heap.size<b/\b≠o:=fun b hb=>h.jV b (hs b hb)
 refine⟨_,h.cc.wrt hw (fun e=>by have:=(k _ e).1;omega) (fun b e=>by have:=(k _ e).1;omega),h.res.wrt hw (fun e=>by have:=(k _ e).1;omega),h.own.wrt hw (fun e=>(k _ e).2 rfl),hp Y' c' u' f' hw.size hc' (fun b hb hn=>hw.block b (hl b hb) hn) (fun b hb hb2=>?_),fun b hb=>?_,h1,h2,nU h.gr hw (fun b e=>by have:=(k _ e).1;omega)⟩
 ·rcases hf' b hb with h5|h5
  ·exact h5
  ·have:=hl b hb2;omega
 ·rcases hb with hb|hb
  ·rcases hf' b hb with h5|h5
   ·exact k b h5
   ·exact⟨by omega,by omega⟩
  ·exact h.jV b hb.1
theorem SD.ans (h:SD w X Y p a len cap bs T o Z C cs vs fp) (hw:eX (fun b=>b=X.heap.size) Y Y'):gB Y' cs vs fp/\(∀ b,fp b->X.heap.size<=b)/\Cc w Y' p a len cap bs/\X.grownBy Y' (au p):=by
 have h1:=h.hpo;have h3:=h.lt;exact⟨iy h.ls hw (fun b hb e=>by have:=(h.jV b hb).1;omega),fun b hb=>by have:=(h.jV b hb).1;omega,h.cc.wrt hw (by omega) (fun b e=>by omega),nU h.gr hw (fun b e=>by omega)⟩
end
def WR (w w':aI) (v:aJ) (p:Nat) (a:Option dH) (len cap:Nat):Prop :=
 ∃ a' zs c G,v=aj a' (List.length zs) c/\iQ w' 1 a' (List.length zs) c (zs.map (dB aA)) G/\(∀ g,G=au g->w.heap.size<=g)/\Fits zs/\List.length zs<=16/\jI w' p a len cap/\w.grownBy w' (au p)
theorem am3 {n: Nat} {zs: List Int} (h:OI w g off n c zs) (h1:1<=zs.length):OI w g (off+1) zs.tail.length (c-1) zs.tail:=by
 have hl:zs.length=n:=by have:=h.len;simpa using this
 have hle:=h.le;refine⟨by simp,by rw[List.length_tail];omega,bZ (Nat.sub_le _ _) h.max,h.blk,fun i hi=>?_,fun i hi=>?_,fun i hi=>?_⟩
 ·rw[List.length_tail] at hi
  have:=h.cell (i+1) (by omega)
  rw[show off+1+i=off+(i+1) by omega,this]
  simp
 ·have:=h.some (i+1) (by omega)
  rw[show off+1+i=off+(i+1) by omega]
  exact this
 ·have:=h.free (i+1) (by omega)
  rw[show off+1+i=off+(i+1) by omega]
  exact this
theorem ZA (p:Nat) (a:Option dH) (len cap:Nat) (bs:Nat->Int) (N:Nat) (n:Int) (hN:n=(N:Int)) (w:aI) (hcur:jI w p a len cap) (hv:nZ w a len bs) (hp:Eh a len p) (hl:len<=4096) (hn:N<=16) :
  dF dA 107 #[aO (au ⟨p,0,ak⟩),ah aA n] w fun e w'=>∃ v,e=aK v/\WR w w' v p a len cap:=by
 subst hN;have hpl:=hcur.lt;obtain⟨i0,hi0,hz0,hz1,hz2⟩:=info_parts Tryz.info2;go_enter Tryz.func107,Tryz.ntmps107
 go_wp2
 go_loopw [1,5] (fun q v wr=>∃ (k:Nat) (zs:List Int),k<=N/\zs.length=k/\q=ah aA ((N:Int)-(k:Int))/\Small zs/\wr.ownsRow w.heap.size 2 1 v k (zs.map (dB aA))/\jI wr p a len cap/\w.grownBy wr (au p)) (fun q _ _=>(dG q).toNat)
 case atStart=>exact⟨0,[],cZ _,rfl,by simp,fun z hz=>by simp at hz,Ii w,hcur.alloc _,World.grownBy_alloc _ _ _⟩
 case round =>
  obtain⟨k,zs,hk,hzl,rfl,hsm,hown,hc,hg⟩:=hrel;have HZ:=dP hzl;have HS:=dP hsm;have HG:=dP hg;have HO:=dP hown;have O8:=hv.grown hg hp;clear hzl hsm hg hown;by_cases hlt:k<N
  ·go_wp2_with fail
   refine (oO p a len cap bs 6 _ hc O8 hp hl (by omega)).mono ?_
   rintro e w2 ⟨x,rfl,hx0,hx1,hx2,hc2,hg2⟩;have hx6:x<=6:=by have:=hx1 (by omega);omega
   have hown2:=HO.out.kept hg2 (.inr (vS HO.out hpl));have hs2:=bZ HG.out.size hg2.size;clear hx1 hx2;go_wp2_with (at_builtin;refine wpList_append_lies _ rfl _ _ _ rfl w.heap.size 2 i0 _ 1 8 bG hi0 hz0 hz1 hz2 rfl (by omega) u5 k _ rfl (hown2.alloc _) ⟨w2.heap.size,0,ak⟩ 1 1 [ah aA x] rfl rfl (World.news_of_block (cs:=#[ah aA x]) (t:=2) (fr:=(0,0)) (heap_alloc_new w2 _)) (by simp[Value.oneCell']) (by omega) (by unfold dD;omega) (by omega) (by simp;omega) (w2.heap.size+1) (by simp) ?_;intro g cap3 w3 hown3 hgrow hat hlt3)
   have R:aG (w3.ownsRow w.heap.size 2 1 (aj (au ⟨g,0,ak⟩) (k+1) cap3) (k+1) ((zs++[x]).map (dB aA))):=by
    rw[aG,List.map_append];exact hown3
   have RC:aG (jI w3 p a len cap):=(hc2.alloc _).grown hgrow (vS HO.out hpl);have RG:aG (w.grownBy w3 (au p)):=zh (fP (fP HG.out hg2) (World.grownBy_alloc _ _ _)) hgrow (fun r hr=>(HO.out.lt r hr).1)
   have RS:=dP (HS.out.snoc hx0 hx6);clear hown3 hgrow hat hlt3 hown2 hc2 hg2 hc O8 hs2;go_wp2;go_roundw
   case rel=>exact⟨k+1,zs++[x],by omega,by simp[HZ.out],by go_num,RS.out,R.out,RC.out,RG.out⟩
   case measure=>simp[dG];omega
  ·have hkN:k=N:=by omega
   subst hkN;by_cases h1:1<=k
   ·obtain⟨g,c,hu,hgB,ho⟩:=xA HO.out HZ.out.symm h1
    rw[HZ.out] at hu;subst hu;have Gn:g≠p:=by omega
    go_wp2_with fail
    refine (Df p a len cap bs 12 _ hc O8 hp hl (by omega)).mono ?_
    rintro e w2 ⟨x,rfl,hc2,hg2⟩;have ho2:=ho.grown hg2 Gn;have ZB:=HO.out.kept hg2 (.inr (vS HO.out hpl));have hv2:=O8.grown hg2 hp;have HG2:=fP HG.out hg2;have hpos:(0:Int)<k:=by omega
    clear ho O8 hc hg2
    cases x
    ·go_wp2
     go_ret
     exact⟨_,rfl,_,zs,c,au g,by rw[HZ.out];rfl,iQ.of (OI.own ho2),fun b e=>by cases e;exact hgB,HS.out.fits,by have:=HZ.out;omega,hc2,HG2⟩
    ·go_wp2_with fail
     refine (oO p a len cap bs 3 _ hc2 hv2 hp hl (by omega)).mono ?_
     rintro e w3 ⟨y,rfl,hy0,hy1,hy2,hc3,hg3⟩;have ho3:=ho2.grown hg3 Gn;have ax2:=ZB.kept hg3 (.inr (vS ZB hpl));have hv3:=hv2.grown hg3 hp;have Gp:=fP HG2 hg3;have hy3:=hy1 (by omega)
     clear ho2 hc2 hv2 hg3 HG2 hy1 hy2 ZB;rcases (by omega:y=0\/y=1\/y=2) with hy|hy|hy
     ·subst hy
      go_wp2_with fail
      have ax3:OwnAt (w3.alloc (aH #[ah aA (-1),ah aA 1000000,ah aA 1000001,ah aA 4611686018427387904] 2)) g c zs:=ho3.of_block (Below.heap_alloc _ _ _ ho3.lt);have ax4:=hv3.grown (World.grownBy_alloc w3 (aH #[ah aA (-1),ah aA 1000000,ah aA 1000001,ah aA 4611686018427387904] 2) (au p)) hp;have hp3:p<w3.heap.size:=hc3.lt;refine (oO p a len cap bs 4 _ (hc3.alloc _) ax4 hp hl (by omega)).mono ?_
      rintro e w4 ⟨z,rfl,hz0',hz1',hz2',hc4,hg4⟩;have hblk:=(hg4.block w3.heap.size (by simp) (by simp;omega)).trans (heap_alloc_new w3 _)
      have yB:=ax3.grown hg4 Gn;have Cb:=fP (fP Gp (World.grownBy_alloc w3 _ _)) hg4;have e0:w4.cell? ⟨w3.heap.size,0,ak⟩=au (ah aA (-1)):=by simp[World.cell?,hblk]
      have e1:w4.cell? ⟨w3.heap.size,1,ak⟩=au (ah aA 1000000):=by simp[World.cell?,hblk]
      have e2:w4.cell? ⟨w3.heap.size,2,ak⟩=au (ah aA 1000001):=by simp[World.cell?,hblk]
      have e3:w4.cell? ⟨w3.heap.size,3,ak⟩=au (ah aA 4611686018427387904):=by simp[World.cell?,hblk]
      have hcg:=yB.cell (i:=0) (by rw[HZ.out];omega)
      have hfg:=yB.frozen 0;have HO4:=dP yB;have HC4:=dP hc4;have HGG:=dP Cb;have hz4:=hz1' (by omega)
      clear hz1' hz2' hblk hg4 Cb yB hc4 ax3 ax4 ho3 hv3 hc3 Gp ax2
      have FIN:aG (∀ v:Int,-9223372036854775808<=v/\v<=9223372036854775807->WR w (w4.setCell ⟨g,0,ak⟩ (ah aA v)) (aj (au ⟨g,0,ak⟩) k c) p a len cap):=fun v hv =>
       ⟨_,zs.set 0 v,c,au g,by rw[bQ,HZ.out],iQ.of (OI.own (HO4.out.set 0 v)),fun b e=>by cases e;exact hgB,Ny HS.out.fits 0 hv,by rw[bQ];have:=HZ.out;omega,HC4.out.set Gn _ _,Ei HGG.out hgB _ _⟩
      rcases (by omega:z=0\/z=1\/z=2\/z=3) with hz|hz|hz|hz
      all_goals
       subst hz;go_wp2;go_ret
       exact⟨_,rfl,FIN.out _ (by omega)⟩
     ·subst hy
      have hT:=YH ho3 HS.out.fits (by rw[HZ.out];exact h1)
      rw[HZ.out] at hT;have hkc:k<=c:=by have:=ho3.1;rwa [HZ.out] at this
      have hcm:=ho3.2.1;have aN7:(k:Int)<=c:=by omega
      have hk1:(1:Int)<=k:=by omega
      have HTO:aG (iQ w3 1 (au ⟨g,1,ak⟩) zs.tail.length (c-1) (zs.tail.map (dB aA)) (au g)):=iQ.of (am3 (OI.own ho3) (by rw[HZ.out];exact h1))
      have HTF:=dP hT.2.1;have Gm:aG (Value.slice (au ⟨g,1,ak⟩) (k-1) (c-1)=aj (au ⟨g,1,ak⟩) zs.tail.length (c-1)):=by rw[aG,List.length_tail,HZ.out]
      by_cases hc1:c=1
      ·subst hc1
       have aJ3:k=1:=by omega
       subst aJ3;go_wp2;go_ret
       exact⟨_,rfl,_,[],0,ak,rfl,iQ.nil _ _ (kL _ _),fun b e=>(by cases e),fun x hx=>absurd hx List.not_mem_nil,cZ _,hc3,Gp⟩
      ·go_wp2
       go_ret
       exact⟨_,rfl,_,zs.tail,c-1,au g,Gm.out,HTO.out,fun b e=>by cases e;exact hgB,HTF.out,by rw[List.length_tail];have:=HZ.out;omega,hc3,Gp⟩
     ·subst hy
      clear ho3 hv3;go_wp2
      go_loopw [5] (fun v wr=>∃ (m g c:Nat) (ys:List Int),v=aj (au ⟨g,0,ak⟩) m c/\ys.length=m/\1<=m/\m<=16/\Small ys/\wr.ownsRow w.heap.size 2 1 v m (ys.map (dB aA))/\jI wr p a len cap/\w.grownBy wr (au p)) (fun v _=>16-lenOf v)
      case atStart=>exact⟨k,g,c,zs,rfl,HZ.out,h1,by omega,HS.out,ax2,hc3,Gp⟩
      case round =>
       obtain⟨m,g2,c2,ys,rfl,hyl,hm1,LM,hys,hown,hcc,hgg⟩:=hrel;have hvv:=hv.grown hgg hp;have HY:=dP hyl;have HYS:=dP hys;clear hyl hys;go_wp2_with fail
       refine (oO p a len cap bs 2 _ hcc hvv hp hl (by omega)).mono ?_
       rintro e w4 ⟨z,rfl,hz0',hz1',hz2',hc4,hg4⟩;have own4:=hown.kept hg4 (.inr (vS hown hpl));have Cb:=fP hgg hg4;have hz4:=hz1' (by omega)
       have hs4:=Cb.size;clear hz1' hz2' hg4 hgg hown hcc hvv;by_cases hlt2:(m:Int)<8+z
       ·go_wp2_with (at_builtin;refine wpList_append_lies _ rfl _ _ _ rfl w.heap.size 2 i0 _ 1 8 bG hi0 hz0 hz1 hz2 rfl (by omega) (aj (au ⟨g2,0,ak⟩) m c2) m _ rfl (own4.alloc _) ⟨w4.heap.size,0,ak⟩ 1 1 [ah aA 1] rfl rfl (World.news_of_block (cs:=#[ah aA 1]) (t:=2) (fr:=(0,0)) (heap_alloc_new w4 _)) (by simp[Value.oneCell']) (by omega) (by unfold dD;omega) (by omega) (by simp;omega) (w4.heap.size+1) (by simp) ?_;intro g3 cap3 w5 hown5 hgrow hat aJ4)
        have R:aG (w5.ownsRow w.heap.size 2 1 (aj (au ⟨g3,0,ak⟩) (m+1) cap3) (m+1) ((ys++[1]).map (dB aA))):=by
         rw[aG,List.map_append];exact hown5
        have RC:aG (jI w5 p a len cap):=(hc4.alloc _).grown hgrow (vS own4 hpl);have RG:aG (w.grownBy w5 (au p)):=zh (fP Cb (World.grownBy_alloc _ _ _)) hgrow (fun r hr=>(own4.lt r hr).1)
        have RS:aG (Small (ys++[1])):=HYS.out.snoc (by omega) (by omega)
        clear hown5 hgrow hat aJ4 own4 hc4 Cb;go_wp2;go_roundw
        case rel=>exact⟨m+1,g3,cap3,ys++[1],rfl,by simp[HY.out],by omega,by omega,RS.out,R.out,RC.out,RG.out⟩
        case measure=>simp[lenOf];omega
       ·go_wp2
        go_ret
        obtain⟨g5,c5,hu5,hg5,hO5⟩:=jE.uj own4 (by intro h;cases h)
        cases hu5
        exact⟨_,rfl,au ⟨g2,0,ak⟩,ys,c2,au g2,by rw[HY.out];rfl,iQ.of (by rw[HY.out];exact hO5),fun b e=>by cases e;exact hg5,HYS.out.fits,by rw[HY.out];omega,hc4,Cb⟩
   ·obtain⟨a',c,hu,EU,hac,hcm,aF4⟩:=Vq HO.out HZ.out.symm HS.out.fits
    have hz0:zs=[]:=List.eq_nil_of_length_eq_zero (by have:=HZ.out;omega)
    obtain⟨G0,jv,nT⟩:∃ G,aG (iQ wr 1 a' zs.length c (zs.map (dB aA)) G)/\aG (∀ b,G=au b->w.heap.size<=b):=by
     by_cases hn:u5=aj ak 0 0
     ·rw[hu] at hn
      cases hn
      exact⟨ak,by rw[aG,hz0];exact iQ.nil _ _ Il,fun b e=>by cases e⟩
     ·obtain⟨g5,c5,hu5,hg5,hO5⟩:=jE.uj HO.out hn
      rw[hu] at hu5
      cases hu5
      exact⟨au g5,by rw[aG,HZ.out];exact iQ.of hO5,fun b e=>by cases e;exact hg5⟩
    subst hu;have hoff:Off a' p:=fun b off e=>by have:=aF4 b off e;omega
    go_wp2_with fail
    refine (Df p a len cap bs 12 _ hc O8 hp hl (by omega)).mono ?_
    rintro e w2 ⟨x,rfl,hc2,hg2⟩;have hva:=EU.grown hg2 hoff;have HG2:=fP HG.out hg2;have HOO:aG (iQ w2 1 a' zs.length c (zs.map (dB aA)) G0):=jv.out.frame hg2.size (fun g e=>hg2.block g (jv.out.lt e) (by have:=nT.out g e;simp;omega))
    have hpos:decide ((0:Int)<k)=aC:=by simp;omega
    clear EU O8 hc hg2
    cases x
    all_goals
     go_wp2;go_ret
     exact⟨_,rfl,a',zs,c,G0,by rw[HZ.out];rfl,HOO.out,nT.out,HS.out.fits,by have:=HZ.out;omega,hc2,HG2⟩
theorem aF5 (N:Nat) (n:Int) (hN:n=(N:Int)) (hn:N<=16) {p: Nat} {a: Option dH} {cap: Nat} {bs: Nat->Int} (h:Cc w X p a len cap bs) :
  dF dA 107 #[aO (au ⟨p,0,ak⟩),ah aA n] X fun e w'=>∃ a' c zs fp,e=aK (aj a' (List.length zs) c)/\dY.ow w' (gJ zs) (aj a' (List.length zs) c) fp/\(∀ b,fp b->X.heap.size<=b)/\Fits zs/\List.length zs<=16/\Cc w w' p a len cap bs/\X.grownBy w' (au p):=by
 refine (ZA p a len cap bs N n hN X h.cur h.yO h.off h.hl hn).mono ?_;rintro e w' ⟨v,rfl,a',zs,c,G,rfl,hO,hG,hf,h16,hc,hg⟩;exact⟨a',c,zs,fun b=>G=au b,rfl,je.2 ⟨_,c,G,rfl,hO,fun b=>Iff.rfl⟩,fun b hb=>hG b hb,hf,h16,h.drawn hg hc,hg⟩
structure uH (r:Rw):Prop where
 ver:-10<=r.ver/\r.ver<=1000020
 tl:r.txt.length<=20
 ts:∀ i,i<r.txt.length->(r.txt.getD i []).length<=21
 gl:r.got.length<=16
 gf:Fits r.got
 sl:r.dQ.length<=16
 sf:Fits r.dQ
 ml:r.dU.length<=16
 mf:Fits r.dU
 mX:-1<=r.dW/\r.dW<=7
def qJ:Array aJ:=#[ah aA 0,aj ak 0 0,aj ak 0 0,aj ak 0 0,aF aC,aF aC,ah aA 0,aj ak 0 0]
def RD (w X Y:aI) (p:Nat) (a:Option dH) (len cap:Nat) (bs:Nat->Int) (o:Nat) (Zr:Array aJ) (A:Ra) (r:Rw) (fp:Fp):Prop:=SD w X Y p a len cap bs 44 o Zr (fQ A r) (jM r) (jr A r) fp
section
variable {w X Y Y':aI} {p:Nat} {a:Option dH} {len cap:Nat} {bs:Nat->Int} {o:Nat} {Zr:Array aJ} {A:Ra} {r:Rw} {fp:Fp}
theorem RD.drawn (h:RD w X Y p a len cap bs o Zr A r fp) (hg:Y.grownBy Y' (au p)) (hc:Cc w Y' p a len cap bs):RD w X Y' p a len cap bs o Zr A r fp:=SD.drawn h hg hc
theorem RD.step (h:RD w X Y p a len cap bs o Zr A r fp) (hb:Below Y.heap.size Y Y'):RD w X Y' p a len cap bs o Zr A r fp:=SD.step h hb
theorem RD.drewN (h:RD w X Y p a len cap bs o Zr A r fp) (n:Nat):RD w X (Y.drewN n) p a len cap bs o Zr A r fp:=SD.drewN h n
theorem RD.c8 (h:RD w X Y p a len cap bs o Zr A r fp):(Y.cell? ⟨o,0,ak⟩=au (ah aA r.ver)/\Y.cell? ⟨o,1,ak⟩=au (aj A.ta r.txt.length A.tc)/\Y.cell? ⟨o,2,ak⟩=au (aj A.ga r.got.length A.gc)/\Y.cell? ⟨o,3,ak⟩=au (aj A.sa r.dQ.length A.sc))/\Y.cell? ⟨o,4,ak⟩=au (aF r.wed)/\Y.cell? ⟨o,5,ak⟩=au (aF r.dV)/\Y.cell? ⟨o,6,ak⟩=au (ah aA r.dW)/\Y.cell? ⟨o,7,ak⟩=au (aj A.ma r.dU.length A.mc):=Bx.r8 h.own
theorem RD.ver (h:RD w X Y p a len cap bs o Zr A r fp) (x:Int):RD w X (Y.setCell ⟨o,0,ak⟩ (ah aA x)) p a len cap bs o Zr A { r with ver:=x } fp:=SD.set h 0 (ah aA x)
theorem RD.wed (h:RD w X Y p a len cap bs o Zr A r fp) (x:Bool):RD w X (Y.setCell ⟨o,4,ak⟩ (aF x)) p a len cap bs o Zr A { r with wed:=x } fp:=SD.set h 4 (aF x)
theorem RD.dV (h:RD w X Y p a len cap bs o Zr A r fp) (x:Bool):RD w X (Y.setCell ⟨o,5,ak⟩ (aF x)) p a len cap bs o Zr A { r with dV:=x } fp:=SD.set h 5 (aF x)
theorem RD.dW (h:RD w X Y p a len cap bs o Zr A r fp) (x:Int):RD w X (Y.setCell ⟨o,6,ak⟩ (ah aA x)) p a len cap bs o Zr A { r with dW:=x } fp:=SD.set h 6 (ah aA x)
theorem RD.got (h:RD w X Y p a len cap bs o Zr A r fp) {a':Option dH} {c':Nat} {Z:List Int} {f':Fp} (hc:dY.ow Y (gJ Z) (aj a' Z.length c') f') (hf:∀ b,f' b->X.heap.size<b/\b≠o) (hd:∀ b,f' b->¬ fp b):∃ fp',RD w X (Y.setCell ⟨o,2,ak⟩ (aj a' Z.length c')) p a len cap bs o Zr { A with ga:=a',gc:=c' } { r with got:=Z } fp':=by
 obtain⟨fp',h1⟩:=SD.new h (j:=1) rfl hc hf hd;exact⟨fp',SD.set h1 2 (aj a' Z.length c')⟩
theorem RD.dQ (h:RD w X Y p a len cap bs o Zr A r fp) {a':Option dH} {c':Nat} {Z:List Int} {f':Fp} (hc:dY.ow Y (gJ Z) (aj a' Z.length c') f') (hf:∀ b,f' b->X.heap.size<b/\b≠o) (hd:∀ b,f' b->¬ fp b):∃ fp',RD w X (Y.setCell ⟨o,3,ak⟩ (aj a' Z.length c')) p a len cap bs o Zr { A with sa:=a',sc:=c' } { r with dQ:=Z } fp':=by
 obtain⟨fp',h1⟩:=SD.new h (j:=2) rfl hc hf hd;exact⟨fp',SD.set h1 3 (aj a' Z.length c')⟩
theorem RD.dU (h:RD w X Y p a len cap bs o Zr A r fp) {a':Option dH} {c':Nat} {Z:List Int} {f':Fp} (hc:dY.ow Y (gJ Z) (aj a' Z.length c') f') (hf:∀ b,f' b->X.heap.size<b/\b≠o) (hd:∀ b,f' b->¬ fp b):∃ fp',RD w X (Y.setCell ⟨o,7,ak⟩ (aj a' Z.length c')) p a len cap bs o Zr { A with ma:=a',mc:=c' } { r with dU:=Z } fp':=by
 obtain⟨fp',h1⟩:=SD.new h (j:=3) rfl hc hf hd;exact⟨fp',SD.set h1 7 (aj a' Z.length c')⟩
theorem RD.txt (h:RD w X Y p a len cap bs o Zr A r fp) {a':Option dH} {c':Nat} {Z:List (List UInt8)} {f':Fp} (hc:dY.ow Y (pO Z) (aj a' Z.length c') f') (hf:∀ b,f' b->X.heap.size<b/\b≠o) (hd:∀ b,f' b->¬ fp b):∃ fp',RD w X (Y.setCell ⟨o,1,ak⟩ (aj a' Z.length c')) p a len cap bs o Zr { A with ta:=a',tc:=c' } { r with txt:=Z } fp':=by
 obtain⟨fp',h1⟩:=SD.new h (j:=0) rfl hc hf hd;exact⟨fp',SD.set h1 1 (aj a' Z.length c')⟩
theorem RD.owI (h:RD w X Y p a len cap bs o Zr A r fp):∃ f1 f2 f3 f4,dY.ow Y (pO r.txt) (aj A.ta r.txt.length A.tc) f1/\dY.ow Y (gJ r.got) (aj A.ga r.got.length A.gc) f2/\dY.ow Y (gJ r.dQ) (aj A.sa r.dQ.length A.sc) f3/\dY.ow Y (gJ r.dU) (aj A.ma r.dU.length A.mc) f4:=by
 obtain⟨u1,vW,f1,g1,e1,o1,h2,_⟩:=h.ls
 cases e1
 obtain⟨u2,wY,f2,g2,e2,o2,h3,_⟩:=h2
 cases e2
 obtain⟨u3,Es,f3,g3,e3,o3,h4,_⟩:=h3
 cases e3
 obtain⟨u4,NU,f4,g4,e4,o4,h5,_⟩:=h4
 cases e4
 exact⟨f1,f2,f3,f4,o1,o2,o3,o4⟩
theorem RD.ai6 (h:RD w X Y p a len cap bs o Zr A r fp) {i:Nat} (hi:i<r.got.length):∃ g off,A.ga=au ⟨g,off,ak⟩/\(Y.cell? ⟨g,off+i,ak⟩=au (ah aA (el r.got i))/\Y.frozen? ⟨g,off+i,ak⟩=aC) /\
  ∀ x:Int,∃ fp',RD w X (Y.setCell ⟨g,off+i,ak⟩ (ah aA x)) p a len cap bs o Zr A { r with got:=r.got.set i x } fp':=by
 obtain⟨u,f,hu,hc,hs,hp⟩:=SD.at h (j:=1) rfl
 cases hu
 obtain⟨a',c',G,e,ho,hf⟩:=je.1 hc
 cases e
 rcases ho.oi with ⟨e,_,_⟩|⟨g,off,e1,ho',e2⟩
 ·rw[e] at hi;exact absurd hi (Nat.not_lt_zero _)
 ·have hle:=ho'.le
  refine⟨g,off,e1,⟨?_,ho'.free i (by omega)⟩,fun x=>?_⟩
  ·have:=ho'.cell i (by omega)
   rw[this];simp[el,hi]
  ·subst e2
   have hset:=ak2 ho' hi x;have:=hp (Y.setCell ⟨g,off+i,ak⟩ (ah aA x)) (gJ (r.got.set i x)) (aj A.ga (r.got.set i x).length A.gc) f ((eX.set Y g (off+i) _).mono (fun b _ e=>(hf b).2 (by rw[e]))) (je.2 ⟨_,_,au g,rfl,by rw[bQ,e1];exact iQ.of hset,hf⟩) (fun b hb=>.inl hb)
   obtain⟨fp',h1⟩:=this;refine⟨fp', ?_⟩;have e3:fQ A { r with got:=r.got.set i x }=fQ A r:=by simp[fQ]
   unfold RD;rw[e3];exact h1
theorem RD.app (h:RD w X Y p a len cap bs o Zr A r fp) (i0:TypeInfo) (hi0:Tryz.prog.info? 9=au i0) (hz0:i0.zero=au (.string ⟨#[]⟩)) (hz1:i0.size=1) (hz2:i0.bytes=16) (s:List UInt8) (hl:r.txt.length<=1000) :
  ∀ Z,Same Z (Y.alloc (aH #[aN (sv s)] 9))->∃ v' w4,(bU #[42,42] 42 #[aj A.ta r.txt.length A.tc,aj (au ⟨Y.heap.size,0,ak⟩) 1 1]).run dA Z=.ok v' w4 /\
   ∃ a' c',v'=aj a' (r.txt.length+1) c'/\w4.cell? ⟨o,1,ak⟩=au (aj A.ta r.txt.length A.tc)/\w4.frozen? ⟨o,1,ak⟩=aC/\∃ fp',RD w X (w4.setCell ⟨o,1,ak⟩ (aj a' (r.txt.length+1) c')) p a len cap bs o Zr { A with ta:=a',tc:=c' } { r with txt:=r.txt++[s] } fp':=by
 intro Z hZ;have mW:=(dX Y _).trans (hZ.below.mono (dX Y _).size);have hD:=h.step mW;obtain⟨u,f,hu,hc,hs,hp⟩:=SD.at hD (j:=0) rfl
 cases hu
 obtain⟨ta',tc',G,e,ho,hf⟩:=uN.1 hc
 cases e
 have hnew:Z.heap[Y.heap.size]?=au (aH #[aN (sv s)] 9):=by rw[hZ.heap];exact heap_alloc_new Y _
 obtain⟨a',c',G',w4,hr,ho',hg,hat⟩:=ny (P:=dA) Z 42 42 9 i0 _ 1 16 Tryz.underlying42 hi0 hz0 hz1 hz2 rfl (by omega) A.ta r.txt.length A.tc (sD r.txt) G ho (au ⟨Y.heap.size,0,ak⟩) 1 1 [aN (sv s)] rfl (.inr ⟨_,rfl,World.news_of_block (cs:=#[aN (sv s)]) (t:=9) (fr:=(0,0)) hnew⟩) (by simp[Value.oneCell']) (by unfold dD;omega) (by omega)
 have hw4:eX f Z w4:=(eX.lI hg).mono (fun b _ e=>(hf b).2 e)
 have hno:¬ f o:=fun e=>(hD.jV o (hs o e)).2 rfl
 have k0:=hD.own.wrt hw4 hno;have ax5:(r.txt++[s]).length=r.txt.length+1:=by simp
 obtain ⟨fp',h1⟩ := hp w4 (pO (r.txt ++ [s])) (aj a' (r.txt.length + 1) c') (fun b => G' = au b) hw4 (uN.2 ⟨a',c',G',by rw [ax5],by rw [ak3,ax5];exact ho',fun b => Iff.rfl⟩) (fun b hb => by
  rcases hat with e|e
  ·exact .inl ((hf b).2 (e ▸ hb))
  ·rw[e] at hb;cases hb;exact .inr (cO _))
 refine⟨_,w4,hr,a',c',rfl,k0.at 1 rfl,k0.f 1,fp', ?_⟩;have h2:=SD.set h1 1 (aj a' (r.txt.length+1) c');unfold RD;have e1:fQ { A with ta:=a',tc:=c' } { r with txt:=r.txt++[s] }=(fQ A r).setIfInBounds 1 (aj a' (r.txt.length+1) c'):=by simp[fQ]
 have e2:jr { A with ta:=a',tc:=c' } { r with txt:=r.txt++[s] }=(jr A r).set 0 (aj a' (r.txt.length+1) c'):=by simp[jr]
 rw[e1,e2];exact h2
theorem RD.ans (h:RD w X Y p a len cap bs o Zr A r fp) {x0 x1 x2 x3 x4 x5 x6 x7:aJ}:gB ((((((((Y.setCell ⟨X.heap.size,0,ak⟩ x0).setCell ⟨X.heap.size,1,ak⟩ x1).setCell ⟨X.heap.size,2,ak⟩ x2).setCell ⟨X.heap.size,3,ak⟩ x3).setCell ⟨X.heap.size,4,ak⟩ x4).setCell ⟨X.heap.size,5,ak⟩ x5).setCell ⟨X.heap.size,6,ak⟩ x6).setCell ⟨X.heap.size,7,ak⟩ x7) (jM r) (jr A r) fp/\(∀ b,fp b->X.heap.size<=b)/\Cc w ((((((((Y.setCell ⟨X.heap.size,0,ak⟩ x0).setCell ⟨X.heap.size,1,ak⟩ x1).setCell ⟨X.heap.size,2,ak⟩ x2).setCell ⟨X.heap.size,3,ak⟩ x3).setCell ⟨X.heap.size,4,ak⟩ x4).setCell ⟨X.heap.size,5,ak⟩ x5).setCell ⟨X.heap.size,6,ak⟩ x6).setCell ⟨X.heap.size,7,ak⟩ x7) p a len cap bs/\X.grownBy ((((((((Y.setCell ⟨X.heap.size,0,ak⟩ x0).setCell ⟨X.heap.size,1,ak⟩ x1).setCell ⟨X.heap.size,2,ak⟩ x2).setCell ⟨X.heap.size,3,ak⟩ x3).setCell ⟨X.heap.size,4,ak⟩ x4).setCell ⟨X.heap.size,5,ak⟩ x5).setCell ⟨X.heap.size,6,ak⟩ x6).setCell ⟨X.heap.size,7,ak⟩ x7) (au p):=SD.ans h (JK Y X.heap.size)
theorem RD.r8 (h:RD w X Y p a len cap bs o qJ A r fp):(Y.cell? ⟨X.heap.size,0,ak⟩=au (ah aA 0)/\Y.cell? ⟨X.heap.size,1,ak⟩=au (aj ak 0 0)/\Y.cell? ⟨X.heap.size,2,ak⟩=au (aj ak 0 0)/\Y.cell? ⟨X.heap.size,3,ak⟩=au (aj ak 0 0))/\Y.cell? ⟨X.heap.size,4,ak⟩=au (aF aC)/\Y.cell? ⟨X.heap.size,5,ak⟩=au (aF aC)/\Y.cell? ⟨X.heap.size,6,ak⟩=au (ah aA 0)/\Y.cell? ⟨X.heap.size,7,ak⟩=au (aj ak 0 0):=Bx.r8 h.res
theorem RD.f8 (h:RD w X Y p a len cap bs o Zr A r fp):(Y.frozen? ⟨X.heap.size,0,ak⟩=aC/\Y.frozen? ⟨X.heap.size,1,ak⟩=aC/\Y.frozen? ⟨X.heap.size,2,ak⟩=aC/\Y.frozen? ⟨X.heap.size,3,ak⟩=aC)/\Y.frozen? ⟨X.heap.size,4,ak⟩=aC/\Y.frozen? ⟨X.heap.size,5,ak⟩=aC/\Y.frozen? ⟨X.heap.size,6,ak⟩=aC/\Y.frozen? ⟨X.heap.size,7,ak⟩=aC:=Bx.f8 h.res
theorem RD.fo (h:RD w X Y p a len cap bs o Zr A r fp) (i:Nat):Y.frozen? ⟨o,i,ak⟩=aC:=h.own.f i
end
theorem RD.aF6 {Y: aI} {p: Nat} {a: Option dH} {cap: Nat} {bs: Nat->Int} {o: Nat} {r: Rw} {fp: Fp} (h:RD w X Y p a len cap bs o Zr A r fp) (hf:Fits r.got) (hl:r.got.length<=1000) (i0:TypeInfo) (hi0:Tryz.prog.info? 2=au i0) (hz0:i0.zero=au (ah aA 0)) (hz1:i0.size=1) (hz2:i0.bytes=8) :
  ∀ Z,Same Z (Y.alloc (aH #[] 2))->∃ v' w4,(bU #[41,41] 41 #[aj (au ⟨Y.heap.size,0,ak⟩) 0 0,aj A.ga r.got.length A.gc]).run dA Z=.ok v' w4 /\
   ∃ a' c',v'=aj a' r.got.length c'/\w4.cell? ⟨o,7,ak⟩=au (aj A.ma r.dU.length A.mc)/\w4.frozen? ⟨o,7,ak⟩=aC/\∃ fp',RD w X (w4.setCell ⟨o,7,ak⟩ (aj a' r.got.length c')) p a len cap bs o Zr { A with ma:=a',mc:=c' } { r with dU:=r.got } fp':=by
 intro Z hZ;have mW:=(dX Y _).trans (hZ.below.mono (dX Y _).size);have hD:=h.step mW;obtain⟨_,f2,_,_,_,ho2,_,_⟩:=hD.owI;obtain⟨a6,c6,w6,KW,IL,IQ,hw6,DU⟩:=xU (P:=dA) (w:=Z) 41 41 2 i0 bG hi0 hz0 hz1 hz2 (kL Y.heap.size 0) (x:=A.ga) (c:=A.gc) (sO ho2 hf).vec (by omega)
 have hb6:Below Z.heap.size Z w6:=hw6.below (dw _ _) (cO _) (fun b h=>absurd h id)
 have hE:=hD.step hb6;have hol:=hD.own.lt;have hXo:=h.ho;obtain⟨fp',h2⟩:=RD.dU hE (a':=a6) (c':=c6) (Z:=r.got) IQ (fun b hb=>by have:=DU b hb;omega) (fun b hb hfp=>by have:=DU b hb;have:=jd hD.ls b hfp;omega)
 exact⟨_,w6,IL,a6,c6,rfl,hE.c8.2.2.2.2,hE.fo 7,fp',h2⟩
theorem RD.aJ5 {Y: aI} {p: Nat} {a: Option dH} {cap: Nat} {bs: Nat->Int} {o: Nat} {r: Rw} {fp: Fp} (h:RD w X Y p a len cap bs o Zr A r fp) (hf:Fits r.dQ) (hl:r.dQ.length<=100) (n:Int) :
  dF dA 106 #[aj A.sa r.dQ.length A.sc,ah aA n] Y fun e w'=>∃ a' c',e=aK (aj a' (gV r.dQ n).length c')/\Below Y.heap.size Y w'/\∃ fp',RD w X (w'.setCell ⟨o,3,ak⟩ (aj a' (gV r.dQ n).length c')) p a len cap bs o Zr { A with sa:=a',sc:=c' } { r with dQ:=gV r.dQ n } fp':=by
 obtain⟨_,_,f3,_,_,_,ho3,_⟩:=h.owI;have hv:=sO ho3 hf;refine (NP A.sa A.sc r.dQ n Y hv.vec hv.nn hv.le hv.mx (by omega) hv.pl).mono ?_
 rintro e w' (⟨rfl,h1,rfl⟩|hA)
 ·refine⟨A.sa,A.sc,by rw[h1],dw _ _,fp, ?_⟩
  have h2:=SD.set h 3 (aj A.sa r.dQ.length A.sc);have e1:(fQ A r).setIfInBounds 3 (aj A.sa r.dQ.length A.sc)=fQ A r:=by simp[fQ]
  rw[e1] at h2;rw[h1];exact h2
 ·obtain⟨g,off,c,rfl,hg,ho,hb⟩:=hA
  have hD:=h.step hb;have hol:=h.own.lt;have hXo:=h.ho;obtain⟨fp',h2⟩:=RD.dQ hD (a':=au ⟨g,off,ak⟩) (c':=c) (Z:=gV r.dQ n) (f':=fun b=>b=g) (je.2 ⟨_,c,au g,rfl,iQ.of ho,fun b=>by simp[eq_comm]⟩) (fun b hb=>by omega) (fun b hb hfp=>by have:=jd h.ls b hfp;omega)
  exact⟨_,c,rfl,hb,fp',h2⟩
end Go.Proofs.YtafimeakbdmkjaaGreat