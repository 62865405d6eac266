/-
  Texts in one.
-/
import Derived.Test.YtafimeakbdmkjaaGreatWae
import Derived.Test.YtafimeakbdmkjaaGreatWab
import Derived.Test.YtafimeakbdmkjaaGreatWaa
import Derived.Test.YtafimeakbdmkjaaGreatWac
import Derived.Deep.CutRange
import Derived.Deep.Cut
import Derived.Deep.RegionHeld3
namespace Go.Proofs.YtafimeakbdmkjaaGreat
open Bool renaming false->aC,true->aB
open Go renaming Addr->ba5,Calls->ba3,Value->aJ,World->aI,maxLen->ba2,wpQuiet_nil->aZ2
open Go.Builtin renaming append_->aV5
open Go.Ending renaming returned->aK
open Go.IntKind renaming i64->aA
open Go.Obj renaming cells->aH
open Go.Proofs.Tryz renaming prog->aZ8,underlying22->aT8,underlying41->dK
open Go.RowKit renaming Hid->aG,intOf->ba4
open Go.RowKit.Below renaming refl->aZ5
open Go.Value renaming bool->aF,int->aZ9,int->ah,oneCell'->aX4,pointer->aO,slice->aj,string->aN
open Go.World renaming cell?_setCell_other->bg,size_alloc->aU1
open List renaming getD_eq_getElem?_getD->aV,length_append->dB,length_replicate->bM,length_set->aV3,map_append->aV9,mem_range->aX1,not_mem_nil->aU9,range->aZ6,replicate->aW5,replicate_succ->dw,take_of_length_le->bJ,take_succ_eq_append_getElem->aS
open Nat renaming le_refl->aZ0,le_trans->aY2,lt_or_ge->aY6,zero_le->aZ1
open Option renaming none->ak,some->au
open Option.some renaming inj->aV4
set_option linter.unusedVariables false
set_option linter.unusedSimpArgs false
open Go.RowKit Go.Sort
set_option maxRecDepth 100000
set_option maxHeartbeats 12800000
variable {R:List Rw} {B f g i id j k len off:Nat} {L:List Nat} {Z s:List Int} {X w:aI} {A:Ra} {Zr:Array aJ}
theorem Md {cs:List Int} {M:Nat} (h:∀ i,i<cs.length->el cs i<=(M:Int)):∀ d,iC cs (M+d)=iC cs M
 | 0=>rfl
 | d+1=>by
  rw[<- Nat.add_assoc,qX,Md h d]
  have:kL cs (M+d) cs.length=[]:=by
   unfold kL
   have:(aZ6 cs.length).filter (fun i=>decide (((M+d:Nat):Int)<el cs i))=[]:=by
    rw[List.filter_eq_nil_iff];intro i hi;have:=h i (aX1.1 hi);simp
    omega
   rw[this]
   rfl
  rw[this,List.append_nil]
theorem Py {cs:List Int} (h1:∀ i,i<cs.length->0<=el cs i/\el cs i<=12):∀ k,k<=cs.length->rZ cs k<=12
 | 0,_=>by simp[rZ,hiL]
 | k+1,hk=>by
  rw[Ik (by omega)]
  have:=Py h1 k (by omega)
  have:=(h1 k (by omega)).2
  omega
theorem ap2 {cs: List Int} (h1:∀ i,i<cs.length->0<=el cs i/\el cs i<=12):iC cs (rZ cs cs.length).toNat=iC cs 12:=by
 have hb:=Xr (fun i hi=>⟨(h1 i hi).1,by have:=(h1 i hi).2;omega⟩) cs.length (aZ0 _)
 have hm:=Py h1 cs.length (aZ0 _);have:=Md (cs:=cs) (M:=(rZ cs cs.length).toNat) (fun i hi=>by have:=hb.2.2 i hi;omega) (12-(rZ cs cs.length).toNat)
 rw[show (rZ cs cs.length).toNat+(12-(rZ cs cs.length).toNat)=12 by omega] at this
 exact this.symm
theorem Xt {o: Rw} (hk:k<L.length):ends R id o (L.take (k+1))=(ends R id o (L.take k)&&((dO R (L.getD k 0)).dV&&(decide ((dO R (L.getD k 0)).dW=o.dW)&&(decide ((dO R (L.getD k 0)).dU=o.dU)&&decide ((id:Int)∉(dO R (L.getD k 0)).dQ))))):=by
 have e:L.getD k 0=L[k]:=by simp[List.getD,hk]
 unfold ends;rw[aS hk,List.all_append,e];simp
theorem ap3 {o: Rw} (hk:k<L.length) (h:((dO R (L.getD k 0)).dV&&(decide ((dO R (L.getD k 0)).dW=o.dW)&&(decide ((dO R (L.getD k 0)).dU=o.dU)&&decide ((id:Int)∉(dO R (L.getD k 0)).dQ))))=aC):ends R id o L=aC:=by
 rw[ends,List.all_eq_false];exact⟨L.getD k 0,mW hk,by simp only[h];decide⟩
def jF (s Z:List Int) (j:Nat):List Int:=(Z.take j).foldl (fun s q=>if q∈s then s else gY s q) s
theorem zI (hj:j<Z.length):jF s Z (j+1)=if el Z j∈jF s Z j then jF s Z j else gY (jF s Z j) (el Z j):=by
 have e:el Z j=Z[j]:=by simp[el,hj]
 unfold jF;rw[aS hj,List.foldl_append,e]
 rfl
theorem Me:jF s Z Z.length=Z.foldl (fun s q=>if q∈s then s else gY s q) s:=by rw[jF,List.take_length]
theorem BA {s Z:List Int}:∀ j,(jF s Z j).length<=s.length+j
 | 0=>by simp[jF]
 | j+1=>by
  rcases aY6 j Z.length with h|h
  ·rw[zI h]
   have:=BA (s:=s) (Z:=Z) j
   split
   ·omega
   ·have:=Zw (jF s Z j) (el Z j);omega
  ·have e:jF s Z (j+1)=jF s Z j:=by unfold jF;rw[bJ (by omega),bJ h]
   rw[e];have:=BA (s:=s) (Z:=Z) j;omega
theorem zJ {s Z:List Int} (h1:Fits s) (h2:Fits Z):∀ j,Fits (jF s Z j)
 | 0=>h1
 | j+1=>by
  rcases aY6 j Z.length with h|h
  ·rw[zI h]
   have ih:=zJ h1 h2 j
   split
   ·exact ih
   ·intro x hx
    rcases nV.1 hx with k|k
    ·rw[k];exact h2 _ (kM h)
    ·exact ih x k
  ·have e:jF s Z (j+1)=jF s Z j:=by unfold jF;rw[bJ (by omega),bJ h]
   rw[e];exact zJ h1 h2 j
def Ju (m:Mb) (i:Nat) (L:List Nat):Mb:=if ends m.rows i (dO m.rows i) L=aB then { m with done:=aB,dR:=jO m.dR (dO m.rows i).dU } else m
theorem Mw.aN4 {o: Nat} {m: Mb} {fp: Fp} {c: Nat} (h:Mw w X B o m fp g off c) (hk:k<m.rows.length) (LX:RV X g (off+k*8) A (dO m.rows k)):tZ X A.ma (dO m.rows k).dU B:=by
 obtain⟨gI,hp,hf1,hgo⟩:=h.iw.next;obtain⟨g',off',c',f,h1,hgB,hfg,hfs,⟨vs,hpc,hov,Ae⟩,hput⟩:=hp.el (F:=jr) jW (by omega) (j:=2) (L:=m.rows) rfl (iZ hk)
 have e:=aV4 (h1.symm.trans h.rws)
 cases e
 have hv:=E8.vals (A:=A) ⟨hpc,hov,Ae⟩ LX;obtain⟨A',e',hl⟩:=wQ hov;rw[hv] at e';obtain rfl:=Sz e';have hnB:¬ f B:=fun k=>hp.nB (hfs B k)
 obtain⟨u1,vU,f1,g1,e1,o1,h2,d1,i1⟩:=hl
 cases e1
 obtain⟨u2,xu,f2,g2,e2,o2,h3,d2,i2⟩:=h2
 cases e2
 obtain⟨u3,EJ,f3,g3,e3,o3,h4,d3,i3⟩:=h3
 cases e3
 obtain⟨u4,Oq,f4,g4,e4,o4,h5,d4,i4⟩:=h4
 cases e4
 exact⟨LX.2.dU,U3 o4 (fun k=>hnB ((i1 B).2 (.inr ((i2 B).2 (.inr ((i3 B).2 (.inr ((i4 B).2 (.inl k)))))))))⟩
theorem Xu (B o:Nat) (m:Mb) (i n:Nat) (L:List Nat) (la:Option ba5) (lc:Nat) (fl fp:Fp) (w:aI) (h:iO w B o (kC m) fp) (ok:iP m i n) (hrd:(dO m.rows i).dV=aB) (hl:eF.ow w (gQ (lN L)) (aj la L.length lc) fl) (hL:∀ k∈L,k<n) (hLn:L.length<=n) :
  ba3 aZ8 121 #[aO (au ⟨B,o,ak⟩),aj la L.length lc] w fun e w'=>e=aK (.tuple #[])/\Mk w w' B o (Ju m i L) fp:=by
 have fU:=iq;have hil:i<m.rows.length:=by rw[ok.len];exact ok.lt
 obtain⟨g,off,c,M0⟩:=Mw.start h (by omega)
 obtain⟨c0,c1,c4⟩:=M0.id';have oq:=M0.rws;rw[ok.hid] at c0;have i0:(0:Int)<=i:=by omega
 have i1:(i:Int)<m.rows.length:=by omega
 have HC2:=dP M0.rws;have kU:=dP M0;have hr:=ok.ok i ok.lt;have jy:=hr.n5;have GN:aG (∀ X,Below w.heap.size w X->Vec X la (lN L).length (lN L)):=fun X hX=>mV (by rw[jq];exact eF.gK hl hX) (xP hL (by omega))
 have HL:=dP hL;obtain⟨Ao,aB9,_,_⟩:=M0.Po ok.fit hil;have aC0:=dP aB9;obtain⟨⟨⟨d0,d1,d2,d3⟩,d4,d5,d6,d7⟩,U5⟩:=aB9;have aN5:=dP h.lt;generalize hro:dO m.rows i=ro at *;have HRO:=dP hro;have HRD:=dP hrd;clear hro hrd
 have KS:∀ X,Below w.heap.size w X->(X.cell? ⟨B,o+2,ak⟩=au (aj (au ⟨g,off,ak⟩) m.rows.length c)/\X.cell? ⟨B,o,ak⟩=au (ah aA (i:Int))/\X.cell? ⟨g,off+i*8,ak⟩=au (ah aA ro.ver)/\X.cell? ⟨g,off+i*8+1,ak⟩=au (aj Ao.ta ro.txt.length Ao.tc)/\X.cell? ⟨g,off+i*8+2,ak⟩=au (aj Ao.ga ro.got.length Ao.gc)/\X.cell? ⟨g,off+i*8+3,ak⟩=au (aj Ao.sa ro.dQ.length Ao.sc)/\X.cell? ⟨g,off+i*8+4,ak⟩=au (aF ro.wed)/\X.cell? ⟨g,off+i*8+5,ak⟩=au (aF ro.dV)/\X.cell? ⟨g,off+i*8+6,ak⟩=au (ah aA ro.dW)/\X.cell? ⟨g,off+i*8+7,ak⟩=au (aj Ao.ma ro.dU.length Ao.mc)):=fun X hX=>by
  have t:∀ {x v},w.cell? x=au v->X.cell? x=au v:=fun h=>fM hX h
  exact⟨t oq,t c0,t d0,t d1,t d2,t d3,t d4,t d5,t d6,t d7⟩
 have hbd:=(Same.drewN w 1).below;clear c0 c1 c4 oq M0 h hl hL U5 d0 d1 d2 d3 d4 d5 d6 d7;go_enter Tryz.func121,Tryz.ntmps121
 go_wp2_with fail
 refine lG (S:=fun X:aI=>X.cell? ⟨B,o+2,ak⟩=au (aj (au ⟨g,off,ak⟩) m.rows.length c)/\X.cell? ⟨B,o,ak⟩=au (ah aA (i:Int))/\X.cell? ⟨g,off+i*8,ak⟩=au (ah aA ro.ver)/\X.cell? ⟨g,off+i*8+1,ak⟩=au (aj Ao.ta ro.txt.length Ao.tc)/\X.cell? ⟨g,off+i*8+2,ak⟩=au (aj Ao.ga ro.got.length Ao.gc)/\X.cell? ⟨g,off+i*8+3,ak⟩=au (aj Ao.sa ro.dQ.length Ao.sc)/\X.cell? ⟨g,off+i*8+4,ak⟩=au (aF ro.wed)/\X.cell? ⟨g,off+i*8+5,ak⟩=au (aF ro.dV)/\X.cell? ⟨g,off+i*8+6,ak⟩=au (ah aA ro.dW)/\X.cell? ⟨g,off+i*8+7,ak⟩=au (aj Ao.ma ro.dU.length Ao.mc)) 11 fU ((KS _ hbd)) fun hHeld=>?_
 refine fC (i:=0) rfl hHeld ?_;refine fC (i:=1) rfl hHeld ?_;refine fC (i:=2) rfl hHeld ?_;refine fC (i:=3) rfl hHeld ?_;refine fC (i:=4) rfl hHeld ?_;refine fC (i:=5) rfl hHeld ?_;refine fC (i:=6) rfl hHeld ?_;refine fC (i:=7) rfl hHeld ?_;refine fC (i:=8) rfl hHeld ?_;refine fC (i:=9) rfl hHeld ?_;refine iy (i:=10) rfl fun K hK=>?_
 go_simp;have hb2:Below w.heap.size w (w.drew.alloc (aH #[ah aA 0,aj ak 0 0,aj ak 0 0,aj ak 0 0,aF aC,aF aC,ah aA 0,aj ak 0 0] 44)):=hbd.trans ((dX w.drew _).mono hbd.size);refine hK.out _ _ (KS _ hb2) (fun eG=>?_)
 clear hK hHeld;have hHeld:=eG;try simp only[gW]
 refine oH rfl fun K hK=>?_
 go_simp;refine hK.out _ _ ?_;have hb5:Below w.heap.size w (w.alloc (aH #[ah aA ro.ver,aj Ao.ta ro.txt.length Ao.tc,aj Ao.ga ro.got.length Ao.gc,aj Ao.sa ro.dQ.length Ao.sc,aF ro.wed,aF ro.dV,ah aA ro.dW,aj Ao.ma ro.dU.length Ao.mc] 44)).drew:=(dX w _).trans ((Same.drewN _ 1).below.mono (dX w _).size);have hx5:Bx (w.alloc (aH #[ah aA ro.ver,aj Ao.ta ro.txt.length Ao.tc,aj Ao.ga ro.got.length Ao.gc,aj Ao.sa ro.dQ.length Ao.sc,aF ro.wed,aF ro.dV,ah aA ro.dW,aj Ao.ma ro.dU.length Ao.mc] 44)).drew w.heap.size 44 #[ah aA ro.ver,aj Ao.ta ro.txt.length Ao.tc,aj Ao.ga ro.got.length Ao.gc,aj Ao.sa ro.dQ.length Ao.sc,aF ro.wed,aF ro.dV,ah aA ro.dW,aj Ao.ma ro.dU.length Ao.mc]:=Bx.new w _ _;generalize (w.alloc (aH #[ah aA ro.ver,aj Ao.ta ro.txt.length Ao.tc,aj Ao.ga ro.got.length Ao.gc,aj Ao.sa ro.dQ.length Ao.sc,aF ro.wed,aF ro.dV,ah aA ro.dW,aj Ao.ma ro.dU.length Ao.mc] 44)).drew=W1 at *;clear hHeld KS hbd hb2 hK;have HXo:aG (Bx W1 w.heap.size 44 #[ah aA ro.ver,aj Ao.ta ro.txt.length Ao.tc,aj Ao.ga ro.got.length Ao.gc,aj Ao.sa ro.dQ.length Ao.sc,aF ro.wed,aF ro.dV,ah aA ro.dW,aj Ao.ma ro.dU.length Ao.mc]):=hx5;have fZ:aG (Mw w W1 B o m fp g off c):=kU.out.step hb5;have HB1:aG (Below w.heap.size w W1):=hb5;clear hx5 hb5 kU;go_wp2_with fail
 go_loopw [5] (fun v wr=>∃ k:Nat,k<=L.length/\v=ah aA (k:Int)/\aG (ends m.rows i ro (L.take k)=aB)/\Below W1.heap.size W1 wr) (fun v _=>L.length-(ba4 v).toNat)
 case atStart=>exact⟨0,aZ1 _,rfl,rfl,aZ5 _ _⟩
 case round =>
  obtain⟨k,hk,rfl,Jv,hgr⟩:=hrel;have M:=fZ.out.step hgr;have hBw:=eP HB1.out hgr;by_cases hlt:k<L.length
  ·have qQ:L.getD k 0<n:=HL.out _ (mW hlt)
   have uI:L.getD k 0<m.rows.length:=by rw[ok.len];exact qQ
   have rX:=GN.out wr hBw;rcases rX.2.2 with hz|⟨lb,lo,hla,hlc⟩
   ·rw[jq] at hz;omega
   have hlk:=hlc k (by rw[jq];exact hlt)
   rw[wR hlt] at hlk;obtain⟨AJ,Au,_,_⟩:=M.Po ok.fit uI;have HEt:=Xt (R:=m.rows) (id:=i) (o:=ro) hlt;have aN6:aG (((dO m.rows (L.getD k 0)).dV&&(decide ((dO m.rows (L.getD k 0)).dW=ro.dW)&&(decide ((dO m.rows (L.getD k 0)).dU=ro.dU)&&decide ((i:Int)∉(dO m.rows (L.getD k 0)).dQ))))=aC->ends m.rows i ro L=aC):=fun h=>ap3 hlt h
   rw[Jv.out,Bool.true_and] at HEt;have aN7:=dP HEt;clear HEt;have aB8:=ok.ok _ qQ;generalize L.getD k 0=J at *;have k1:(k:Int)<L.length:=by omega
   have k0:(0:Int)<=k:=by omega
   have J0:(0:Int)<=J:=by omega
   have J1:(J:Int)<m.rows.length:=by omega
   have oq:=M.rws;obtain⟨⟨⟨d0,d1,d2,d3⟩,d4,d5,d6,d7⟩,Aw⟩:=Au;have Ij:=dP Aw;have U6:=dP (aC0.out.2.below hBw);have HM:=dP M;have Pz:=dP (HXo.out.below hgr);have SL:=dP hgr;generalize hrr:dO m.rows J=r at *
   have KS:∀ X,Below wr.heap.size wr X->(X.cell? ⟨B,o+2,ak⟩=au (aj (au ⟨g,off,ak⟩) m.rows.length c)/\X.cell? ⟨lb,lo+k,ak⟩=au (ah aA (J:Int))/\X.cell? ⟨g,off+J*8,ak⟩=au (ah aA r.ver)/\X.cell? ⟨g,off+J*8+1,ak⟩=au (aj AJ.ta r.txt.length AJ.tc)/\X.cell? ⟨g,off+J*8+2,ak⟩=au (aj AJ.ga r.got.length AJ.gc)/\X.cell? ⟨g,off+J*8+3,ak⟩=au (aj AJ.sa r.dQ.length AJ.sc)/\X.cell? ⟨g,off+J*8+4,ak⟩=au (aF r.wed)/\X.cell? ⟨g,off+J*8+5,ak⟩=au (aF r.dV)/\X.cell? ⟨g,off+J*8+6,ak⟩=au (ah aA r.dW)/\X.cell? ⟨g,off+J*8+7,ak⟩=au (aj AJ.ma r.dU.length AJ.mc)):=fun X hX=>by
    have t:∀ {x v},wr.cell? x=au v->X.cell? x=au v:=fun h=>fM hX h
    exact⟨t oq,t hlk,t d0,t d1,t d2,t d3,t d4,t d5,t d6,t d7⟩
   have hbd:=(Same.drewN wr 1).below;clear hrr M Aw hlc hlk oq d0 d1 d2 d3 d4 d5 d6 d7 hBw rX hgr;subst hla;go_wp2_with fail
   refine lG (S:=fun X:aI=>X.cell? ⟨B,o+2,ak⟩=au (aj (au ⟨g,off,ak⟩) m.rows.length c)/\X.cell? ⟨lb,lo+k,ak⟩=au (ah aA (J:Int))/\X.cell? ⟨g,off+J*8,ak⟩=au (ah aA r.ver)/\X.cell? ⟨g,off+J*8+1,ak⟩=au (aj AJ.ta r.txt.length AJ.tc)/\X.cell? ⟨g,off+J*8+2,ak⟩=au (aj AJ.ga r.got.length AJ.gc)/\X.cell? ⟨g,off+J*8+3,ak⟩=au (aj AJ.sa r.dQ.length AJ.sc)/\X.cell? ⟨g,off+J*8+4,ak⟩=au (aF r.wed)/\X.cell? ⟨g,off+J*8+5,ak⟩=au (aF r.dV)/\X.cell? ⟨g,off+J*8+6,ak⟩=au (ah aA r.dW)/\X.cell? ⟨g,off+J*8+7,ak⟩=au (aj AJ.ma r.dU.length AJ.mc)) 11 fU ((KS _ hbd)) fun hHeld=>?_
   refine fC (i:=0) rfl hHeld ?_;refine fC (i:=1) rfl hHeld ?_;refine fC (i:=2) rfl hHeld ?_;refine fC (i:=3) rfl hHeld ?_;refine fC (i:=4) rfl hHeld ?_;refine fC (i:=5) rfl hHeld ?_;refine fC (i:=6) rfl hHeld ?_;refine fC (i:=7) rfl hHeld ?_;refine fC (i:=8) rfl hHeld ?_;refine fC (i:=9) rfl hHeld ?_;refine iy (i:=10) rfl fun K hK=>?_
   go_simp;have hb2:Below wr.heap.size wr (wr.drew.alloc (aH #[ah aA 0,aj ak 0 0,aj ak 0 0,aj ak 0 0,aF aC,aF aC,ah aA 0,aj ak 0 0] 44)):=hbd.trans ((dX wr.drew _).mono hbd.size);refine hK.out _ _ (KS _ hb2) (fun eG=>?_)
   clear hK hHeld;have hHeld:=eG;try simp only[gW]
   refine oH rfl fun K hK=>?_
   go_simp;refine hK.out _ _ ?_;have hb5:Below wr.heap.size wr (wr.alloc (aH #[ah aA r.ver,aj AJ.ta r.txt.length AJ.tc,aj AJ.ga r.got.length AJ.gc,aj AJ.sa r.dQ.length AJ.sc,aF r.wed,aF r.dV,ah aA r.dW,aj AJ.ma r.dU.length AJ.mc] 44)).drew:=(dX wr _).trans ((Same.drewN _ 1).below.mono (dX wr _).size);have hx5:Bx (wr.alloc (aH #[ah aA r.ver,aj AJ.ta r.txt.length AJ.tc,aj AJ.ga r.got.length AJ.gc,aj AJ.sa r.dQ.length AJ.sc,aF r.wed,aF r.dV,ah aA r.dW,aj AJ.ma r.dU.length AJ.mc] 44)).drew wr.heap.size 44 #[ah aA r.ver,aj AJ.ta r.txt.length AJ.tc,aj AJ.ga r.got.length AJ.gc,aj AJ.sa r.dQ.length AJ.sc,aF r.wed,aF r.dV,ah aA r.dW,aj AJ.ma r.dU.length AJ.mc]:=Bx.new wr _ _;generalize (wr.alloc (aH #[ah aA r.ver,aj AJ.ta r.txt.length AJ.tc,aj AJ.ga r.got.length AJ.gc,aj AJ.sa r.dQ.length AJ.sc,aF r.wed,aF r.dV,ah aA r.dW,aj AJ.ma r.dU.length AJ.mc] 44)).drew=W5 at *;clear hHeld KS hbd hb2 hK;have qZ:aG (Below wr.heap.size wr W5):=hb5;obtain⟨⟨x0,x1,x2,x3⟩,x4,x5,x6,x7⟩:=Bx.r8 hx5;obtain⟨⟨y0,y1,y2,y3⟩,y4,y5,y6,y7⟩:=Bx.r8 (Pz.out.below hb5);have cid:=(HM.out.step hb5).id'.1;rw[ok.hid] at cid;have T5:∀ {x v},W5.cell? x=au v->∀ q:Bk W5,q.w.cell? x=au v:=fun h q=>fM q.h h
   have yO:=T5 x3;have CJ:=T5 x5;have Jq:=T5 x6;have PD:=T5 x7;have PE:=T5 y6;have PI:=T5 y7;have pid:=T5 cid
   have C1:∀ q:Bk W5,ba3 aZ8 153 #[aj AJ.ma r.dU.length AJ.mc,aj Ao.ma ro.dU.length Ao.mc] q.w fun e w'=>e=aK (aF (decide (r.dU=ro.dU)))/\Below q.w.heap.size q.w w':=fun q=>by
    have hq:=eP qZ.out q.h;exact (Js AJ.ma Ao.ma r.dU.length AJ.mc ro.dU.length Ao.mc r.dU ro.dU q.w (Ij.out.below hq).dU (U6.out.below hq).dU Ij.out.mm).mono (fun e w' ⟨h4,n,h5⟩=>⟨h4,by rw[h5];exact fO (aZ5 _ _)⟩)
   have C2:∀ q:Bk W5,ba3 aZ8 113 #[aj AJ.sa r.dQ.length AJ.sc,ah aA (i:Int)] q.w fun e w'=>e=aK (aF (decide ((i:Int)∈r.dQ)))/\Below q.w.heap.size q.w w':=fun q=>by
    have hq:=eP qZ.out q.h;exact (qW AJ.sa r.dQ.length AJ.sc (i:Int) r.dQ q.w (Ij.out.below hq).dQ Ij.out.ms).mono (fun e w' h=>⟨h.1,by rw[h.2];exact aZ5 _ _⟩)
   clear x0 x1 x2 x3 x4 x5 x6 x7 y0 y1 y2 y3 y4 y5 y6 y7 hx5 hb5 T5 cid;obtain⟨dd,hdd⟩:∃ dd:Bool,aG (dd=(r.dV&&(decide (r.dW=ro.dW)&&(decide (r.dU=ro.dU)&&decide ((i:Int)∉r.dQ))))):=⟨_,rfl⟩;go_upto_region 5 with fail
   go_cut [61] from 35 to 61 (fun v X=>v=aF (!dd)/\Below W5.heap.size W5 X)
   case first =>
    rcases Bool.eq_false_or_eq_true r.dV with a1|a1
    rotate_left
    ·have hd0:aG (dd=aC):=by rw[aG,hdd.out,a1];rfl
     rw[a1] at CJ;clear a1;refine jf ?_;repeat (go_big_quiet_step ((first|(go_at_call 153;exact eY _ (C1 _))|(go_at_call 113;exact eY _ (C2 _))|rfl)))
     refine aZ2 (iI fun wE eH=>?_)
     try go_wp2_with fail
     go_meet
     case rel=>exact⟨by rw[hd0.out];rfl,eH⟩
    rw[a1] at CJ;by_cases a2:r.dW=ro.dW;rotate_left
    ·have hd0:aG (dd=aC):=by rw[aG,hdd.out,decide_eq_false a2];simp
     have g2:(r.dW != ro.dW)=aB:=by simpa using a2
     clear a1 a2;refine jf ?_;repeat (go_big_quiet_step ((first|(go_at_call 153;exact eY _ (C1 _))|(go_at_call 113;exact eY _ (C2 _))|rfl)))
     refine aZ2 (iI fun wE eH=>?_)
     try go_wp2_with fail
     go_meet
     case rel=>exact⟨by rw[hd0.out];rfl,eH⟩
    have g2:(r.dW != ro.dW)=aC:=by simpa using a2
    by_cases a3:r.dU=ro.dU;rotate_left
    ·have hd0:aG (dd=aC):=by rw[aG,hdd.out,decide_eq_false a3];simp
     rw[decide_eq_false a3] at C1;clear a1 a2 a3;refine jf ?_;repeat (go_big_quiet_step ((first|(go_at_call 153;exact eY _ (C1 _))|(go_at_call 113;exact eY _ (C2 _))|rfl)))
     refine aZ2 (iI fun wE eH=>?_)
     try go_wp2_with fail
     go_meet
     case rel=>exact⟨by rw[hd0.out];rfl,eH⟩
    rw[decide_eq_true a3] at C1;by_cases a4:(i:Int)∈r.dQ
    ·have hd0:aG (dd=aC):=by rw[aG,hdd.out];simp[a4]
     rw[decide_eq_true a4] at C2;clear a1 a2 a3 a4;refine jf ?_;repeat (go_big_quiet_step ((first|(go_at_call 153;exact eY _ (C1 _))|(go_at_call 113;exact eY _ (C2 _))|rfl)))
     refine aZ2 (iI fun wE eH=>?_)
     try go_wp2_with fail
     go_meet
     case rel=>exact⟨by rw[hd0.out];rfl,eH⟩
    have hd0:aG (dd=aB):=by rw[aG,hdd.out,a1,decide_eq_true a2,decide_eq_true a3,decide_eq_true a4];rfl
    rw[decide_eq_false a4] at C2;clear a1 a2 a3 a4;refine jf ?_;repeat (go_big_quiet_step ((first|(go_at_call 153;exact eY _ (C1 _))|(go_at_call 113;exact eY _ (C2 _))|rfl)))
    refine aZ2 (iI fun wE eH=>?_)
    try go_wp2_with fail
    go_meet
    case rel=>exact⟨by rw[hd0.out];rfl,eH⟩
   case rest =>
    obtain⟨rfl,hBc⟩:=hcut;have Jt:=eP qZ.out hBc;have jX:=dP (HM.out.step Jt);have HG6:=dP (eP SL.out Jt);clear yO CJ Jq PD PE PI pid C1 C2 hBc Jt
    cases dd with
    | false =>
     have HZ:=dP (aN6.out hdd.out.symm);go_wp2
     (try simp only[Exit.inBlock,Exit.then])
     refine bodyPost_ret (results_none rfl _ _ _) rfl ?_;rw[Ju,HRO.out,HZ.out];exact⟨rfl,jX.out.mk' HC2.out rfl⟩
    | true =>
     have HE2:aG (ends m.rows i ro (L.take (k+1))=aB):=by rw[aG,aN7.out];exact hdd.out.symm
     go_wp2;go_roundw
     case rel=>exact⟨k+1,by omega,by go_num,HE2,HG6.out⟩
     case measure=>simp[ba4];omega
  ·have k1:¬ ((k:Int)<L.length):=by omega
   have HZ:aG (Ju m i L={ m with done:=aB,dR:=jO m.dR ro.dU }):=by
    have e:ends m.rows i ro L=aB:=by rw[<- Jv.out,bJ (by omega)]
    rw[aG,Ju,HRO.out,e]
    rfl
   have aC1:RV wr g (off+i*8) Ao (dO m.rows i):=by rw[HRO.out];exact aC0.out.below hBw
   have hVB:=M.aN4 hil aC1;rw[HRO.out] at hVB;obtain⟨u4,f4,q1,q2,_,_,q4⟩:=M.LD (j:=4) (cl:=.v (aF m.done)) rfl (by omega)
   obtain⟨q5,q6,M2⟩:=q4 wr (.v (aF aB)) (aF aB) (fun _=>False) { m with done:=aB } rfl rfl (eU.refl _ _) ⟨rfl,fun _ h=>h⟩ (fun b hb=>hb.elim)
   have ji:aG (Mw w (wr.setCell ⟨B,o+4,ak⟩ (aF aB)) B o { m with done:=aB } fp g off c):=M2
   have RZ:aG (tZ (wr.setCell ⟨B,o+4,ak⟩ (aF aB)) Ao.ma ro.dU B):=hVB.set _ _;have lM:aG (Bx (wr.setCell ⟨B,o+4,ak⟩ (aF aB)) w.heap.size 44 #[ah aA ro.ver,aj Ao.ta ro.txt.length Ao.tc,aj Ao.ga ro.got.length Ao.gc,aj Ao.sa ro.dQ.length Ao.sc,aF ro.wed,aF ro.dV,ah aA ro.dW,aj Ao.ma ro.dU.length Ao.mc]):=(HXo.out.below hgr).far (by have:=aN5.out;omega) _
   have htr:=hr.dV HRD.out;have htl:=htr.2.2.2.1;have h12:∀ j,j<ro.dU.length->0<=el ro.dU j/\el ro.dU j<=12:=fun j hj=>(jG hr.n5 htl).1 ⟨htr.2.2.1,htr.2.2.2.2⟩ j (by omega)
   have GV:=dP htl;have htp:0<ro.dU.length/\ro.dU.length<=5:=by omega
   clear M M2 aC1 hVB hBw hgr q4 Jv htr htl;go_upto_region 6 with fail
   go_upto_region 7 with fail
   generalize wr.setCell ⟨B,o+4,ak⟩ (aF aB)=V1 at *;clear q1 q2 q5 q6;have x7:=lM.out.at 7 rfl;simp only[List.getElem_toArray,List.getElem_cons_succ,List.getElem_cons_zero] at x7;rcases RZ.out.vec.2.2 with h0|⟨tb,tof,hta,htc⟩
   ·omega
   rw[hta] at x7;have hW:=Ri tb tof Ao.mc ro.dU ro.dU.length V1 rfl (by omega) (fun j hj=>htc j hj) (fun j hj=>by have:=h12 j hj;omega)
   rw[ap2 h12] at hW;clear hta htc;go_wp2_with fail
   refine hW.mono ?_;rintro e ws ⟨sg,so,sc,rfl,hsg,hO,hbs⟩;obtain⟨jE,f1,f2,_,M5,Xv⟩:=ji.out.sub hbs;have HSg:aG (jO m.dR ro.dU=jF m.dR (iC ro.dU 12) (iC ro.dU 12).length):=by rw[aG,Me];rfl
   have E5:(iC ro.dU 12).length<=1000:=by
    have:=Gh ro.dU 12;rw[GV.out] at this;omega
   have Xw:Fits (iC ro.dU 12):=Mc (by omega) (by omega)
   have yP:=dP Xv;have iM:=dP M5;have HsB:aG (¬ jE sg/\sg≠B):=⟨fun k=>by have:=f1 _ k;omega,by omega⟩
   generalize iC ro.dU 12=Z at *;have HOs:aG (eF.ow ws (gQ Z) (aj (au ⟨sg,so,ak⟩) Z.length sc) (fun b=>b=sg)):=jv.2 ⟨_,sc,au sg,rfl,iV.of hO,fun b=>by simp[eq_comm]⟩
   clear hW x7 hO hbs f1 f2 Xv M5 hsg lM RZ ji;go_wp2_with fail
   go_loopw [8] (fun v wr=>∃ j:Nat,j<=Z.length/\v=ah aA (j:Int)/\Mw ws wr B o { m with done:=aB,dR:=jF m.dR Z j } jE g off c) (fun v _=>Z.length-(ba4 v).toNat)
   case atStart=>exact⟨0,aZ1 _,rfl,iM.out⟩
   case round =>
    obtain⟨j,hj,rfl,M⟩:=hrel;by_cases hlt2:j<Z.length
    ·have j1:(j:Int)<Z.length:=by omega
     have j0:(0:Int)<=j:=by omega
     have hsl:=BA (s:=m.dR) (Z:=Z) j;have hsf:=zJ (s:=m.dR) (Z:=Z) ok.fit.2 Xw j;have hms:=ok.sl;have HN:aG (jF m.dR Z (j+1)=if el Z j∈jF m.dR Z j then jF m.dR Z j else gY (jF m.dR Z j) (el Z j)):=zI hlt2
     have Xx:=mV (M.SA HOs.out (fun b hb=>by rw[hb];exact HsB.out)) Xw
     rcases Xx.2.2 with hz|⟨zb,zo,ez,hzc⟩
     ·omega
     cases ez
     have hzj:=hzc j hlt2;generalize el Z j=x at *;generalize hsj:jF m.dR Z j=sj at *;obtain⟨u,f,hu,hfz,how,xQ,hset⟩:=M.LD (j:=3) (cl:=gQ sj) rfl (by omega)
     have how':=how;obtain⟨ya,yc,G,rfl,_,_⟩:=jv.1 how';have MB:=mV how hsf;have HM:=dP M;have T5:∀ {x v},wr.cell? x=au v->∀ q:Bk wr,q.w.cell? x=au v:=fun h q=>fM q.h h
     have p3:=T5 hu;have pz:=T5 hzj;have C2:∀ q:Bk wr,ba3 aZ8 113 #[aj ya sj.length yc,ah aA x] q.w fun e w'=>e=aK (aF (decide (x∈sj)))/\Below q.w.heap.size q.w w':=fun q=>(qW ya sj.length yc x sj q.w (MB.below q.h (aZ0 _)) (by unfold ba2;omega)).mono (fun e w' h=>⟨h.1,by rw[h.2];exact aZ5 _ _⟩)
     clear hsj hset how how' xQ MB hzc Xx M T5 hu hfz hzj;by_cases hxs:x∈sj
     ·have xq:aG (jF m.dR Z (j+1)=sj):=by rw[aG,HN.out,if_pos hxs]
      rw[decide_eq_true hxs] at C2;clear hxs HN;go_wp2_with fail
      refine jf ?_;repeat (go_big_quiet_step ((first|(go_at_call 113;exact eY _ (C2 _))|rfl)))
      refine aZ2 (iI fun wE eH=>?_)
      have pU:=dP (HM.out.step eH);clear p3 pz C2 eH;go_wp2;go_roundw
      case rel=>exact⟨j+1,by omega,by go_num,by rw[xq.out];exact pU.out⟩
      case measure=>simp[ba4];omega
     ·have xq:aG (jF m.dR Z (j+1)=gY sj x):=by rw[aG,HN.out,if_neg hxs]
      rw[decide_eq_false hxs] at C2;clear hxs HN;go_wp2_with fail
      refine jf ?_;repeat (go_big_quiet_step ((first|(go_at_call 113;exact eY _ (C2 _))|rfl)))
      refine aZ2 (iI fun wE eH=>?_)
      have M7:=HM.out.step eH;have y3:=p3 ⟨wE,eH⟩;have yz:=pz ⟨wE,eH⟩;simp only at y3 yz
      obtain⟨u,f,hu,hfz,how,xQ,hset⟩:=M7.LD (j:=3) (cl:=gQ sj) rfl (by omega)
      obtain rfl:=aV4 (hu.symm.trans y3);have hbd:=(Same.drewN wE 1).below;have hP:=Ol ya yc sj x wE.drew f (eF.gK how hbd) hsf (by omega)
      have KS:∀ X,Below wE.heap.size wE X->(X.cell? ⟨B,o+3,ak⟩=au (aj ya sj.length yc)/\X.cell? ⟨sg,so+j,ak⟩=au (ah aA x)):=fun X hX=>by
       have t:∀ {x v},wE.cell? x=au v->X.cell? x=au v:=fun h=>fM hX h
       exact⟨t y3,t yz⟩
      have HS:=dP hset;clear M7 y3 yz hu hfz how xQ hset p3 pz C2 eH;go_wp2_with fail
      refine lG (S:=fun X:aI=>X.cell? ⟨B,o+3,ak⟩=au (aj ya sj.length yc)/\X.cell? ⟨sg,so+j,ak⟩=au (ah aA x)) 12 fU ((KS _ hbd)) fun hHeld=>?_
      refine fC (i:=0) rfl hHeld ?_;refine fC (i:=1) rfl hHeld ?_;refine fC (i:=2) rfl hHeld ?_;refine fC (i:=3) rfl hHeld ?_;refine fC (i:=4) rfl hHeld ?_;refine fC (i:=5) rfl hHeld ?_;refine fC (i:=6) rfl hHeld ?_;refine fC (i:=7) rfl hHeld ?_;refine fC (i:=8) rfl hHeld ?_;refine iy (i:=9) rfl fun K hK=>?_
      go_simp
      go_at_call 106
      refine hP.mono ?_;rintro e w1 ⟨a1,e1',f1,rfl,k1',k2,k3⟩;have hb1:=eP hbd k3;obtain⟨z1,z2,M8⟩:=HS.out w1 (gQ (gY sj x)) _ f1 { m with done:=aB,dR:=gY sj x } rfl rfl (eU.of_below hb1) k1' (fun b hb=>k2 b hb)
      have pV:=dP M8;refine hK.out _ _ (KS _ hb1) (fun eG=>?_)
      clear hK hHeld;have hHeld:=eG;try simp only[gW]
      refine fE (i:=10) rfl ?_;refine fC (i:=11) rfl hHeld ?_;refine oH rfl fun K hK=>?_
      go_simp;refine hK.out _ _ ?_;clear M8 k1' k2 k3 hP HS hHeld KS hbd hb1 hK;generalize w1.setCell ⟨B,o+3,ak⟩ (aj a1 (gY sj x).length e1')=V9 at *;clear z1 z2;go_wp2;go_roundw
      case rel=>exact⟨j+1,by omega,by go_num,by rw[xq.out];exact pV.out⟩
      case measure=>simp[ba4];omega
    ·have j1:¬ ((j:Int)<Z.length):=by omega
     have ej:j=Z.length:=by omega
     have pU:aG (Mw w wr B o { m with done:=aB,dR:=jO m.dR ro.dU } fp g off c):=by
      rw[aG,HSg.out,<- ej];exact yP.out _ _ M
     clear M ej;go_wp2;go_end0;rw[HZ.out];exact⟨rfl,pU.out.mk' HC2.out rfl⟩
theorem jM.wrt {w': aI} {p: Nat} {a: Option ba5} {cap: Nat} {f: Fp} (h:jM w p a len cap) (hw:eU f w w') (hp:¬ f p):jM w' p a len cap:=by
 have hlt:=h.lt;obtain⟨i,x,hi,hh⟩:=h;exact⟨i,x,hi,(hw.block p hlt hp).trans hh⟩
theorem Cc.wrt {w X X':aI} {p:Nat} {a:Option ba5} {len cap:Nat} {bs:Nat->Int} {f:Fp} (h:Cc w X p a len cap bs) (hw:eU f X X') (hp:¬ f p) (hl:∀ b,f b->w.heap.size<=b):Cc w X' p a len cap bs :=
 ⟨h.cur.wrt hw hp,h.code,hw.below h.below h.below.size hl,h.off,h.hl,h.hp⟩
theorem oI {Y Y': aI} {p: Nat} {f: Fp} (h:X.grownBy Y (au p)) (hw:eU f Y Y') (hl:∀ b,f b->X.heap.size<=b):X.grownBy Y' (au p) :=
 ⟨hw.os.trans h.os,hw.tape.trans h.tape,hw.output.trans h.output,aY2 h.size hw.size,fun b hb hn=>(hw.block b (Nat.lt_of_lt_of_le hb h.size) (fun e=>by have:=hl b e;omega)).trans (h.block b hb hn)⟩
structure SD (w X Y:aI) (p:Nat) (a:Option ba5) (len cap:Nat) (bs:Nat->Int) (T:TypeId) (o:Nat) (Z C:Array aJ) (cs:List eF) (vs:List aJ) (fp:Fp):Prop where
 cc:Cc w Y p a len cap bs
 res:Bx Y X.heap.size T Z
 own:Bx Y o T C
 ls:gq Y cs vs fp
 kJ:∀ b,fp b->X.heap.size<b/\b≠o
 hpo:p<X.heap.size
 ho:X.heap.size<o
 gr:X.grownBy Y (au p)
section
variable {w X Y Y':aI} {p:Nat} {a:Option ba5} {len cap:Nat} {bs:Nat->Int} {T:TypeId} {o:Nat} {Z C:Array aJ} {cs:List eF} {vs:List aJ} {fp:Fp}
theorem SD.lt (h:SD w X Y p a len cap bs T o Z C cs vs fp):w.heap.size<=X.heap.size:=by have:=h.cc.hp;have:=h.hpo;omega
theorem SD.drawn (h:SD w X Y p a len cap bs T o Z C cs vs fp) (hg:Y.grownBy Y' (au p)) (hc:Cc w Y' p a len cap bs):SD w X Y' p a len cap bs T o Z C cs vs fp:=by
 have h1:=h.hpo;have h2:=h.ho;exact⟨hc,h.res.grown hg (by simp;omega),h.own.grown hg (by simp;omega),gU h.ls (eU.l7 hg) (fun b hb e=>by cases e;have:=(h.kJ _ hb).1;omega),h.kJ,h1,h2,fQ h.gr hg⟩
theorem SD.step (h:SD w X Y p a len cap bs T o Z C cs vs fp) (hb:Below Y.heap.size Y Y'):SD w X Y' p a len cap bs T o Z C cs vs fp :=
 ⟨h.cc.step hb,h.res.below hb,h.own.below hb,gy h.ls hb,h.kJ,h.hpo,h.ho,fQ h.gr ⟨hb.os,hb.tape,hb.output,hb.size,fun x hx _=>hb.block x hx⟩⟩
theorem SD.drewN (h:SD w X Y p a len cap bs T o Z C cs vs fp) (n:Nat):SD w X (Y.drewN n) p a len cap bs T o Z C cs vs fp:=h.step (Same.drewN Y n).below
theorem SD.set (h:SD w X Y p a len cap bs T o Z C cs vs fp) (i:Nat) (v:aJ):SD w X (Y.setCell ⟨o,i,ak⟩ v) p a len cap bs T o Z (C.setIfInBounds i v) cs vs fp:=by
 have h1:=h.hpo;have h2:=h.ho;have h3:=h.lt;have hw:=eU.set Y o i v;exact⟨h.cc.wrt hw (by omega) (fun b e=>by omega),h.res.far (by omega) v,h.own.lW i v,gU h.ls hw (fun b hb e=>(h.kJ b hb).2 e),h.kJ,h1,h2,oI h.gr hw (fun b e=>by omega)⟩
theorem SD.new (h:SD w X Y p a len cap bs T o Z C cs vs fp) {j:Nat} {c c':eF} {u':aJ} {f':Fp} (hj:cs[j]?=au c) (hc:eF.ow Y c' u' f') (hf:∀ b,f' b->X.heap.size<b/\b≠o) (hd:∀ b,f' b->¬ fp b):∃ fp',SD w X Y p a len cap bs T o Z C (cs.set j c') (vs.set j u') fp':=by
 obtain⟨u,f,hu,ho,hs,hp⟩:=zT h.ls hj;exact⟨_,h.cc,h.res,h.own,hp Y c' u' f' (aZ0 _) hc (fun _ _ _=>rfl) (fun b hb k=>absurd k (hd b hb)),fun b hb=>by rcases hb with hb|hb;exact hf b hb;exact h.kJ b hb.1,h.hpo,h.ho,h.gr⟩
theorem SD.at (h:SD w X Y p a len cap bs T o Z C cs vs fp) {j:Nat} {c:eF} (hj:cs[j]?=au c):∃ u f,vs[j]?=au u/\eF.ow Y c u f/\(∀ b,f b->fp b) /\
  ∀ (Y':aI) (c':eF) (u':aJ) (f':Fp),eU f Y Y'->eF.ow Y' c' u' f'->(∀ b,f' b->f b\/Y.heap.size<=b)->∃ fp',SD w X Y' p a len cap bs T o Z C (cs.set j c') (vs.set j u') fp':=by
 obtain⟨u,f,hu,ho,hs,hp⟩:=zT h.ls hj;refine⟨u,f,hu,ho,hs,fun Y' c' u' f' hw hc' hf'=>?_⟩
 have h1:=h.hpo;have h2:=h.ho;have h3:=h.lt;have hl:=jh h.ls;have hol:=h.own.lt;have k:∀ b,f b->X.heap.size<b/\b≠o:=fun b hb=>h.kJ b (hs b hb)
 refine⟨_,h.cc.wrt hw (fun e=>by have:=(k _ e).1;omega) (fun b e=>by have:=(k _ e).1;omega),h.res.wrt hw (fun e=>by have:=(k _ e).1;omega),h.own.wrt hw (fun e=>(k _ e).2 rfl),hp Y' c' u' f' hw.size hc' (fun b hb hn=>hw.block b (hl b hb) hn) (fun b hb hb2=>?_),fun b hb=>?_,h1,h2,oI h.gr hw (fun b e=>by have:=(k _ e).1;omega)⟩
 ·rcases hf' b hb with h5|h5
  ·exact h5
  ·have:=hl b hb2;omega
 ·rcases hb with hb|hb
  ·rcases hf' b hb with h5|h5
   ·exact k b h5
   ·exact⟨by omega,by omega⟩
  ·exact h.kJ b hb.1
theorem SD.ans (h:SD w X Y p a len cap bs T o Z C cs vs fp) (hw:eU (fun b=>b=X.heap.size) Y Y'):gq Y' cs vs fp/\(∀ b,fp b->X.heap.size<=b)/\Cc w Y' p a len cap bs/\X.grownBy Y' (au p):=by
 have h1:=h.hpo;have h3:=h.lt;exact⟨gU h.ls hw (fun b hb e=>by have:=(h.kJ b hb).1;omega),fun b hb=>by have:=(h.kJ b hb).1;omega,h.cc.wrt hw (by omega) (fun b e=>by omega),oI h.gr hw (fun b e=>by omega)⟩
end
def Xy (w w':aI) (v:aJ) (p:Nat) (a:Option ba5) (len cap:Nat):Prop :=
 ∃ a' zs c G,v=aj a' (List.length zs) c/\iV w' 1 a' (List.length zs) c (zs.map (aZ9 aA)) G/\(∀ g,G=au g->w.heap.size<=g)/\Fits zs/\List.length zs<=16/\jM w' p a len cap/\w.grownBy w' (au p)
theorem ap4 {n c: Nat} {zs: List Int} (h:OI w g off n c zs) (h1:1<=zs.length):OI w g (off+1) zs.tail.length (c-1) zs.tail:=by
 have hl:zs.length=n:=by have:=h.len;simpa using this
 have hle:=h.le;refine⟨by simp,by rw[List.length_tail];omega,aY2 (Nat.sub_le _ _) h.max,h.blk,fun i hi=>?_,fun i hi=>?_,fun i hi=>?_⟩
 ·rw[List.length_tail] at hi
  have:=h.cell (i+1) (by omega)
  rw[show off+1+i=off+(i+1) by omega,this]
  simp
 ·have:=h.some (i+1) (by omega)
  rw[show off+1+i=off+(i+1) by omega]
  exact this
 ·have:=h.free (i+1) (by omega)
  rw[show off+1+i=off+(i+1) by omega]
  exact this
theorem Z9 (p:Nat) (a:Option ba5) (len cap:Nat) (bs:Nat->Int) (N:Nat) (n:Int) (hN:n=(N:Int)) (w:aI) (hcur:jM w p a len cap) (hv:oC w a len bs) (hp:Ez a len p) (hl:len<=4096) (hn:N<=16) :
  ba3 aZ8 107 #[aO (au ⟨p,0,ak⟩),ah aA n] w fun e w'=>∃ v,e=aK v/\Xy w w' v p a len cap:=by
 subst hN;have hpl:=hcur.lt;obtain⟨i0,hi0,hz0,hz1,hz2⟩:=info_parts Tryz.info2;go_enter Tryz.func107,Tryz.ntmps107
 go_wp2
 go_loopw [1,5] (fun q v wr=>∃ (k:Nat) (zs:List Int),k<=N/\zs.length=k/\q=ah aA ((N:Int)-(k:Int))/\Small zs/\wr.ownsRow w.heap.size 2 1 v k (zs.map (aZ9 aA))/\jM wr p a len cap/\w.grownBy wr (au p)) (fun q _ _=>(ba4 q).toNat)
 case atStart=>exact⟨0,[],aZ1 _,rfl,by simp,fun z hz=>by simp at hz,IE w,hcur.alloc _,World.grownBy_alloc _ _ _⟩
 case round =>
  obtain⟨k,zs,hk,hzl,rfl,hsm,hown,hc,hg⟩:=hrel;have HZ:=dP hzl;have HS:=dP hsm;have HG:=dP hg;have HO:=dP hown;have PK:=hv.grown hg hp;clear hzl hsm hg hown;by_cases hlt:k<N
  ·go_wp2_with fail
   refine (pI p a len cap bs 6 _ hc PK hp hl (by omega)).mono ?_
   rintro e w2 ⟨x,rfl,hx0,hx1,hx2,hc2,hg2⟩;have hx6:x<=6:=by have:=hx1 (by omega);omega
   have hown2:=HO.out.kept hg2 (.inr (vN HO.out hpl));have hs2:=aY2 HG.out.size hg2.size;clear hx1 hx2;go_wp2_with (at_builtin;refine wpList_append_lies _ rfl _ _ _ rfl w.heap.size 2 i0 _ 1 8 dK hi0 hz0 hz1 hz2 rfl (by omega) u5 k _ rfl (hown2.alloc _) ⟨w2.heap.size,0,ak⟩ 1 1 [ah aA x] rfl rfl (World.news_of_block (cs:=#[ah aA x]) (t:=2) (fr:=(0,0)) (heap_alloc_new w2 _)) (by simp[aX4]) (by omega) (by unfold ba2;omega) (by omega) (by simp;omega) (w2.heap.size+1) (by simp) ?_;intro g cap3 w3 hown3 hgrow hat hlt3)
   have R:aG (w3.ownsRow w.heap.size 2 1 (aj (au ⟨g,0,ak⟩) (k+1) cap3) (k+1) ((zs++[x]).map (aZ9 aA))):=by
    rw[aG,aV9];exact hown3
   have RC:aG (jM w3 p a len cap):=(hc2.alloc _).grown hgrow (vN HO.out hpl);have RG:aG (w.grownBy w3 (au p)):=zA (fQ (fQ HG.out hg2) (World.grownBy_alloc _ _ _)) hgrow (fun r hr=>(HO.out.lt r hr).1)
   have RS:=dP (HS.out.snoc hx0 hx6);clear hown3 hgrow hat hlt3 hown2 hc2 hg2 hc PK hs2;go_wp2;go_roundw
   case rel=>exact⟨k+1,zs++[x],by omega,by simp[HZ.out],by go_num,RS.out,R.out,RC.out,RG.out⟩
   case measure=>simp[ba4];omega
  ·have hkN:k=N:=by omega
   subst hkN;by_cases h1:1<=k
   ·obtain⟨g,c,hu,hgB,ho⟩:=xG HO.out HZ.out.symm h1
    rw[HZ.out] at hu;subst hu;have GX:g≠p:=by omega
    go_wp2_with fail
    refine (Dj p a len cap bs 12 _ hc PK hp hl (by omega)).mono ?_
    rintro e w2 ⟨x,rfl,hc2,hg2⟩;have ho2:=ho.grown hg2 GX;have aa0:=HO.out.kept hg2 (.inr (vN HO.out hpl));have hv2:=PK.grown hg2 hp;have HG2:=fQ HG.out hg2;have hpos:(0:Int)<k:=by omega
    clear ho PK hc hg2
    cases x
    ·go_wp2
     go_ret
     exact⟨_,rfl,_,zs,c,au g,by rw[HZ.out];rfl,iV.of (OI.own ho2),fun b e=>by cases e;exact hgB,HS.out.fits,by have:=HZ.out;omega,hc2,HG2⟩
    ·go_wp2_with fail
     refine (pI p a len cap bs 3 _ hc2 hv2 hp hl (by omega)).mono ?_
     rintro e w3 ⟨y,rfl,hy0,hy1,hy2,hc3,hg3⟩;have ho3:=ho2.grown hg3 GX;have aC2:=aa0.kept hg3 (.inr (vN aa0 hpl));have hv3:=hv2.grown hg3 hp;have GY:=fQ HG2 hg3;have hy3:=hy1 (by omega)
     clear ho2 hc2 hv2 hg3 HG2 hy1 hy2 aa0;rcases (by omega:y=0\/y=1\/y=2) with hy|hy|hy
     ·subst hy
      go_wp2_with fail
      have aC3:OwnAt (w3.alloc (aH #[ah aA (-1),ah aA 1000000,ah aA 1000001,ah aA 4611686018427387904] 2)) g c zs:=ho3.of_block (Below.heap_alloc _ _ _ ho3.lt);have aC4:=hv3.grown (World.grownBy_alloc w3 (aH #[ah aA (-1),ah aA 1000000,ah aA 1000001,ah aA 4611686018427387904] 2) (au p)) hp;have hp3:p<w3.heap.size:=hc3.lt;refine (pI p a len cap bs 4 _ (hc3.alloc _) aC4 hp hl (by omega)).mono ?_
      rintro e w4 ⟨z,rfl,hz0',hz1',hz2',hc4,hg4⟩;have hblk:=(hg4.block w3.heap.size (by simp) (by simp;omega)).trans (heap_alloc_new w3 _)
      have yF:=aC3.grown hg4 GX;have zk:=fQ (fQ GY (World.grownBy_alloc w3 _ _)) hg4;have e0:w4.cell? ⟨w3.heap.size,0,ak⟩=au (ah aA (-1)):=by simp[World.cell?,hblk]
      have e1:w4.cell? ⟨w3.heap.size,1,ak⟩=au (ah aA 1000000):=by simp[World.cell?,hblk]
      have e2:w4.cell? ⟨w3.heap.size,2,ak⟩=au (ah aA 1000001):=by simp[World.cell?,hblk]
      have e3:w4.cell? ⟨w3.heap.size,3,ak⟩=au (ah aA 4611686018427387904):=by simp[World.cell?,hblk]
      have hcg:=yF.cell (i:=0) (by rw[HZ.out];omega)
      have hfg:=yF.frozen 0;have HO4:=dP yF;have HC4:=dP hc4;have HGG:=dP zk;have hz4:=hz1' (by omega)
      clear hz1' hz2' hblk hg4 zk yF hc4 aC3 aC4 ho3 hv3 hc3 GY aC2
      have FIN:aG (∀ v:Int,-9223372036854775808<=v/\v<=9223372036854775807->Xy w (w4.setCell ⟨g,0,ak⟩ (ah aA v)) (aj (au ⟨g,0,ak⟩) k c) p a len cap):=fun v hv =>
       ⟨_,zs.set 0 v,c,au g,by rw[aV3,HZ.out],iV.of (OI.own (HO4.out.set 0 v)),fun b e=>by cases e;exact hgB,N7 HS.out.fits 0 hv,by rw[aV3];have:=HZ.out;omega,HC4.out.set GX _ _,EC HGG.out hgB _ _⟩
      rcases (by omega:z=0\/z=1\/z=2\/z=3) with hz|hz|hz|hz
      all_goals
       subst hz;go_wp2;go_ret
       exact⟨_,rfl,FIN.out _ (by omega)⟩
     ·subst hy
      have hT:=Zj ho3 HS.out.fits (by rw[HZ.out];exact h1)
      rw[HZ.out] at hT;have hkc:k<=c:=by have:=ho3.1;rwa [HZ.out] at this
      have hcm:=ho3.2.1;have aS0:(k:Int)<=c:=by omega
      have hk1:(1:Int)<=k:=by omega
      have HTO:aG (iV w3 1 (au ⟨g,1,ak⟩) zs.tail.length (c-1) (zs.tail.map (aZ9 aA)) (au g)):=iV.of (ap4 (OI.own ho3) (by rw[HZ.out];exact h1))
      have HTF:=dP hT.2.1;have GV:aG (Value.slice (au ⟨g,1,ak⟩) (k-1) (c-1)=aj (au ⟨g,1,ak⟩) zs.tail.length (c-1)):=by rw[aG,List.length_tail,HZ.out]
      by_cases hc1:c=1
      ·subst hc1
       have aN8:k=1:=by omega
       subst aN8;go_wp2;go_ret
       exact⟨_,rfl,_,[],0,ak,rfl,iV.nil _ _ (kV _ _),fun b e=>(by cases e),fun x hx=>absurd hx aU9,aZ1 _,hc3,GY⟩
      ·go_wp2
       go_ret
       exact⟨_,rfl,_,zs.tail,c-1,au g,GV.out,HTO.out,fun b e=>by cases e;exact hgB,HTF.out,by rw[List.length_tail];have:=HZ.out;omega,hc3,GY⟩
     ·subst hy
      clear ho3 hv3;go_wp2
      go_loopw [5] (fun v wr=>∃ (m g c:Nat) (ys:List Int),v=aj (au ⟨g,0,ak⟩) m c/\ys.length=m/\1<=m/\m<=16/\Small ys/\wr.ownsRow w.heap.size 2 1 v m (ys.map (aZ9 aA))/\jM wr p a len cap/\w.grownBy wr (au p)) (fun v _=>16-lenOf v)
      case atStart=>exact⟨k,g,c,zs,rfl,HZ.out,h1,by omega,HS.out,aC2,hc3,GY⟩
      case round =>
       obtain⟨m,g2,c2,ys,rfl,hyl,hm1,Ec,hys,hown,hcc,hgg⟩:=hrel;have hvv:=hv.grown hgg hp;have HY:=dP hyl;have HYS:=dP hys;clear hyl hys;go_wp2_with fail
       refine (pI p a len cap bs 2 _ hcc hvv hp hl (by omega)).mono ?_
       rintro e w4 ⟨z,rfl,hz0',hz1',hz2',hc4,hg4⟩;have own4:=hown.kept hg4 (.inr (vN hown hpl));have zk:=fQ hgg hg4;have hz4:=hz1' (by omega)
       have hs4:=zk.size;clear hz1' hz2' hg4 hgg hown hcc hvv;by_cases hlt2:(m:Int)<8+z
       ·go_wp2_with (at_builtin;refine wpList_append_lies _ rfl _ _ _ rfl w.heap.size 2 i0 _ 1 8 dK hi0 hz0 hz1 hz2 rfl (by omega) (aj (au ⟨g2,0,ak⟩) m c2) m _ rfl (own4.alloc _) ⟨w4.heap.size,0,ak⟩ 1 1 [ah aA 1] rfl rfl (World.news_of_block (cs:=#[ah aA 1]) (t:=2) (fr:=(0,0)) (heap_alloc_new w4 _)) (by simp[aX4]) (by omega) (by unfold ba2;omega) (by omega) (by simp;omega) (w4.heap.size+1) (by simp) ?_;intro g3 cap3 w5 hown5 hgrow hat aN9)
        have R:aG (w5.ownsRow w.heap.size 2 1 (aj (au ⟨g3,0,ak⟩) (m+1) cap3) (m+1) ((ys++[1]).map (aZ9 aA))):=by
         rw[aG,aV9];exact hown5
        have RC:aG (jM w5 p a len cap):=(hc4.alloc _).grown hgrow (vN own4 hpl);have RG:aG (w.grownBy w5 (au p)):=zA (fQ zk (World.grownBy_alloc _ _ _)) hgrow (fun r hr=>(own4.lt r hr).1)
        have RS:aG (Small (ys++[1])):=HYS.out.snoc (by omega) (by omega)
        clear hown5 hgrow hat aN9 own4 hc4 zk;go_wp2;go_roundw
        case rel=>exact⟨m+1,g3,cap3,ys++[1],rfl,by simp[HY.out],by omega,by omega,RS.out,R.out,RC.out,RG.out⟩
        case measure=>simp[lenOf];omega
       ·go_wp2
        go_ret
        obtain⟨g5,c5,hu5,hg5,hO5⟩:=jk.uy own4 (by intro h;cases h)
        cases hu5
        exact⟨_,rfl,au ⟨g2,0,ak⟩,ys,c2,au g2,by rw[HY.out];rfl,iV.of (by rw[HY.out];exact hO5),fun b e=>by cases e;exact hg5,HYS.out.fits,by rw[HY.out];omega,hc4,zk⟩
   ·obtain⟨a',c,hu,Az,hac,hcm,aK1⟩:=VT HO.out HZ.out.symm HS.out.fits
    have hz0:zs=[]:=List.eq_nil_of_length_eq_zero (by have:=HZ.out;omega)
    obtain⟨G0,jD,oN⟩:∃ G,aG (iV wr 1 a' zs.length c (zs.map (aZ9 aA)) G)/\aG (∀ b,G=au b->w.heap.size<=b):=by
     by_cases hn:u5=aj ak 0 0
     ·rw[hu] at hn
      cases hn
      exact⟨ak,by rw[aG,hz0];exact iV.nil _ _ IJ,fun b e=>by cases e⟩
     ·obtain⟨g5,c5,hu5,hg5,hO5⟩:=jk.uy HO.out hn
      rw[hu] at hu5
      cases hu5
      exact⟨au g5,by rw[aG,HZ.out];exact iV.of hO5,fun b e=>by cases e;exact hg5⟩
    subst hu;have hoff:Off a' p:=fun b off e=>by have:=aK1 b off e;omega
    go_wp2_with fail
    refine (Dj p a len cap bs 12 _ hc PK hp hl (by omega)).mono ?_
    rintro e w2 ⟨x,rfl,hc2,hg2⟩;have hva:=Az.grown hg2 hoff;have HG2:=fQ HG.out hg2;have HOO:aG (iV w2 1 a' zs.length c (zs.map (aZ9 aA)) G0):=jD.out.frame hg2.size (fun g e=>hg2.block g (jD.out.lt e) (by have:=oN.out g e;simp;omega))
    have hpos:decide ((0:Int)<k)=aC:=by simp;omega
    clear Az PK hc hg2
    cases x
    all_goals
     go_wp2;go_ret
     exact⟨_,rfl,a',zs,c,G0,by rw[HZ.out];rfl,HOO.out,oN.out,HS.out.fits,by have:=HZ.out;omega,hc2,HG2⟩
theorem aK2 (N:Nat) (n:Int) (hN:n=(N:Int)) (hn:N<=16) {p: Nat} {a: Option ba5} {cap: Nat} {bs: Nat->Int} (h:Cc w X p a len cap bs) :
  ba3 aZ8 107 #[aO (au ⟨p,0,ak⟩),ah aA n] X fun e w'=>∃ a' c zs fp,e=aK (aj a' (List.length zs) c)/\eF.ow w' (gQ zs) (aj a' (List.length zs) c) fp/\(∀ b,fp b->X.heap.size<=b)/\Fits zs/\List.length zs<=16/\Cc w w' p a len cap bs/\X.grownBy w' (au p):=by
 refine (Z9 p a len cap bs N n hN X h.cur h.yU h.off h.hl hn).mono ?_;rintro e w' ⟨v,rfl,a',zs,c,G,rfl,hO,hG,hf,h16,hc,hg⟩;exact⟨a',c,zs,fun b=>G=au b,rfl,jv.2 ⟨_,c,G,rfl,hO,fun b=>Iff.rfl⟩,fun b hb=>hG b hb,hf,h16,h.drawn hg hc,hg⟩
structure uK (r:Rw):Prop where
 ver:-10<=r.ver/\r.ver<=1000020
 tl:r.txt.length<=20
 ts:∀ i,i<r.txt.length->(r.txt.getD i []).length<=21
 gl:r.got.length<=16
 gf:Fits r.got
 sl:r.dQ.length<=16
 sf:Fits r.dQ
 ml:r.dU.length<=16
 mf:Fits r.dU
 nP:-1<=r.dW/\r.dW<=7
def qR:Array aJ:=#[ah aA 0,aj ak 0 0,aj ak 0 0,aj ak 0 0,aF aC,aF aC,ah aA 0,aj ak 0 0]
def RD (w X Y:aI) (p:Nat) (a:Option ba5) (len cap:Nat) (bs:Nat->Int) (o:Nat) (Zr:Array aJ) (A:Ra) (r:Rw) (fp:Fp):Prop:=SD w X Y p a len cap bs 44 o Zr (fP A r) (jL r) (jw A r) fp
section
variable {w X Y Y':aI} {p:Nat} {a:Option ba5} {len cap:Nat} {bs:Nat->Int} {o:Nat} {Zr:Array aJ} {A:Ra} {r:Rw} {fp:Fp}
theorem RD.drawn (h:RD w X Y p a len cap bs o Zr A r fp) (hg:Y.grownBy Y' (au p)) (hc:Cc w Y' p a len cap bs):RD w X Y' p a len cap bs o Zr A r fp:=SD.drawn h hg hc
theorem RD.step (h:RD w X Y p a len cap bs o Zr A r fp) (hb:Below Y.heap.size Y Y'):RD w X Y' p a len cap bs o Zr A r fp:=SD.step h hb
theorem RD.drewN (h:RD w X Y p a len cap bs o Zr A r fp) (n:Nat):RD w X (Y.drewN n) p a len cap bs o Zr A r fp:=SD.drewN h n
theorem RD.c8 (h:RD w X Y p a len cap bs o Zr A r fp):(Y.cell? ⟨o,0,ak⟩=au (ah aA r.ver)/\Y.cell? ⟨o,1,ak⟩=au (aj A.ta r.txt.length A.tc)/\Y.cell? ⟨o,2,ak⟩=au (aj A.ga r.got.length A.gc)/\Y.cell? ⟨o,3,ak⟩=au (aj A.sa r.dQ.length A.sc))/\Y.cell? ⟨o,4,ak⟩=au (aF r.wed)/\Y.cell? ⟨o,5,ak⟩=au (aF r.dV)/\Y.cell? ⟨o,6,ak⟩=au (ah aA r.dW)/\Y.cell? ⟨o,7,ak⟩=au (aj A.ma r.dU.length A.mc):=Bx.r8 h.own
theorem RD.ver (h:RD w X Y p a len cap bs o Zr A r fp) (x:Int):RD w X (Y.setCell ⟨o,0,ak⟩ (ah aA x)) p a len cap bs o Zr A { r with ver:=x } fp:=SD.set h 0 (ah aA x)
theorem RD.wed (h:RD w X Y p a len cap bs o Zr A r fp) (x:Bool):RD w X (Y.setCell ⟨o,4,ak⟩ (aF x)) p a len cap bs o Zr A { r with wed:=x } fp:=SD.set h 4 (aF x)
theorem RD.dV (h:RD w X Y p a len cap bs o Zr A r fp) (x:Bool):RD w X (Y.setCell ⟨o,5,ak⟩ (aF x)) p a len cap bs o Zr A { r with dV:=x } fp:=SD.set h 5 (aF x)
theorem RD.dW (h:RD w X Y p a len cap bs o Zr A r fp) (x:Int):RD w X (Y.setCell ⟨o,6,ak⟩ (ah aA x)) p a len cap bs o Zr A { r with dW:=x } fp:=SD.set h 6 (ah aA x)
theorem RD.got (h:RD w X Y p a len cap bs o Zr A r fp) {a':Option ba5} {c':Nat} {Z:List Int} {f':Fp} (hc:eF.ow Y (gQ Z) (aj a' Z.length c') f') (hf:∀ b,f' b->X.heap.size<b/\b≠o) (hd:∀ b,f' b->¬ fp b):∃ fp',RD w X (Y.setCell ⟨o,2,ak⟩ (aj a' Z.length c')) p a len cap bs o Zr { A with ga:=a',gc:=c' } { r with got:=Z } fp':=by
 obtain⟨fp',h1⟩:=SD.new h (j:=1) rfl hc hf hd;exact⟨fp',SD.set h1 2 (aj a' Z.length c')⟩
theorem RD.dQ (h:RD w X Y p a len cap bs o Zr A r fp) {a':Option ba5} {c':Nat} {Z:List Int} {f':Fp} (hc:eF.ow Y (gQ Z) (aj a' Z.length c') f') (hf:∀ b,f' b->X.heap.size<b/\b≠o) (hd:∀ b,f' b->¬ fp b):∃ fp',RD w X (Y.setCell ⟨o,3,ak⟩ (aj a' Z.length c')) p a len cap bs o Zr { A with sa:=a',sc:=c' } { r with dQ:=Z } fp':=by
 obtain⟨fp',h1⟩:=SD.new h (j:=2) rfl hc hf hd;exact⟨fp',SD.set h1 3 (aj a' Z.length c')⟩
theorem RD.dU (h:RD w X Y p a len cap bs o Zr A r fp) {a':Option ba5} {c':Nat} {Z:List Int} {f':Fp} (hc:eF.ow Y (gQ Z) (aj a' Z.length c') f') (hf:∀ b,f' b->X.heap.size<b/\b≠o) (hd:∀ b,f' b->¬ fp b):∃ fp',RD w X (Y.setCell ⟨o,7,ak⟩ (aj a' Z.length c')) p a len cap bs o Zr { A with ma:=a',mc:=c' } { r with dU:=Z } fp':=by
 obtain⟨fp',h1⟩:=SD.new h (j:=3) rfl hc hf hd;exact⟨fp',SD.set h1 7 (aj a' Z.length c')⟩
theorem RD.txt (h:RD w X Y p a len cap bs o Zr A r fp) {a':Option ba5} {c':Nat} {Z:List (List UInt8)} {f':Fp} (hc:eF.ow Y (ny Z) (aj a' Z.length c') f') (hf:∀ b,f' b->X.heap.size<b/\b≠o) (hd:∀ b,f' b->¬ fp b):∃ fp',RD w X (Y.setCell ⟨o,1,ak⟩ (aj a' Z.length c')) p a len cap bs o Zr { A with ta:=a',tc:=c' } { r with txt:=Z } fp':=by
 obtain⟨fp',h1⟩:=SD.new h (j:=0) rfl hc hf hd;exact⟨fp',SD.set h1 1 (aj a' Z.length c')⟩
theorem RD.owI (h:RD w X Y p a len cap bs o Zr A r fp):∃ f1 f2 f3 f4,eF.ow Y (ny r.txt) (aj A.ta r.txt.length A.tc) f1/\eF.ow Y (gQ r.got) (aj A.ga r.got.length A.gc) f2/\eF.ow Y (gQ r.dQ) (aj A.sa r.dQ.length A.sc) f3/\eF.ow Y (gQ r.dU) (aj A.ma r.dU.length A.mc) f4:=by
 obtain⟨u1,vU,f1,g1,e1,o1,h2,_⟩:=h.ls
 cases e1
 obtain⟨u2,xu,f2,g2,e2,o2,h3,_⟩:=h2
 cases e2
 obtain⟨u3,EJ,f3,g3,e3,o3,h4,_⟩:=h3
 cases e3
 obtain⟨u4,Oq,f4,g4,e4,o4,h5,_⟩:=h4
 cases e4
 exact⟨f1,f2,f3,f4,o1,o2,o3,o4⟩
theorem RD.am0 (h:RD w X Y p a len cap bs o Zr A r fp) {i:Nat} (hi:i<r.got.length):∃ g off,A.ga=au ⟨g,off,ak⟩/\(Y.cell? ⟨g,off+i,ak⟩=au (ah aA (el r.got i))/\Y.frozen? ⟨g,off+i,ak⟩=aC) /\
  ∀ x:Int,∃ fp',RD w X (Y.setCell ⟨g,off+i,ak⟩ (ah aA x)) p a len cap bs o Zr A { r with got:=r.got.set i x } fp':=by
 obtain⟨u,f,hu,hc,hs,hp⟩:=SD.at h (j:=1) rfl
 cases hu
 obtain⟨a',c',G,e,ho,hf⟩:=jv.1 hc
 cases e
 rcases ho.oi with ⟨e,_,_⟩|⟨g,off,e1,ho',e2⟩
 ·rw[e] at hi;exact absurd hi (Nat.not_lt_zero _)
 ·have hle:=ho'.le
  refine⟨g,off,e1,⟨?_,ho'.free i (by omega)⟩,fun x=>?_⟩
  ·have:=ho'.cell i (by omega)
   rw[this];simp[el,hi]
  ·subst e2
   have hset:=an5 ho' hi x;have:=hp (Y.setCell ⟨g,off+i,ak⟩ (ah aA x)) (gQ (r.got.set i x)) (aj A.ga (r.got.set i x).length A.gc) f ((eU.set Y g (off+i) _).mono (fun b _ e=>(hf b).2 (by rw[e]))) (jv.2 ⟨_,_,au g,rfl,by rw[aV3,e1];exact iV.of hset,hf⟩) (fun b hb=>.inl hb)
   obtain⟨fp',h1⟩:=this;refine⟨fp', ?_⟩;have e3:fP A { r with got:=r.got.set i x }=fP A r:=by simp[fP]
   unfold RD;rw[e3];exact h1
theorem RD.app (h:RD w X Y p a len cap bs o Zr A r fp) (i0:TypeInfo) (hi0:Tryz.prog.info? 9=au i0) (hz0:i0.zero=au (.string ⟨#[]⟩)) (hz1:i0.size=1) (hz2:i0.bytes=16) (s:List UInt8) (hl:r.txt.length<=1000) :
  ∀ Z,Same Z (Y.alloc (aH #[aN (sv s)] 9))->∃ v' w4,(aV5 #[42,42] 42 #[aj A.ta r.txt.length A.tc,aj (au ⟨Y.heap.size,0,ak⟩) 1 1]).run aZ8 Z=.ok v' w4 /\
   ∃ a' c',v'=aj a' (r.txt.length+1) c'/\w4.cell? ⟨o,1,ak⟩=au (aj A.ta r.txt.length A.tc)/\w4.frozen? ⟨o,1,ak⟩=aC/\∃ fp',RD w X (w4.setCell ⟨o,1,ak⟩ (aj a' (r.txt.length+1) c')) p a len cap bs o Zr { A with ta:=a',tc:=c' } { r with txt:=r.txt++[s] } fp':=by
 intro Z hZ;have nO:=(dX Y _).trans (hZ.below.mono (dX Y _).size);have hD:=h.step nO;obtain⟨u,f,hu,hc,hs,hp⟩:=SD.at hD (j:=0) rfl
 cases hu
 obtain⟨ta',tc',G,e,ho,hf⟩:=qI.1 hc
 cases e
 have hnew:Z.heap[Y.heap.size]?=au (aH #[aN (sv s)] 9):=by rw[hZ.heap];exact heap_alloc_new Y _
 obtain⟨a',c',G',w4,hr,ho',hg,hat⟩:=nU (P:=aZ8) Z 42 42 9 i0 _ 1 16 Tryz.underlying42 hi0 hz0 hz1 hz2 rfl (by omega) A.ta r.txt.length A.tc (sO r.txt) G ho (au ⟨Y.heap.size,0,ak⟩) 1 1 [aN (sv s)] rfl (.inr ⟨_,rfl,World.news_of_block (cs:=#[aN (sv s)]) (t:=9) (fr:=(0,0)) hnew⟩) (by simp[aX4]) (by unfold ba2;omega) (by omega)
 have hw4:eU f Z w4:=(eU.l7 hg).mono (fun b _ e=>(hf b).2 e)
 have hno:¬ f o:=fun e=>(hD.kJ o (hs o e)).2 rfl
 have k0:=hD.own.wrt hw4 hno;have aC5:(r.txt++[s]).length=r.txt.length+1:=by simp
 obtain ⟨fp',h1⟩ := hp w4 (ny (r.txt ++ [s])) (aj a' (r.txt.length + 1) c') (fun b => G' = au b) hw4 (qI.2 ⟨a',c',G',by rw [aC5],by rw [an6,aC5];exact ho',fun b => Iff.rfl⟩) (fun b hb => by
  rcases hat with e|e
  ·exact .inl ((hf b).2 (e ▸ hb))
  ·rw[e] at hb;cases hb;exact .inr (aZ0 _))
 refine⟨_,w4,hr,a',c',rfl,k0.at 1 rfl,k0.f 1,fp', ?_⟩;have h2:=SD.set h1 1 (aj a' (r.txt.length+1) c');unfold RD;have e1:fP { A with ta:=a',tc:=c' } { r with txt:=r.txt++[s] }=(fP A r).setIfInBounds 1 (aj a' (r.txt.length+1) c'):=by simp[fP]
 have e2:jw { A with ta:=a',tc:=c' } { r with txt:=r.txt++[s] }=(jw A r).set 0 (aj a' (r.txt.length+1) c'):=by simp[jw]
 rw[e1,e2];exact h2
theorem RD.ans (h:RD w X Y p a len cap bs o Zr A r fp) {x0 x1 x2 x3 x4 x5 x6 x7:aJ}:gq ((((((((Y.setCell ⟨X.heap.size,0,ak⟩ x0).setCell ⟨X.heap.size,1,ak⟩ x1).setCell ⟨X.heap.size,2,ak⟩ x2).setCell ⟨X.heap.size,3,ak⟩ x3).setCell ⟨X.heap.size,4,ak⟩ x4).setCell ⟨X.heap.size,5,ak⟩ x5).setCell ⟨X.heap.size,6,ak⟩ x6).setCell ⟨X.heap.size,7,ak⟩ x7) (jL r) (jw A r) fp/\(∀ b,fp b->X.heap.size<=b)/\Cc w ((((((((Y.setCell ⟨X.heap.size,0,ak⟩ x0).setCell ⟨X.heap.size,1,ak⟩ x1).setCell ⟨X.heap.size,2,ak⟩ x2).setCell ⟨X.heap.size,3,ak⟩ x3).setCell ⟨X.heap.size,4,ak⟩ x4).setCell ⟨X.heap.size,5,ak⟩ x5).setCell ⟨X.heap.size,6,ak⟩ x6).setCell ⟨X.heap.size,7,ak⟩ x7) p a len cap bs/\X.grownBy ((((((((Y.setCell ⟨X.heap.size,0,ak⟩ x0).setCell ⟨X.heap.size,1,ak⟩ x1).setCell ⟨X.heap.size,2,ak⟩ x2).setCell ⟨X.heap.size,3,ak⟩ x3).setCell ⟨X.heap.size,4,ak⟩ x4).setCell ⟨X.heap.size,5,ak⟩ x5).setCell ⟨X.heap.size,6,ak⟩ x6).setCell ⟨X.heap.size,7,ak⟩ x7) (au p):=SD.ans h (J8 Y X.heap.size)
theorem RD.r8 (h:RD w X Y p a len cap bs o qR A r fp):(Y.cell? ⟨X.heap.size,0,ak⟩=au (ah aA 0)/\Y.cell? ⟨X.heap.size,1,ak⟩=au (aj ak 0 0)/\Y.cell? ⟨X.heap.size,2,ak⟩=au (aj ak 0 0)/\Y.cell? ⟨X.heap.size,3,ak⟩=au (aj ak 0 0))/\Y.cell? ⟨X.heap.size,4,ak⟩=au (aF aC)/\Y.cell? ⟨X.heap.size,5,ak⟩=au (aF aC)/\Y.cell? ⟨X.heap.size,6,ak⟩=au (ah aA 0)/\Y.cell? ⟨X.heap.size,7,ak⟩=au (aj ak 0 0):=Bx.r8 h.res
theorem RD.f8 (h:RD w X Y p a len cap bs o Zr A r fp):(Y.frozen? ⟨X.heap.size,0,ak⟩=aC/\Y.frozen? ⟨X.heap.size,1,ak⟩=aC/\Y.frozen? ⟨X.heap.size,2,ak⟩=aC/\Y.frozen? ⟨X.heap.size,3,ak⟩=aC)/\Y.frozen? ⟨X.heap.size,4,ak⟩=aC/\Y.frozen? ⟨X.heap.size,5,ak⟩=aC/\Y.frozen? ⟨X.heap.size,6,ak⟩=aC/\Y.frozen? ⟨X.heap.size,7,ak⟩=aC:=Bx.f8 h.res
theorem RD.fo (h:RD w X Y p a len cap bs o Zr A r fp) (i:Nat):Y.frozen? ⟨o,i,ak⟩=aC:=h.own.f i
end
theorem RD.aK3 {Y: aI} {p: Nat} {a: Option ba5} {cap: Nat} {bs: Nat->Int} {o: Nat} {r: Rw} {fp: Fp} (h:RD w X Y p a len cap bs o Zr A r fp) (hf:Fits r.got) (hl:r.got.length<=1000) (i0:TypeInfo) (hi0:Tryz.prog.info? 2=au i0) (hz0:i0.zero=au (ah aA 0)) (hz1:i0.size=1) (hz2:i0.bytes=8) :
  ∀ Z,Same Z (Y.alloc (aH #[] 2))->∃ v' w4,(aV5 #[41,41] 41 #[aj (au ⟨Y.heap.size,0,ak⟩) 0 0,aj A.ga r.got.length A.gc]).run aZ8 Z=.ok v' w4 /\
   ∃ a' c',v'=aj a' r.got.length c'/\w4.cell? ⟨o,7,ak⟩=au (aj A.ma r.dU.length A.mc)/\w4.frozen? ⟨o,7,ak⟩=aC/\∃ fp',RD w X (w4.setCell ⟨o,7,ak⟩ (aj a' r.got.length c')) p a len cap bs o Zr { A with ma:=a',mc:=c' } { r with dU:=r.got } fp':=by
 intro Z hZ;have nO:=(dX Y _).trans (hZ.below.mono (dX Y _).size);have hD:=h.step nO;obtain⟨_,f2,_,_,_,ho2,_,_⟩:=hD.owI;obtain⟨a6,c6,w6,LC,I9,Ja,hw6,D9⟩:=yg (P:=aZ8) (w:=Z) 41 41 2 i0 dK hi0 hz0 hz1 hz2 (kV Y.heap.size 0) (x:=A.ga) (c:=A.gc) (tu ho2 hf).vec (by omega)
 have hb6:Below Z.heap.size Z w6:=hw6.below (aZ5 _ _) (aZ0 _) (fun b h=>absurd h id)
 have hE:=hD.step hb6;have hol:=hD.own.lt;have hXo:=h.ho;obtain⟨fp',h2⟩:=RD.dU hE (a':=a6) (c':=c6) (Z:=r.got) Ja (fun b hb=>by have:=D9 b hb;omega) (fun b hb hfp=>by have:=D9 b hb;have:=jh hD.ls b hfp;omega)
 exact⟨_,w6,I9,a6,c6,rfl,hE.c8.2.2.2.2,hE.fo 7,fp',h2⟩
theorem RD.aO0 {Y: aI} {p: Nat} {a: Option ba5} {cap: Nat} {bs: Nat->Int} {o: Nat} {r: Rw} {fp: Fp} (h:RD w X Y p a len cap bs o Zr A r fp) (hf:Fits r.dQ) (hl:r.dQ.length<=100) (n:Int) :
  ba3 aZ8 106 #[aj A.sa r.dQ.length A.sc,ah aA n] Y fun e w'=>∃ a' c',e=aK (aj a' (gY r.dQ n).length c')/\Below Y.heap.size Y w'/\∃ fp',RD w X (w'.setCell ⟨o,3,ak⟩ (aj a' (gY r.dQ n).length c')) p a len cap bs o Zr { A with sa:=a',sc:=c' } { r with dQ:=gY r.dQ n } fp':=by
 obtain⟨_,_,f3,_,_,_,ho3,_⟩:=h.owI;have hv:=tu ho3 hf;refine (Oi A.sa A.sc r.dQ n Y hv.vec hv.nn hv.le hv.mx (by omega) hv.pl).mono ?_
 rintro e w' (⟨rfl,h1,rfl⟩|hA)
 ·refine⟨A.sa,A.sc,by rw[h1],aZ5 _ _,fp, ?_⟩
  have h2:=SD.set h 3 (aj A.sa r.dQ.length A.sc);have e1:(fP A r).setIfInBounds 3 (aj A.sa r.dQ.length A.sc)=fP A r:=by simp[fP]
  rw[e1] at h2;rw[h1];exact h2
 ·obtain⟨g,off,c,rfl,hg,ho,hb⟩:=hA
  have hD:=h.step hb;have hol:=h.own.lt;have hXo:=h.ho;obtain⟨fp',h2⟩:=RD.dQ hD (a':=au ⟨g,off,ak⟩) (c':=c) (Z:=gY r.dQ n) (f':=fun b=>b=g) (jv.2 ⟨_,c,au g,rfl,iV.of ho,fun b=>by simp[eq_comm]⟩) (fun b hb=>by omega) (fun b hb hfp=>by have:=jh h.ls b hfp;omega)
  exact⟨_,c,rfl,hb,fp',h2⟩
section
def nP (l:List UInt8):List aJ:=l.map (fun b=>aZ9 .u8 (b.toNat:Int))
theorem ap5 (a b:List UInt8):nP (a++b)=nP a++nP b:=by simp[nP]
theorem SN (l:List UInt8):(nP l).length=l.length:=by simp[nP]
def BD (w:aI) (g off n cap:Nat) (l:List UInt8):Prop:=jk w 1 g off n cap (nP l)
theorem BD.length {n cap: Nat} {l: List UInt8} (h:BD w g off n cap l):l.length=n:=by have:=h.len;rw[SN] at this;omega
theorem BD.cellAt {n cap: Nat} {l: List UInt8} (h:BD w g off n cap l) (hi:i<l.length):w.cell? ⟨g,off+i,ak⟩=au (ah .u8 (l[i].toNat:Int)):=by
 have hl:=h.length;rw[h.cell i (by omega)]
 simp[nP,hi]
theorem Xz (w:aI) (T:TypeId):BD (w.alloc (aH #[] T)) w.heap.size 0 0 0 [] :=
 ⟨rfl,aZ0 _,aZ1 _,by simp,fun i hi=>by omega,fun i hi=>by omega,fun i hi=>by omega⟩
theorem ap6 {n m cap: Nat} {l r: List UInt8} (h:jk w 1 g off (n+m) cap (nP l++nP r)):BD w g off (n+m) cap (l++r):=by unfold BD;rw[ap5];exact h
theorem BD.set {n cap: Nat} {l: List UInt8} (h:BD w g off n cap l) (hi:i<n) (b:UInt8):BD (w.setCell ⟨g,off+i,ak⟩ (ah .u8 (b.toNat:Int))) g off n cap (l.set i b):=by
 have hl:=h.length;have hc:=h.cellAt (i:=i) (by omega)
 refine⟨by rw[SN];simp[hl],h.le,h.max,by simp[World.setCell];exact h.blk,fun j hj=>?_,fun j hj=>?_,fun j hj=>by rw[World.frozen?_setCell];exact h.free j hj⟩
 ·by_cases e:i=j
  ·subst e
   rw[World.cell?_setCell_same _ _ _ hc];simp[nP,show i<l.length by omega]
  ·rw[bg _ _ _ _ (by simp[e]),h.cell j hj]
   simp[nP,e]
 ·by_cases e:i=j
  ·subst e
   rw[World.cell?_setCell_same _ _ _ hc];rfl
  ·rw[bg _ _ _ _ (by simp[e])];exact h.some j hj
theorem BD.str {cap: Nat} {l: List UInt8} (h:BD w g off l.length cap l):(convert 22 9 (aj (au ⟨g,off,ak⟩) l.length cap)).run aZ8 w=.ok (aN (sv l)) w :=
 run_convert_bytes_back (P:=aZ8) w 22 9 5 ⟨g,off,ak⟩ cap l aT8 Tryz.underlying5 Tryz.underlying9 (fun j hj=>by rw[zS];exact h.cellAt hj)
structure Lb (w wr:aI) (p:Nat) (a:Option ba5) (len cap g f c:Nat) (l:List UInt8):Prop where
 out:BD wr g f l.length c l
 new:w.heap.size<=g
 cur:jM wr p a len cap
 grown:w.grownBy wr (au p)
theorem Lb.step {wr wx: aI} {p: Nat} {a: Option ba5} {cap c: Nat} {l: List UInt8} (h:Lb w wr p a len cap g f c l) (hpl:p<w.heap.size) (hc:jM wx p a len cap) (hg:wr.grownBy wx (au p)):Lb w wx p a len cap g f c l :=
 ⟨jk.grown h.out hg (by have:=h.new;simp;omega),h.new,hc,fQ h.grown hg⟩
theorem Lb.yU {wr: aI} {p: Nat} {a: Option ba5} {cap c: Nat} {l: List UInt8} {bs: Nat->Int} (h:Lb w wr p a len cap g f c l) (hv:oC w a len bs) (hp:Ez a len p):oC wr a len bs:=hv.grown h.grown hp
theorem Lb.push {wr w6: aI} {p: Nat} {a: Option ba5} {cap c g6 f6 c6: Nat} {l r: List UInt8} (h:Lb w wr p a len cap g f c l) (hpl:p<w.heap.size) (o:Obj) (hO:jk w6 1 g6 f6 (l.length+r.length) c6 (nP l++nP r)) (hg:(wr.alloc o).grownBy w6 (au g)) (hat:g6=g\/g6=(wr.alloc o).heap.size):Lb w w6 p a len cap g6 f6 c6 (l++r):=by
 have hs:=h.grown.size;have hn:=h.new;refine⟨by rw[dB];exact ap6 hO, ?_, ?_, ?_⟩
 ·rcases hat with e|e
  ·rw[e];exact h.new
  ·rw[e];simp;omega
 ·exact (h.cur.alloc o).grown hg (by simp;omega)
 ·exact zA (zA h.grown (World.grownBy_alloc wr o ak) (by simp)) hg (fun k hk=>by cases hk;exact h.new)
theorem Lb.set {w wr:aI} {p:Nat} {a:Option ba5} {len cap g f c i:Nat} {l:List UInt8} (h:Lb w wr p a len cap g f c l) (hpl:p<w.heap.size) (hi:i<l.length) (b:UInt8):Lb w (wr.setCell ⟨g,f+i,ak⟩ (ah .u8 (b.toNat:Int))) p a len cap g f c (l.set i b) :=
 ⟨by rw[aV3];exact h.out.set hi b,h.new,h.cur.set (by have:=h.new;omega) _ _,EC h.grown h.new _ _⟩
theorem am1 {x: Int} (h0:0<=x) (h1:x<=255):((UInt8.ofNat x.toNat).toNat:Int)=x:=by rw[UInt8.toNat_ofNat'];omega
attribute [local irreducible] sv
theorem PL (p:Nat) (a:Option ba5) (len cap:Nat) (bs:Nat->Int) (most:Nat) (w:aI) (hcur:jM w p a len cap) (hv:oC w a len bs) (hp:Ez a len p) (hl:len<=4096) (aR2:most<=1000) :
  ba3 aZ8 64 #[aO (au ⟨p,0,ak⟩),ah aA (most:Int)] w fun e w'=>∃ l:List UInt8,l.length<=most/\e=aK (aN (sv l))/\jM w' p a len cap/\w.grownBy w' (au p):=by
 obtain⟨i0,hi0,hz0,hz1,hz2⟩:=info_parts Tryz.info5;have hpl:=hcur.lt;have L0:Lb w (w.alloc (aH #[] 5)) p a len cap w.heap.size 0 0 []:=⟨Xz w 5,aZ0 _,hcur.alloc _,World.grownBy_alloc w _ _⟩;go_enter Tryz.func64,Tryz.ntmps64
 go_wp2_with fail
 refine (pI p a len cap bs ((most:Int)+1) _ L0.cur (L0.yU hv hp) hp hl (by omega)).mono ?_
 rintro e w1 ⟨x,rfl,hx0,hx1,_,hc1,hg1⟩;have hxm:=hx1 (by omega)
 obtain⟨N,hN⟩:∃ N:Nat,x=(N:Int):=⟨x.toNat,by omega⟩
 subst hN;have zl:=dP (L0.step hpl hc1 hg1);clear L0 hx0 hx1 hc1 hg1;go_wp2
 go_loopw [5,6] (fun b n wr=>∃ (l:List UInt8) (g f c M:Nat),n=ah aA (M:Nat)/\b=aj (au ⟨g,f,ak⟩) l.length c/\l.length+M<=most/\Lb w wr p a len cap g f c l) (fun _ n _=>(ba4 n).toNat)
 case atStart=>exact⟨[],w.heap.size,0,0,N,rfl,rfl,by simp;omega,zl.out⟩
 case round =>
  obtain⟨l,g,f,c,M,rfl,rfl,hlm,hL⟩:=hrel;have KL:=dP hL;clear hL zl;rcases Nat.eq_zero_or_pos M with h0|hpos
  ·subst h0
   go_wp2_with fail
   refine (Dj p a len cap bs 7 wr KL.out.cur (KL.out.yU hv hp) hp hl (by omega)).mono ?_
   rintro e w2 ⟨x,rfl,hc2,hg2⟩;have K2:=dP (KL.out.step hpl hc2 hg2);clear hc2 hg2;by_cases hx:x=aB/\0<l.length
   ·obtain⟨rfl,hlp⟩:=hx
    have GZ:(0:Int)<l.length:=by omega
    go_wp2_with fail
    refine (pI p a len cap bs (l.length:Int) w2 K2.out.cur (K2.out.yU hv hp) hp hl (by omega)).mono ?_
    rintro e w3 ⟨y,rfl,hy0,hy1,_,hc3,hg3⟩;have hyl:=hy1 (by omega)
    obtain⟨k,hk⟩:∃ k:Nat,y=(k:Int):=⟨y.toNat,by omega⟩
    subst hk;have K3:=dP (K2.out.step hpl hc3 hg3);clear hy0 hy1 hc3 hg3;go_wp2_with fail
    refine (xH p a len cap bs w3 K3.out.cur (K3.out.yU hv hp) hp hl).mono ?_;rintro e w4 ⟨z,rfl,aO1,aK4,hc4,hg4⟩;have K4:=dP (K3.out.step hpl hc4 hg4);have hkl:k<l.length:=by omega
    have c1:=K4.out.out.cellAt hkl;have f1:=K4.out.out.free k (by have:=K4.out.out.le;omega)
    have K5:=K4.out.set hpl hkl (UInt8.ofNat z.toNat);rw[am1 aO1 aK4] at K5;have hstr:=K5.out.str;rw[aV3] at hstr;have hyi:(0:Int)<=k:=by omega
    have K5':aG (jM (w4.setCell ⟨g,f+k,ak⟩ (ah .u8 z)) p a len cap/\w.grownBy (w4.setCell ⟨g,f+k,ak⟩ (ah .u8 z)) (au p)):=⟨K5.cur,K5.grown⟩;clear hc4 hg4 K5;go_wp2;go_ret
    exact⟨l.set k (UInt8.ofNat z.toNat),by rw[aV3];omega,rfl,K5'.out.1,K5'.out.2⟩
   ·have hstr:=K2.out.out.str
    have K2':aG (jM w2 p a len cap/\w.grownBy w2 (au p)):=⟨K2.out.cur,K2.out.grown⟩
    cases x
    ·clear hx
     go_wp2;go_ret
     exact⟨l,by omega,rfl,K2'.out.1,K2'.out.2⟩
    ·have GZ:l.length=0:=by
      rcases Nat.eq_zero_or_pos l.length with h|h
      ·exact h
      ·exact absurd ⟨rfl,h⟩ hx
     rw[GZ] at hstr;rw[GZ];clear hx;go_wp2;go_ret
     exact⟨l,by omega,rfl,K2'.out.1,K2'.out.2⟩
  ·have XC:(0:Int)<M:=by omega
   go_wp2_with fail
   refine (pI p a len cap bs 3 wr KL.out.cur (KL.out.yU hv hp) hp hl (by omega)).mono ?_
   rintro e w2 ⟨x,rfl,hx0,hx1,_,hc2,hg2⟩;have hx3:=hx1 (by omega)
   have K2:=dP (KL.out.step hpl hc2 hg2);have hu:=am1 (x:=97+x) (by omega) (by omega)
   have Jh:jk (w2.alloc (aH #[ah .u8 (97+x)] 5)) 1 g f l.length c (nP l):=jk.below K2.out.out ((aZ5 _ _).alloc (aZ0 _) _) K2.out.out.blk;clear hx1 hc2 hg2;go_wp2_with (at_builtin;refine iH _ rfl _ _ 22 rfl 5 i0 _ 1 1 aT8 hi0 hz0 hz1 hz2 rfl (by omega) g f l.length c _ rfl Jh ⟨w2.heap.size,0,ak⟩ 1 1 [ah .u8 (97+x)] rfl rfl (World.news_of_block (cs:=#[ah .u8 (97+x)]) (t:=5) (fr:=(0,0)) (heap_alloc_new _ _)) (by simp[aX4]) (by unfold ba2;omega) (by omega) ?_;intro g6 f6 c6 w6 CP zq xR)
   have hO7:jk w6 1 g6 f6 (l.length+[UInt8.ofNat (97+x).toNat].length) c6 (nP l++nP [UInt8.ofNat (97+x).toNat]):=by
    have e:nP [UInt8.ofNat (97+x).toNat]=[ah .u8 (97+x)]:=by simp only[nP,List.map_cons,List.map_nil,hu]
    rw[e];exact CP
   have K7:=K2.out.push hpl _ hO7 zq xR;go_roundw
   case rel=>exact⟨l++[UInt8.ofNat (97+x).toNat],g6,f6,c6,M-1,by go_num,by rw[dB];rfl,by rw[dB];simp;omega,K7⟩
   case measure=>simp[ba4];omega
end
section
theorem DF (most:Nat) (n:Int) (hn:n=(most:Int)) (hm:most<=1000) {p: Nat} {a: Option ba5} {cap: Nat} {bs: Nat->Int} (h:Cc w X p a len cap bs) :
  ba3 aZ8 64 #[aO (au ⟨p,0,ak⟩),ah aA n] X fun e w'=>∃ l:List UInt8,e=aK (aN (sv l))/\l.length<=most/\Cc w w' p a len cap bs/\X.grownBy w' (au p):=by
 subst hn;refine (PL p a len cap bs most X h.cur h.yU h.off h.hl hm).mono ?_;rintro e w' ⟨l,h1,rfl,hc,hg⟩;exact⟨l,rfl,h1,h.drawn hg hc,hg⟩
theorem Jw {T: List (List UInt8)} {s: List UInt8} {n: Nat} (h:(∀ i,i<T.length->(T.getD i []).length<=n)) (hs:s.length<=n):∀ i,i<(T++[s]).length->((T++[s]).getD i []).length<=n:=fun i hi=>by
 rw[dB,List.length_singleton] at hi;by_cases e:i<T.length
 ·have:=h i e
  simpa[aV,List.getElem?_append_left e] using this
 ·obtain rfl:i=T.length:=by omega
  simpa[aV] using hs
theorem aa1 (n:Nat) (hn:n<=1048576) (w:aI) :
  (Instr.makeSlice 22 (ah aA (n:Int)) (ah aA (n:Int))).run aZ8 w=.ok (aj (au ⟨w.heap.size,0,ak⟩) n n) (w.alloc (aH (madeCells #[ah .u8 0] n) 5)):=by
 obtain⟨i,hi,hz,hs,hb⟩:=yh Tryz.info5;have hr:=run_make (P:=aZ8) w 22 5 i _ aT8 hi hz aA aA n n (by omega) (Int.le_refl _) (by rw[hb];omega) (by omega)
 simp only[Int.toNat_natCast,hs,Nat.mul_one] at hr;exact hr
theorem aa2 (w:aI) (n:Nat) (hn:n<=1048576):(convert 22 9 (aj (au ⟨w.heap.size,0,ak⟩) n n)).run aZ8 (w.alloc (aH (madeCells #[ah .u8 0] n) 5))=.ok (aN (sv (aW5 n 0))) (w.alloc (aH (madeCells #[ah .u8 0] n) 5)):=by
 have h:=Dn w #[ah .u8 0] 1 n 5 rfl (by omega) (by unfold ba2;omega)
 have e:nP (aW5 n 0)=(aW5 n (#[aZ9 .u8 0]:Array aJ).toList).flatten:=by
  simp only[nP,List.map_replicate]
  clear h hn
  induction n with
  | zero=>rfl
  | succ n ih=>rw[dw,dw,List.flatten_cons,<- ih];rfl
 rw[<- e,Nat.mul_one] at h;have h2:BD (w.alloc (aH (madeCells #[ah .u8 0] n) 5)) w.heap.size 0 (aW5 n (0:UInt8)).length n (aW5 n 0):=by rw[bM];exact h
 have h3:=h2.str;rw[bM] at h3;exact h3
theorem ap7 (xs:List Int) (n:Int):(gY xs n).length<=xs.length+1:=by
 induction xs with
 | nil=>simp[gY]
 | cons x l ih =>
  unfold gY
  split
  ·simp;omega
  ·split
   ·simp
   ·simp
theorem aa3 {xs: List Int} {n: Int} (h:Fits xs) (hn:-9223372036854775808<=n/\n<=9223372036854775807):Fits (gY xs n):=fun x hx=>by
 rcases nV.1 hx with e|e
 ·rw[e];exact hn
 ·exact h x e
theorem XD (n:Int):(jV n).dQ.length=0:=by
 unfold jV
 split<;>rfl
theorem aa4 (n:Int):uK (jV n)/\(jV n).txt.length=0:=by
 unfold jV
 split
 ·rename_i h
  have:=iQ.1 h;exact⟨⟨by simp,by simp,fun i hi=>by simp at hi,by simp;omega,fun x hx=>by have:=List.eq_of_mem_replicate hx;omega,by simp,fun x hx=>absurd hx aU9,by simp,fun x hx=>absurd hx aU9,by simp⟩,rfl⟩
 ·exact⟨⟨by simp[nJ],by simp[nJ],fun i hi=>by simp[nJ] at hi,by simp[nJ],fun x hx=>absurd hx aU9,by simp[nJ],fun x hx=>absurd hx aU9,by simp[nJ],fun x hx=>absurd hx aU9,by simp[nJ]⟩,rfl⟩
attribute [local irreducible] sv
theorem DI (N:Nat) (n:Int) (hN:n=(N:Int)) (G6:N<=5) {p: Nat} {a: Option ba5} {cap: Nat} {bs: Nat->Int} (h:Cc w X p a len cap bs) :
  ba3 aZ8 63 #[aO (au ⟨p,0,ak⟩),ah aA n] X fun e X'=>∃ (A:Ra) (r:Rw) (fp:Fp),e=aK (iK A r)/\uK r/\gq X' (jL r) (jw A r) fp/\(∀ b,fp b->X.heap.size<=b)/\Cc w X' p a len cap bs/\X.grownBy X' (au p):=by
 subst hN;have fU:Tryz.prog.follows .mixedOrders=aB:=by kernel_rfl
 obtain⟨i0,hi0,hz0,hz1,hz2⟩:=yh Tryz.info9;have b1:=dX X (aH #[ah aA 0,aj ak 0 0,aj ak 0 0,aj ak 0 0,aF aC,aF aC,ah aA 0,aj ak 0 0] 44);have c1:=h.step b1;have HR:aG (Bx (X.alloc (aH #[ah aA 0,aj ak 0 0,aj ak 0 0,aj ak 0 0,aF aC,aF aC,ah aA 0,aj ak 0 0] 44)) X.heap.size 44 #[ah aA 0,aj ak 0 0,aj ak 0 0,aj ak 0 0,aF aC,aF aC,ah aA 0,aj ak 0 0]):=Bx.new _ _ _;have hpl:=h.lt;have hC:=Og (N:Int) (X.alloc (aH #[ah aA 0,aj ak 0 0,aj ak 0 0,aj ak 0 0,aF aC,aF aC,ah aA 0,aj ak 0 0] 44));obtain⟨hsm,ht0⟩:=aa4 (N:Int);have hu0:=XD (N:Int);generalize jV (N:Int)=r0 at *;have HT0:aG (r0.txt.length=0/\r0.dQ.length=0):=⟨ht0,hu0⟩;clear ht0 hu0;unfold NM iK fP at hC;have wS:aG (Cc w _ p a len cap bs):=c1;have HB1:aG (Below X.heap.size X _):=b1;clear c1 b1;go_enter Tryz.func63,Tryz.ntmps63
 go_wp2_with fail
 refine hC.mono ?_;rintro e X2 ⟨A0,rfl,zu,ho0,hf0,hb0⟩
 have R0:RD w X (X2.alloc (aH #[ah aA r0.ver,aj A0.ta r0.txt.length A0.tc,aj A0.ga r0.got.length A0.gc,aj A0.sa r0.dQ.length A0.sc,aF r0.wed,aF r0.dV,ah aA r0.dW,aj A0.ma r0.dU.length A0.mc] 44)) p a len cap bs X2.heap.size qR A0 r0 zu:=by
  have hs2:=hb0.size;rw[aU1] at hs2;have hb3:=dX X2 (aH (fP A0 r0) 44);exact⟨(wS.out.step hb0).step hb3,(HR.out.below hb0).below hb3,Bx.new _ _ _,gy ho0 hb3,fun b hb=>⟨by have:=hf0 b hb;rw[aU1] at this;omega,by have:=jh ho0 b hb;omega⟩,hpl,by omega,fQ (World.grownBy_alloc X _ _) (fQ ⟨hb0.os,hb0.tape,hb0.output,hb0.size,fun x hx _=>hb0.block x hx⟩ (World.grownBy_alloc _ _ _))⟩
 have hB1:=jR 6 6 rfl R0.cc (by omega) (by omega)
 have HR0:=dP R0;clear R0 hC wS HB1 HR ho0 hf0 hb0;go_wp2_with fail
 refine hB1.mono ?_;rintro e Y1 ⟨v,rfl,hv,c2,g1⟩;have R1:=HR0.out.drawn g1 c2;obtain⟨⟨x0,_⟩,_⟩:=R1.c8;have x1:=R1.fo 0;have R2:=R1.ver (v:Int);have hB2:=jR 4 4 rfl R2.cc (by omega) (by omega)
 obtain⟨r1,hr1⟩:∃ r1:Rw,aG (r1={ r0 with ver:=(v:Int) }):=⟨_,rfl⟩
 have HR2:aG (RD w X (Y1.setCell ⟨X2.heap.size,0,ak⟩ (ah aA (v:Int))) p a len cap bs X2.heap.size qR A0 r1 zu):=by rw[hr1.out];exact R2
 have HS2:aG (uK r1):=by rw[hr1.out];exact⟨by simp only;omega,hsm.tl,hsm.ts,hsm.gl,hsm.gf,hsm.sl,hsm.sf,hsm.ml,hsm.mf,hsm.nP⟩
 have HT2:aG (r1.txt.length=0/\r1.dQ.length=0):=by rw[hr1.out];exact HT0.out
 clear R1 R2 hB1 c2 g1 HR0 hsm HT0;go_wp2_with fail
 refine hB2.mono ?_;rintro e Y2 ⟨m,rfl,hm,c3,g2⟩;have HR3:=dP (HR2.out.drawn g2 c3);clear hB2 c3 g2 HR2 x0 x1;clear hr1;generalize X2.heap.size=o at *;go_wp2_with fail
 go_loopw [6] (fun i wr=>∃ (k:Nat) (A:Ra) (r:Rw) (fp:Fp),k<=m/\i=ah aA k/\RD w X wr p a len cap bs o qR A r fp/\uK r/\r.txt.length+k<=3/\r.dQ.length=0) (fun i _=>(ba4 i).toNat)
 case atStart=>exact⟨m,A0,r1,zu,aZ0 _,rfl,HR3.out,HS2.out,by have:=HT2.out.1;omega,HT2.out.2⟩
 case round =>
  obtain⟨k,A,r,fp,hk,rfl,hR,hS,hTk,hU⟩:=hrel;have HS:=dP hS;have HU:=dP hU;clear hS hU;by_cases hlt:0<k
  ·have k0:(0:Int)<k:=by omega
   have hR1:=hR.drewN 1;have hT:=DF 3 3 rfl (by omega) hR1.cc
   have x1:=hR.c8.1.2.1;have hlen:r.txt.length<=1000:=by omega
   have HR:=dP hR1;clear hR hR1;go_wp2_with fail
   refine lG (S:=fun X:aI=>X.cell? ⟨o,1,ak⟩=au (aj A.ta r.txt.length A.tc)) 7 fU (x1) fun hHeld=>?_
   refine fC (i:=0) rfl hHeld ?_;refine fC (i:=1) rfl hHeld ?_;refine fE (i:=2) rfl ?_;refine iy (i:=3) rfl fun K hK=>?_
   go_simp
   go_at_call 64
   refine hT.mono ?_;rintro e Y3 ⟨s,rfl,hs,c4,g4⟩;have R3:=HR.out.drawn g4 c4;refine hK.out _ _ R3.c8.1.2.1 (fun AA=>?_)
   clear hK hHeld;have hHeld:=AA;try simp only[gW]
   refine iy (i:=4) rfl fun K hK=>?_
   go_simp;refine hK.out _ _ (R3.step (dX Y3 (aH #[aN (sv s)] 9))).c8.1.2.1 (fun Fe=>?_)
   clear hK hHeld;have hHeld:=Fe;try simp only[gW]
   refine iy (i:=5) rfl fun K hK=>?_
   refine jm (by rfl) _ _ _ _ (by rfl) (aj A.ta r.txt.length A.tc) _ (by rfl) (by rfl) (R3.app i0 hi0 hz0 hz1 hz2 s hlen) ⟨rfl,rfl,rfl,rfl⟩ ?_
   rintro v' w4 ⟨a',c',rfl,q1,q2,fp',ET⟩;refine hK.out _ _ q1 (fun PN=>?_)
   clear hK hHeld;have hHeld:=PN;try simp only[gW]
   refine fC (i:=6) rfl hHeld ?_;have HRn:=dP ET;clear R3 ET c4 g4 hT;refine oH rfl fun K hK=>?_
   go_simp;refine hK.out _ _ ?_;go_wp2;go_roundw
   case rel=>exact⟨k-1,_,_,fp',by omega,by go_num,HRn.out,⟨HS.out.ver,by simp;omega,Jw HS.out.ts (by omega),HS.out.gl,HS.out.gf,HS.out.sl,HS.out.sf,HS.out.ml,HS.out.mf,HS.out.nP⟩,by simp;omega,HU.out⟩
   case measure=>simp[ba4];omega
  ·obtain rfl:k=0:=by omega
   have HR:=dP hR;have GV:aG (r.txt.length<=3):=by rw[aG];omega
   obtain⟨G,hG⟩:∃ G,aG (r.got.length=G):=⟨_,rfl⟩;have aO2:G<=16:=by have:=hG.out;have:=HS.out.gl;omega
   clear hR hTk hlt hk;go_wp2_with fail
   go_loopw [7] (fun i wx=>∃ (k:Nat) (A:Ra) (r:Rw) (fp:Fp),k<=G/\i=ah aA k/\RD w X wx p a len cap bs o qR A r fp/\uK r/\(r.txt.length<=3/\r.dQ.length=0)/\r.got.length=G) (fun i _=>G-(ba4 i).toNat)
   case atStart=>exact⟨0,A,r,fp,aZ1 _,rfl,HR.out,HS.out,⟨GV.out,HU.out⟩,hG.out⟩
   case round =>
    clear HR HS GV hG HU;obtain⟨k,A,r,fp,hk,rfl,hR,hS,⟨hT3,hU⟩,hGl⟩:=hrel;have HU:=dP hU;clear hU;have HS:=dP hS;have HT3:=dP hT3;have Ed:=dP hGl;clear hS hT3;by_cases hlt:k<G
    ·have k1:(k:Int)<r.got.length:=by omega
     have k0:(0:Int)<=k:=by omega
     have hR1:=hR.drewN 1;have hB:=jR 4 4 rfl hR1.cc (by omega) (by omega)
     have x1:=hR.c8.1.2.2.1;have HR:=dP hR1;obtain⟨ta,tc,ga,gc,sa,sc,ma,mc⟩:=A;obtain⟨g,off,hga,_⟩:=hR.am0 (show k<r.got.length by omega)
     simp only at hga
     subst hga;clear hR hR1 hGl;simp only at x1
     go_wp2_with fail
     refine lG (S:=fun X:aI=>X.cell? ⟨o,2,ak⟩=au (aj (au ⟨g,off,ak⟩) r.got.length gc)) 6 fU (x1) fun hHeld=>?_
     refine fC (i:=0) rfl hHeld ?_;refine fC (i:=1) rfl hHeld ?_;refine fE (i:=2) rfl ?_;refine fE (i:=3) rfl ?_;refine iy (i:=4) rfl fun K hK=>?_
     go_simp
     go_at_call 27
     refine hB.mono ?_;rintro e Y3 ⟨z,rfl,hz,c4,g4⟩;have R3:=HR.out.drawn g4 c4;refine hK.out _ _ R3.c8.1.2.2.1 (fun AA=>?_)
     clear hK hHeld;have hHeld:=AA;try simp only[gW]
     obtain⟨g2,off2,aC6,⟨y1,y2⟩,hput⟩:=R3.am0 (i:=k) (by have:=Ed.out;omega)
     simp only at aC6
     cases aC6
     obtain⟨fp2,ET⟩:=hput (z:Int);have HRn:=dP ET;clear ET hput R3 c4 g4 hB HR;refine fE (i:=5) rfl ?_;refine oH rfl fun K hK=>?_
     go_simp;refine hK.out _ _ ?_;go_wp2;go_roundw
     case rel=>(repeat apply Exists.intro);exact⟨⟨k+1,_,_,fp2,by omega,by go_num,HRn.out,⟨HS.out.ver,HS.out.tl,HS.out.ts,by simp only[aV3];exact HS.out.gl,N7 HS.out.gf k (by omega),HS.out.sl,HS.out.sf,HS.out.ml,HS.out.mf,HS.out.nP⟩,⟨HT3.out,HU.out⟩,by simp only[aV3];exact Ed.out⟩,rfl⟩
     case measure=>simp[ba4];omega
    ·obtain rfl:k=G:=by omega
     have x2:=hR.c8.1.2.2.1;have kn:¬ ((k:Int)<r.got.length):=by omega
     have hO:=uz 3 hR.cc (by omega)
     have HR:=dP hR;clear hR hGl hlt hk aO2;go_upto_region 11 with fail
     go_cut [44] from 39 to 44 (fun s44 wx=>∃ b:Bool,s44=aF b/\(b=aB->0<N)/\RD w X wx p a len cap bs o qR A r fp)
     case first =>
      go_wp2_with fail
      refine hO.mono ?_;rintro e Y4 ⟨t,rfl,c5,g5⟩;have HR4:=dP (HR.out.drawn g5 c5);clear hO c5 g5 HR x2 kn
      cases t with
      | false =>
       go_wp2;go_meet
       case rel=>exact⟨false,rfl,fun h=>(by cases h),HR4.out⟩
      | true =>
       by_cases hNp:0<N
       ·have hNi:(0:Int)<N:=by omega
        go_wp2;go_meet
        case rel=>exact⟨true,rfl,fun _=>hNp,HR4.out⟩
       ·have hNi:¬ ((0:Int)<N):=by omega
        go_wp2;go_meet
        case rel=>exact⟨false,rfl,fun h=>(by cases h),HR4.out⟩
     case rest =>
      obtain⟨bb,rfl,hbN,WC⟩:=hcut;have HR4:=dP WC;have PO:=dP hbN;clear WC hbN HR hO x2 kn;generalize wc=Y4 at *
      go_upto_if 44 with fail
      go_cut [44] from 45 to 64 (fun _ wx=>∃ (A:Ra) (r:Rw) (fp:Fp),RD w X wx p a len cap bs o qR A r fp/\uK r/\r.txt.length<=3)
      case first =>
       cases bb with
       | false =>
        go_wp2;go_meet
        case rel=>exact⟨A,r,fp,HR4.out,HS.out,HT3.out⟩
       | true =>
        have hNp:0<N:=PO.out rfl;have hNi:(0:Int)<N:=by omega
        have y0:=HR4.out.c8.2.1;have y1:=HR4.out.fo 4;have R5:=HR4.out.wed aB;have R6:=R5.drewN 1;have hB:=jR N (N:Int) rfl R6.cc (by omega) (by omega)
        have z1:=R5.c8.1.2.2.2;have HR6:=dP R6;clear R5 R6;go_wp2_with fail
        refine lG (S:=fun X:aI=>X.cell? ⟨o,3,ak⟩=au (aj A.sa r.dQ.length A.sc)) 7 fU (z1) fun hHeld=>?_
        refine fC (i:=0) rfl hHeld ?_;refine fC (i:=1) rfl hHeld ?_;refine fE (i:=2) rfl ?_;refine fE (i:=3) rfl ?_;refine iy (i:=4) rfl fun K hK=>?_
        go_simp
        go_at_call 27
        refine hB.mono ?_;rintro e Y5 ⟨u,rfl,hu,c6,g6⟩;have R7:=HR6.out.drawn g6 c6;have aa5:=R7.aO0 HS.out.sf (by have:=HS.out.sl;simp only;omega) (u:Int)
        simp only at aa5
        refine hK.out _ _ R7.c8.1.2.2.2 (fun AA=>?_)
        clear hK hHeld;have hHeld:=AA;try simp only[gW]
        refine iy (i:=5) rfl fun K hK=>?_
        go_simp
        go_at_call 106
        refine aa5.mono ?_;rintro e Y6 ⟨a6,c6b,rfl,hb6,LC,R8⟩;have R7b:=R7.step hb6;refine hK.out _ _ R7b.c8.1.2.2.2 (fun Fe=>?_)
        clear hK hHeld;have hHeld:=Fe;try simp only[gW]
        have q1:=R7b.c8.1.2.2.2;have q2:=R7b.fo 3;refine fC (i:=6) rfl hHeld ?_;have SQ:=dP R8;have AB:aG (uK { r with wed:=aB,dQ:=gY r.dQ (u:Int) }):=⟨HS.out.ver,HS.out.tl,HS.out.ts,HS.out.gl,HS.out.gf,by have:=ap7 r.dQ (u:Int);have:=HU.out;simp only;omega,aa3 HS.out.sf (by omega),HS.out.ml,HS.out.mf,HS.out.nP⟩
        clear R7 R7b hB aa5 R8 c6 g6 hb6 HR6;refine oH rfl fun K hK=>?_
        go_simp;refine hK.out _ _ ?_;have hO:=uz 2 SQ.out.cc (by omega)
        clear hK hHeld z1 y0 y1 q1 q2;generalize (Y6.setCell ⟨o,3,ak⟩ (aj a6 (gY r.dQ (u:Int)).length c6b))=Y7 at *;obtain⟨A7,r7,SS,hS7,HT8⟩:∃ (A7:Ra) (r7:Rw),RD w X Y7 p a len cap bs o qR A7 r7 LC/\uK r7/\aG (r7.txt.length<=3):=⟨_,_,SQ.out,AB.out,HT3.out⟩;clear SQ AB;have SQ:=dP SS;have AB:=dP hS7;clear SS hS7;go_wp2_with fail
        refine hO.mono ?_;rintro e Y8 ⟨t2,rfl,c7,g7⟩;have Cj:=dP (SQ.out.drawn g7 c7);clear hO c7 g7 SQ
        cases t2 with
        | false =>
         go_wp2;go_meet
         case rel=>exact⟨_,_,_,Cj.out,AB.out,HT8.out⟩
        | true =>
         have y0:=Cj.out.c8.2.2.1;have y1:=Cj.out.fo 5;have R10:=Cj.out.dV aB;have hB:=jR N (N:Int) rfl R10.cc (by omega) (by omega)
         have aC7:=dP R10;clear R10 Cj;go_wp2_with fail
         refine hB.mono ?_;rintro e Y9 ⟨u2,rfl,hu2,c8,g8⟩;obtain⟨i2,hi2,hw0,hw1,hw2⟩:=ku Tryz.info2n;have R11:=aC7.out.drawn g8 c8;have z0:=R11.c8.2.2.2.1;have z1:=R11.fo 6;have R12:=R11.dW (u2:Int);clear hB aC7 R11 c8 g8 y0 y1;go_upto_region 17 with fail
         clear z0 z1;generalize Y9.setCell ⟨o,6,ak⟩ (ah aA (u2:Int))=Y10 at *;have hA:=R12.aK3 AB.out.gf (by have:=AB.out.gl;simp only;omega) i2 hi2 hw0 hw1 hw2
         have z2:=R12.c8.1.2.2.1;have R13:=R12.step (dX _ (aH #[] 2));have z3:=R13.c8.1.2.2.1;clear R12 R13;simp only at hA z2 z3
         go_wp2_with (at_builtin;refine fJ (by rfl) _ _ _ _ (by rfl) _ _ (by rfl) (by rfl) hA ⟨rfl,rfl,rfl,rfl⟩ ?_;rintro v14 w14 ⟨a14,c14,rfl,q1,q2,aS1,aC8⟩;have aO3:aG (∃ (A:Ra) (r:Rw) (fp:Fp),RD w X (w14.setCell ⟨o,7,ak⟩ (aj a14 r7.got.length c14)) p a len cap bs o qR A r fp/\uK r/\r.txt.length<=3):=⟨_,_,_,aC8,⟨AB.out.ver,AB.out.tl,AB.out.ts,AB.out.gl,AB.out.gf,AB.out.sl,AB.out.sf,AB.out.gl,AB.out.gf,by simp only;omega⟩,HT8.out⟩;clear aC8 hA z2 z3)
         go_meet
         case rel=>exact aO3.out
      case rest =>
       clear HS HT3 HU Ed HR4 PO;obtain⟨A,r,fp,hR,hS,hT⟩:=hcut;have HS:=dP hS;have HT:=dP hT;have hO:=uz 12 hR.cc (by omega)
       have HR:=dP hR;clear hR hS hT;go_wp2_with fail
       refine hO.mono ?_;rintro e Z1 ⟨t,rfl,c5,g5⟩;have HR1:=dP (HR.out.drawn g5 c5);clear hO c5 g5 HR
       go_upto_if 66 with fail
       go_cut [66] from 67 to 112 (fun _ wx=>∃ (A:Ra) (r:Rw) (fp:Fp),RD w X wx p a len cap bs o qR A r fp/\uK r)
       case first =>
        cases t with
        | false =>
         go_wp2;go_meet
         case rel=>exact⟨A,r,fp,HR1.out,HS.out⟩
        | true =>
         have hB:=jR 6 6 rfl HR1.out.cc (by omega) (by omega)
         go_wp2_with fail
         refine hB.mono ?_;rintro e Z2 ⟨y,rfl,hy,c6,g6⟩;have R2:=HR1.out.drawn g6 c6;clear hB c6 g6 HR1;obtain rfl|rfl|rfl|rfl|rfl|rfl:y=0\/y=1\/y=2\/y=3\/y=4\/y=5:=by omega
         ·have R3:=R2.step (dX Z2 (aH #[ah aA (-1),ah aA 1000000,ah aA 1000001] 2))
          have hB3:=jR 3 3 rfl R3.cc (by omega) (by omega)
          have hq:=Bx.new Z2 2 #[ah aA (-1),ah aA 1000000,ah aA 1000001];have hpZ:=R2.cc.lt;have HR3:=dP R3;clear R2 R3;go_wp2_with fail
          refine hB3.mono ?_;rintro e Z3 ⟨z,rfl,hz,c7,g7⟩;have R4:=HR3.out.drawn g7 c7;have hq7:=hq.grown g7 (by simp;omega)
          have d0:=R4.c8.1.1;have d2:=R4.fo 0;have HR4:=dP R4;clear hB3 c7 g7 HR3 hq R4;obtain rfl|rfl|rfl:z=0\/z=1\/z=2:=by omega
          ·have hqc:Z3.cell? ⟨Z2.heap.size,0,ak⟩=au (ah aA (-1)):=hq7.at 0 rfl
           clear hq7;go_wp2;go_meet
           case rel=>exact⟨A,_,fp,HR4.out.ver (-1),⟨by simp only;omega,HS.out.tl,HS.out.ts,HS.out.gl,HS.out.gf,HS.out.sl,HS.out.sf,HS.out.ml,HS.out.mf,HS.out.nP⟩⟩
          ·have hqc:Z3.cell? ⟨Z2.heap.size,1,ak⟩=au (ah aA 1000000):=hq7.at 1 rfl
           clear hq7;go_wp2;go_meet
           case rel=>exact⟨A,_,fp,HR4.out.ver 1000000,⟨by simp only;omega,HS.out.tl,HS.out.ts,HS.out.gl,HS.out.gf,HS.out.sl,HS.out.sf,HS.out.ml,HS.out.mf,HS.out.nP⟩⟩
          ·have hqc:Z3.cell? ⟨Z2.heap.size,2,ak⟩=au (ah aA 1000001):=hq7.at 2 rfl
           clear hq7;go_wp2;go_meet
           case rel=>exact⟨A,_,fp,HR4.out.ver 1000001,⟨by simp only;omega,HS.out.tl,HS.out.ts,HS.out.gl,HS.out.gf,HS.out.sl,HS.out.sf,HS.out.ml,HS.out.mf,HS.out.nP⟩⟩
         ·have R3:=R2.drewN 1
          have XE:=jR 2 2 rfl R3.cc (by omega) (by omega)
          have x1:=R2.c8.1.2.1;have hlen:r.txt.length<=1000:=by have:=HT.out;omega
          have HR3:=dP R3;clear R2 R3;go_wp2_with fail
          refine lG (S:=fun X:aI=>X.cell? ⟨o,1,ak⟩=au (aj A.ta r.txt.length A.tc)) 10 fU (x1) fun hHeld=>?_
          refine fC (i:=0) rfl hHeld ?_;refine fC (i:=1) rfl hHeld ?_;refine fE (i:=2) rfl ?_;refine iy (i:=3) rfl fun K hK=>?_
          go_simp
          go_at_call 27
          refine XE.mono ?_;rintro e Y6 ⟨z,rfl,hz,c7,g7⟩;have L7:=HR3.out.drawn g7 c7;refine hK.out _ _ L7.c8.1.2.1 (fun AA=>?_)
          clear hK hHeld;have hHeld:=AA;try simp only[gW]
          obtain⟨MM,hM⟩:∃ MM:Nat,20+z=MM:=⟨_,rfl⟩;have XC:IntKind.i64.wrap ((20:Int)+(z:Int))=(MM:Int):=by rw[IntKind.wrap_i64];omega
          have hmk:=aa1 MM (by omega)
          have hst:=aa2 Y6 MM (by omega)
          have hml:(aW5 MM (0:UInt8)).length<=21:=by rw[bM];omega
          generalize aW5 MM (0:UInt8)=s at *;refine fE (i:=4) rfl ?_;refine iy (i:=5) rfl fun K hK=>?_
          go_simp;have L8:=L7.step (dX Y6 (aH (madeCells #[ah .u8 0] MM) 5));refine hK.out _ _ L8.c8.1.2.1 (fun Fe=>?_)
          clear hK hHeld;have hHeld:=Fe;try simp only[gW]
          refine iy (i:=6) rfl fun K hK=>?_
          go_simp;refine hK.out _ _ L8.c8.1.2.1 (fun PN=>?_)
          clear hK hHeld;have hHeld:=PN;try simp only[gW]
          refine iy (i:=7) rfl fun K hK=>?_
          go_simp;refine hK.out _ _ (L8.step (dX _ (aH #[aN (sv s)] 9))).c8.1.2.1 (fun aC9=>?_)
          clear hK hHeld;have hHeld:=aC9;try simp only[gW]
          have hA:=L8.app i0 hi0 hz0 hz1 hz2 s hlen;rw[aU1] at hA;refine iy (i:=8) rfl fun K hK=>?_
          refine jm (by rfl) _ _ _ _ (by rfl) (aj A.ta r.txt.length A.tc) _ (by rfl) (by rfl) hA ⟨rfl,rfl,rfl,rfl⟩ ?_
          rintro v' w4 ⟨a',c',rfl,q1,q2,fp',ET⟩;refine hK.out _ _ q1 (fun aD0=>?_)
          clear hK hHeld;have hHeld:=aD0;try simp only[gW]
          refine fC (i:=9) rfl hHeld ?_;have HRn:aG (∃ (A:Ra) (r:Rw) (fp:Fp),RD w X _ p a len cap bs o qR A r fp/\uK r):=⟨_,_,fp',ET,⟨HS.out.ver,by have:=HT.out;simp;omega,Jw HS.out.ts hml,HS.out.gl,HS.out.gf,HS.out.sl,HS.out.sf,HS.out.ml,HS.out.mf,HS.out.nP⟩⟩
          clear L7 L8 ET hA c7 g7 XE;refine oH rfl fun K hK=>?_
          go_simp;refine hK.out _ _ ?_;go_wp2;go_meet
          case rel=>exact HRn.out
         ·have hV:=aK2 N (N:Int) rfl (by omega) R2.cc
          have HR2:=dP R2;clear R2;go_wp2_with fail
          refine hV.mono ?_;rintro e Z3 ⟨a',c',zs,f',rfl,ho',hf',hfz,aO4,c7,g7⟩;have R3:=HR2.out.drawn g7 c7;have hs7:=g7.size;have hol:=HR2.out.own.lt;have hXo:=HR2.out.ho;have d1:=R3.c8.1.2.2.1;have d2:=R3.fo 2;obtain⟨fp',R4⟩:=R3.got ho' (fun b hb=>by have:=hf' b hb;omega) (fun b hb hfp=>by have:=hf' b hb;have:=jh HR2.out.ls b hfp;omega)
          have HR4:aG (∃ (A:Ra) (r:Rw) (fp:Fp),RD w X (Z3.setCell ⟨o,2,ak⟩ (aj a' zs.length c')) p a len cap bs o qR A r fp/\uK r):=⟨_,_,fp',R4,⟨HS.out.ver,HS.out.tl,HS.out.ts,aO4,hfz,HS.out.sl,HS.out.sf,HS.out.ml,HS.out.mf,HS.out.nP⟩⟩;clear R3 R4 hV ho' hf' hfz c7 g7 HR2;go_wp2;go_meet
          case rel=>exact HR4.out
         ·have d1:=R2.c8.2.2.1
          have d2:=R2.fo 5;have HR2:=dP R2;clear R2;go_wp2;go_meet
          case rel=>exact⟨A,_,fp,HR2.out.dV (!r.dV),⟨HS.out.ver,HS.out.tl,HS.out.ts,HS.out.gl,HS.out.gf,HS.out.sl,HS.out.sf,HS.out.ml,HS.out.mf,HS.out.nP⟩⟩
         ·have hF:=IV (-1) 7 (by omega) (by omega) (by omega) R2.cc
          have HR2:=dP R2;clear R2;go_wp2_with fail
          refine hF.mono ?_;rintro e Z3 ⟨x,rfl,hx0,hx1,c7,g7⟩;have R3:=HR2.out.drawn g7 c7;have d1:=R3.c8.2.2.2.1;have d2:=R3.fo 6;have HR3:=dP R3;clear R3 hF c7 g7 HR2;go_wp2;go_meet
          case rel=>exact⟨A,_,fp,HR3.out.dW x,⟨HS.out.ver,HS.out.tl,HS.out.ts,HS.out.gl,HS.out.gf,HS.out.sl,HS.out.sf,HS.out.ml,HS.out.mf,⟨hx0,hx1⟩⟩⟩
         ·have XE:=jR 2 2 rfl R2.cc (by omega) (by omega)
          have HR2:=dP R2;clear R2;go_wp2_with fail
          refine XE.mono ?_;rintro e Z3 ⟨z,rfl,hz,c7,g7⟩;have R3:=HR2.out.drawn g7 c7;have hoY:=R3.own.lt;have hXo:=R3.ho;obtain⟨MM,hM⟩:∃ MM:Nat,12+z=MM:=⟨_,rfl⟩;obtain⟨T',aO5,hOS,hsm⟩:∃ T':List (List UInt8),T'.length=MM/\OS (Z3.alloc (aH (madeCells #[.string ⟨#[]⟩] MM) 9)) Z3.heap.size 0 MM MM T'/\∀ i,i<T'.length->(T'.getD i []).length<=21:=⟨aW5 MM [],by simp,an8 Z3 MM (by unfold ba2;omega),fun i hi=>by simp[aV,List.getElem?_replicate];split<;>simp⟩
          subst aO5;have hmk:=run_make_row' (P:=aZ8) 42 9 (.string ⟨#[]⟩) 16 Tryz.underlying42 Tryz.info9 rfl aA aA T'.length (by omega) (by omega)
          have XC:(12:Int)+(z:Int)=T'.length:=by omega
          have hwm:wrap64 (T'.length:Int)=T'.length:=by unfold wrap64;omega
          have fZ:=dP XC;have ji:=dP hwm;clear XC hwm;have R4:=R3.step (dX Z3 (aH (madeCells #[.string ⟨#[]⟩] T'.length) 9));have d1:=R4.c8.1.2.1;have d2:=R4.fo 1;obtain⟨fp',R5⟩:=R4.txt (a':=au ⟨Z3.heap.size,0,ak⟩) (c':=T'.length) (Z:=T') (f':=fun b=>b=Z3.heap.size) (qI.2 ⟨_,_,au Z3.heap.size,rfl,iV.of hOS,fun b=>by simp[eq_comm]⟩) (fun b hb=>by omega) (fun b hb hfp=>by have:=jh R3.ls b hfp;omega)
          have HR5:aG (∃ (A:Ra) (r:Rw) (fp:Fp),RD w X ((Z3.alloc (aH (madeCells #[.string ⟨#[]⟩] T'.length) 9)).setCell ⟨o,1,ak⟩ (aj (au ⟨Z3.heap.size,0,ak⟩) T'.length T'.length)) p a len cap bs o qR A r fp/\uK r):=⟨_,_,fp',R5,⟨HS.out.ver,by simp only;omega,hsm,HS.out.gl,HS.out.gf,HS.out.sl,HS.out.sf,HS.out.ml,HS.out.mf,HS.out.nP⟩⟩
          clear XE c7 g7 HR2 R3 R4 R5 hOS hsm hM hz;generalize hVV:Z3.alloc (aH (madeCells #[.string ⟨#[]⟩] T'.length) 9)=V at *;have XC:=fZ.out;have hwm:=ji.out;go_wp2;go_meet
          case rel=>exact HR5.out
       case rest =>
        clear HS HT HR1;obtain⟨A,r,fp,hR,hS⟩:=hcut;have HS:=dP hS;clear hS;obtain⟨⟨e0,e1,e2,e3⟩,e4,e5,e6,e7⟩:=hR.c8;obtain⟨⟨r0b,r1b,r2b,r3b⟩,r4b,r5b,r6b,r7b⟩:=hR.r8;obtain⟨⟨f0,f1,f2,f3⟩,f4,f5,f6,f7⟩:=hR.f8;have HR:=dP hR;clear hR;go_wp2;refine bodyPost_ret (v:=.agg #[ah aA r.ver,aj A.ta r.txt.length A.tc,aj A.ga r.got.length A.gc,aj A.sa r.dQ.length A.sc,aF r.wed,aF r.dV,ah aA r.dW,aj A.ma r.dU.length A.mc]) (by simp[results,Tryz.results63,go_sem, *]) rfl ?_
        exact⟨A,r,fp,rfl,HS.out,HR.out.ans⟩
end
theorem CQ {T:List (List UInt8)} {m:Nat} (h:∀ i,i<T.length->(T.getD i []).length<=m):∀ k,k<=T.length->BL T k<=k*m
 | 0,_=>by simp[BL]
 | k+1,hk=>by
  have:=CQ h k (by omega)
  have:=h k (by omega)
  rw[BL,Nat.add_mul];omega
theorem uK.sz {r: Rw} (h:uK r):kK r<=1048576:=by
 have h1:=CQ h.ts r.txt.length (aZ0 _);have:=h.tl;have:=h.gl;have:=h.sl;have:=h.ml;have h2:=Nat.mul_le_mul_right 21 h.tl;unfold kK;omega
theorem uK.fit {r: Rw} (h:uK r):qK r:=⟨h.gf,h.sf,h.mf⟩
theorem uK.i64 {r: Rw} (h:uK r):tC r:=⟨⟨by have:=h.ver;omega,by have:=h.ver;omega⟩,by have:=h.nP;omega,by have:=h.nP;omega⟩
theorem uV {cs: List eF} {vs: List aJ} {fp: Fp} (h:gq w cs vs fp) {lo: Nat} (hl:∀ b,fp b->lo<=b):It w cs vs lo w.heap.size:=⟨fp,h,fun b hb=>⟨hl b hb,jh h b hb⟩⟩
theorem ap8 {T: TypeId} {y0 y1 y2 y3 y4 y5 y6 y7 x0 x1 x2 x3 x4 x5 x6 x7: aJ} (h:Bx w B T #[y0,y1,y2,y3,y4,y5,y6,y7]):Bx ((((((((w.setCell ⟨B,0,ak⟩ x0).setCell ⟨B,1,ak⟩ x1).setCell ⟨B,2,ak⟩ x2).setCell ⟨B,3,ak⟩ x3).setCell ⟨B,4,ak⟩ x4).setCell ⟨B,5,ak⟩ x5).setCell ⟨B,6,ak⟩ x6).setCell ⟨B,7,ak⟩ x7) B T #[x0,x1,x2,x3,x4,x5,x6,x7]:=by
 have:=(((((((h.lW 0 x0).lW 1 x1).lW 2 x2).lW 3 x3).lW 4 x4).lW 5 x5).lW 6 x6).lW 7 x7;simpa using this
def kE (R:List Rw) (o:Rw) (n j:Nat):List Int:=(aZ6 n).map (fun k=>if k<j then max (el o.got k) ((dO R k).txt.length:Int) else el o.got k)
theorem rJ (R:List Rw) (o:Rw) (n j:Nat):(kE R o n j).length=n:=by simp[kE]
theorem SV {o: Rw} {n: Nat} (hk:k<n):el (kE R o n j) k=if k<j then max (el o.got k) ((dO R k).txt.length:Int) else el o.got k:=by
 unfold kE el;simp[hk]
theorem MC {o: Rw} {n: Nat} (h:o.got.length=n):kE R o n 0=o.got:=by
 refine List.ext_getElem (by rw[rJ,h]) (fun k h1 h2=>?_)
 simp[kE,el,h2]
theorem PU {o: Rw} {n: Nat}:kE R o n n=kH R o n:=by
 unfold kE kH;refine List.map_congr_left (fun k hk=>?_)
 rw[if_pos (aX1.1 hk)]
theorem MF {o: Rw} {n: Nat} (hj:j<n):(kE R o n j).set j (max (el o.got j) ((dO R j).txt.length:Int))=kE R o n (j+1):=by
 refine List.ext_getElem (by simp[rJ]) (fun k h1 h2=>?_)
 rw[rJ] at h2;rw[List.getElem_set];by_cases e:j=k
 ·subst e
  simp[kE]
 ·rw[if_neg e]
  simp only[kE,List.getElem_map,List.getElem_range]
  by_cases hk:k<j
  ·rw[if_pos hk,if_pos (by omega)]
  ·rw[if_neg hk,if_neg (by omega)]
structure Stg (m:Mb) (i n:Nat):Prop where
 e1:fF m=learn m.rows i (dO m.rows i) (fA n (dO m.rows i).dQ)
 ok1:iP { m with rows:=m.rows.set i (fF m) } i n
 uw:(fF m).wed=aC->gV m={ fF m with got:=kH m.rows (fF m) n }/\iP { m with rows:=m.rows.set i (gV m) } i n/\iU m=kR (m.rows.set i (gV m)) n (60-m.dR.length) m.dR
 wd:(fF m).wed=aB->gV m=fF m/\iU m=m.dR
 ok2:iP { m with rows:=m.rows.set i (gV m),dR:=iU m } i n
 Gs:iP { m with rows:=m.rows.set i (iG m),dR:=iU m } i n
 qL:iP { m with rows:=m.rows.set i (fD m),dR:=iU m } i n
 aD1:(iG m).wed=(gV m).wed
 eL:jT m=fA n (gV m).dQ
 mem:i∈jT m
 e3:iG m=if (gV m).wed=aB/\n<2*(jT m).length/\(jT m).head?=au i then lead (m.rows.set i (gV m)) i (gV m) (jT m) else gV m
 e4:fD m=if (iG m).wed=aB/\(jT m).head?≠au i then adopt (m.rows.set i (iG m)) i (iG m) ((jT m).headD 0) else iG m
 eE:jJ m=((fD m).dV&&(decide (n<2*(jT m).length)&&ends (m.rows.set i (fD m)) i (fD m) (jT m)))
 e5:kG m=if lD (dO m.rows i) (fD m)=aB then fD m else { fD m with ver:=(fD m).ver+1 }
 ver:(fD m).ver=(dO m.rows i).ver
theorem DJ {m: Mb} {n: Nat} (M:iP m i n) (hd:m.done=aC):Stg m i n:=by
 have hi:=M.i;have hk:=M.k;have hown:=M.own;have hlt:=M.lt;have ok:=M.ok i hlt;have hov:=ok.ver;have hlen:i<m.rows.length:=by rw[M.len];exact hlt
 have hs0:∀ q,q<m.dR.length->el m.dR q=(q:Int):=fun q hq=>(M.sg q hq).2 hd
 have e1:fF m=learn m.rows i (dO m.rows i) (fA n (dO m.rows i).dQ):=by rw[fF,hi,hk,hown]
 have L1:zW (dO m.rows i) (fF m):=by rw[e1];exact qY _ _ _ _
 have Bq:∀ x∈(fF m).dQ,(0<=x/\x<(n:Int))/\x≠(i:Int):=fun x hx=>by
  rw[e1] at hx;rcases Bj _ _ _ _ hx with hx|⟨k,k1,k2,k3,k4⟩
  ·exact⟨ok.dQ x hx,fun e=>M.self (e ▸ hx)⟩
  ·exact⟨(M.ok k (jd.1 k1).1).dQ x k3,k4⟩
 have ok1 : iR (fF m) n := ⟨ok.n5,by rw [L1.ver];exact ok.ver,by rw [L1.txt];exact ok.tl,by rw [L1.txt];exact ok.ts,by rw [L1.got];exact ok.got,by rw [L1.got];exact ok.gl,by rw [L1.got];exact ok.g12,fun x hx => (Bq x hx).1,lK.2 (by rw [e1];exact Bo _ _ _ _ (lK.1 ok.pq)),fun hr => by
  rw[L1.dV] at hr;obtain⟨a1,a2⟩:=ok.dV hr;rw[L1.dW,L1.dU];exact⟨L1.wed a1,a2⟩,fun hr=>by rw[L1.dV] at hr;rw[L1.dW,L1.dU];exact ok.not hr⟩
 have uD:(i:Int)∉(fF m).dQ:=fun hx=>(Bq _ hx).2 rfl
 have toM:∀ (o:Rw),iR o n->(i:Int)∉o.dQ->el o.got i=(o.txt.length:Int)->iP { m with rows:=m.rows.set i o } i n:=fun o h1 h2 h3=>by
  have:=M.to (o':=o) (mY:=m.dR) (done':=m.done) h1 h2 h3 M.sl M.pq M.sg (fun h=>(by rw[hd] at h;cases h))
  exact this
 have U9:el (fF m).got i=((fF m).txt.length:Int):=by rw[L1.got,L1.txt];exact M.oD
 have aa6:=toM (fF m) ok1 uD U9
 cases hw1:(fF m).wed with
 | false =>
  have hr1:=ok1.RY hw1;have e2:gV m={ fF m with got:=kH m.rows (fF m) n }:=by rw[gV,if_neg (by rw[hw1];simp),hk]
  have hg2:∀ j,j<n->el (gV m).got j=max (el (dO m.rows i).got j) ((dO m.rows j).txt.length:Int):=fun j hj=>by rw[e2];simp only;rw[zY hj,L1.got]
  have BM:(gV m).got.length=n:=by rw[e2];simp[kH]
  have hr2:(gV m).dV=aC:=by rw[e2];exact hr1
  have hw2:(gV m).wed=aC:=by rw[e2];exact hw1
  have ht2:(gV m).txt=(dO m.rows i).txt:=by rw[e2];exact L1.txt
  have hsm:=(jG ok.n5 BM).2 (fun j hj=>by rw[hg2 j hj];have:=ok.g j hj;have:=(M.ok j hj).tl;omega)
  have ok2:iR (gV m) n:=⟨ok.n5,by rw[e2];exact ok1.ver,by rw[e2];exact ok1.tl,by rw[e2];exact ok1.ts,hsm.1,BM,hsm.2,by rw[e2];exact ok1.dQ,by rw[e2];exact ok1.pq,fun h=>(by rw[hr2] at h;cases h),fun _=>by rw[e2];exact ok1.not hr1⟩
  have Dt:(i:Int)∉(gV m).dQ:=by rw[e2];exact uD
  have am2:el (gV m).got i=((gV m).txt.length:Int):=by rw[hg2 i hlt,ht2,M.oD];omega
  have e3:iG m=gV m:=by rw[iG,if_neg (by rw[hw2];simp)]
  have e4:fD m=gV m:=by rw[fD,e3,if_neg (by rw[hw2];simp)]
  have eS:iU m=kR (m.rows.set i (gV m)) n (60-m.dR.length) m.dR:=by rw[iU,if_neg (by rw[hw1];simp),hi,hk]
  obtain⟨s1,s2⟩:(iU m).length<=60/\(∀ q,q<(iU m).length->el (iU m) q=(q:Int)):=by
   rw[eS];have:=M.sl;obtain⟨q1,q2,q3,q4⟩:=yI (m.rows.set i (gV m)) n (60-m.dR.length) m.dR hs0;exact⟨by omega,q3⟩
  have okS:iP { m with rows:=m.rows.set i (gV m),dR:=iU m } i n:=by
   have:=M.to (o':=gV m) (mY:=iU m) (done':=m.done) ok2 Dt am2 s1 (zF s2) (fun q hq=>⟨by rw[s2 q hq];omega,fun _=>s2 q hq⟩) (fun h=>(by rw[hd] at h;cases h))
   exact this
  exact⟨e1,aa6,fun _=>⟨e2,toM _ ok2 Dt am2,eS⟩,fun h=>(by rw[hw1] at h;cases h),okS,by rw[e3];exact okS,by rw[e4];exact okS,by rw[e3],by rw[jT,hk],by rw[jT,hk];exact jd.2 ⟨hlt,Dt⟩,by rw[iG,hi,hk],by rw[fD,hi],by rw[jJ,hi,hk],by rw[kG,hown],by rw[e4,e2];exact L1.ver⟩
 | true =>
  have e2:gV m=fF m:=by rw[gV,if_pos hw1]
  have eL:jT m=fA n (fF m).dQ:=by rw[jT,e2,hk]
  have eS:iU m=m.dR:=by rw[iU,if_pos hw1]
  have hiL:i∈fA n (fF m).dQ:=jd.2 ⟨hlt,uD⟩;have Oz:fA n (fF m).dQ≠[]:=fun e=>by rw[e] at hiL;cases hiL
  have hrow:∀ {o:Rw},iR o n->∀ j,j<n->iR (dO (m.rows.set i o) j) n:=fun {o} ho j hj=>by
   rw[gB hlen]
   split
   ·exact ho
   ·exact M.ok j hj
  obtain⟨Gs,k1,k2,k3,k4,k5⟩:iR (iG m) n/\(iG m).dQ=(fF m).dQ/\(iG m).wed=aB/\(iG m).got=(fF m).got/\(iG m).txt=(fF m).txt/\(iG m).ver=(fF m).ver:=by
   by_cases c:(gV m).wed=aB/\m.k<2*(jT m).length/\(jT m).head?=au m.i
   ·have e3:iG m=lead (m.rows.set i (fF m)) i (fF m) (fA n (fF m).dQ):=by rw[iG,if_pos c,e2,eL,hi]
    obtain⟨a1,a2,a3,a4,a5⟩:=yJ (m.rows.set i (fF m)) i (fF m) (fA n (fF m).dQ);obtain⟨b1,b2⟩:=Du (R:=m.rows.set i (fF m)) ok1 hw1 hlt Oz (fun k hk=>hrow ok1 k (jd.1 hk).1)
    rw[e3];exact⟨b1,a1,by rw[a2];exact hw1,a3,a4,a5⟩
   ·have e3:iG m=fF m:=by rw[iG,if_neg c,e2]
    rw[e3];exact⟨ok1,rfl,hw1,rfl,rfl,rfl⟩
  obtain⟨qL,l1,l2,l3,l4,l5⟩:iR (fD m) n/\(fD m).dQ=(fF m).dQ/\(fD m).wed=aB/\(fD m).got=(fF m).got/\(fD m).txt=(fF m).txt/\(fD m).ver=(fF m).ver:=by
   by_cases c:(iG m).wed=aB/\(jT m).head?≠au m.i
   ·have e4:fD m=adopt (m.rows.set i (iG m)) i (iG m) ((fA n (fF m).dQ).headD 0):=by rw[fD,if_pos c,eL,hi]
    have hf:(fA n (fF m).dQ).headD 0<n:=by
     cases eh:fA n (fF m).dQ with
     | nil=>exact absurd eh Oz
     | cons f t=>exact (jd.1 (show f∈fA n (fF m).dQ by rw[eh];exact List.mem_cons_self)).1
    obtain⟨a1,a2,a3,a4,a5⟩:=wM (m.rows.set i (iG m)) i (iG m) ((fA n (fF m).dQ).headD 0);obtain⟨b1,b2⟩:=Lr (i:=i) (R:=m.rows.set i (iG m)) Gs k2 hf (hrow Gs _ hf);rw[e4];exact⟨b1,a1.trans k1,a2.trans k2,a3.trans k3,a4.trans k4,a5.trans k5⟩
   ·have e4:fD m=iG m:=by rw[fD,if_neg c]
    rw[e4];exact⟨Gs,k1,k2,k3,k4,k5⟩
  exact⟨e1,aa6,fun h=>(by rw[hw1] at h;cases h),fun _=>⟨e2,eS⟩,by rw[e2,eS];exact aa6,by rw[eS];exact toM _ Gs (by rw[k1];exact uD) (by rw[k3,k4];exact U9),by rw[eS];exact toM _ qL (by rw[l1];exact uD) (by rw[l3,l4];exact U9),by rw[k2,e2,hw1],by rw[eL,e2],by rw[eL];exact hiL,by rw[iG,hi,hk],by rw[fD,hi],by rw[jJ,hi,hk],by rw[kG,hown],by rw[l5];exact L1.ver⟩
theorem MG (h:i∈L):0<L.length/\(L.head?=au i↔L.getD 0 0=i)/\L.headD 0=L.getD 0 0/\L.getD 0 0∈L:=by
 cases L with
 | nil=>cases h
 | cons x t=>simp
end Go.Proofs.YtafimeakbdmkjaaGreat