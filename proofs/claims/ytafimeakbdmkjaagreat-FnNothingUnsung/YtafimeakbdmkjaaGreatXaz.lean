/-
  Texts in one.
-/
import Derived.Test.YtafimeakbdmkjaaGreatXaa
import Derived.Test.YtafimeakbdmkjaaGreatXao
import Derived.Test.YtafimeakbdmkjaaGreatXam
import Derived.Test.YtafimeakbdmkjaaGreatXae
import Derived.Test.YtafimeakbdmkjaaGreatXay
import Derived.Test.YtafimeakbdmkjaaGreatXat
import Derived.Test.YtafimeakbdmkjaaGreatXas
import Derived.Test.YtafimeakbdmkjaaGreatXag
import Derived.Test.YtafimeakbdmkjaaGreatXaj
import Derived.Deep.CutRange
namespace Go.Proofs.YtafimeakbdmkjaaGreat
open Bool renaming false->aC,true->aB
open Go renaming Addr->dH,Calls->dF,Value->aJ,World->aI,bodyPost_ret->bY,maxLen->dD
open Go.Ending renaming returned->aK
open Go.IntKind renaming i64->aA
open Go.Obj renaming cells->aH
open Go.Proofs.Tryz renaming prog->dA
open Go.RowKit renaming Hid->aG,intOf->dG
open Go.Value renaming agg->aP,bool->aF,int->ah,int->dB,pointer->aO,slice->aj
open Go.World renaming block_lt_of_cell?->aX,cell?_of_block->bf
open List renaming getD_eq_getElem?_getD->aS,getElem?_append_right->aT,getElem?_eq_none->aZ,length_append->bD,length_set->bQ,mem_cons_of_mem->bC
open Nat renaming le_refl->cO,zero_le->cZ
open Option renaming none->ak,some->au
open Option.some renaming inj->bT
set_option linter.unusedVariables false
set_option linter.unusedSimpArgs false
open Go.RowKit Go.Sort
set_option maxRecDepth 100000
set_option maxHeartbeats 12800000
variable {q:Int} {r:Rw} {i len:Nat} {X w:aI}
section
structure MD (w X Y:aI) (p:Nat) (a:Option dH) (len cap:Nat) (bs:Nat->Int) (o:Nat) (m:Mb) (fp:Fp):Prop where
 cc:Cc w Y p a len cap bs
 res:Bx Y X.heap.size 47 #[ah aA 0,ah aA 0,aj ak 0 0,aj ak 0 0,aF aC]
 kT:iP Y o 0 (jY m) fp
 jV:∀ b,fp b->X.heap.size<b
 hpo:p<X.heap.size
 ho:X.heap.size<o
 gr:X.grownBy Y (au p)
section
variable {w X Y Y':aI} {p:Nat} {a:Option dH} {len cap:Nat} {bs:Nat->Int} {o:Nat} {m m':Mb} {fp:Fp}
theorem MD.lt (h:MD w X Y p a len cap bs o m fp):w.heap.size<=X.heap.size:=by have:=h.cc.hp;have:=h.hpo;omega
theorem MD.drawn (h:MD w X Y p a len cap bs o m fp) (hg:Y.grownBy Y' (au p)) (hc:Cc w Y' p a len cap bs):MD w X Y' p a len cap bs o m fp:=by
 have h1:=h.hpo;have h2:=h.ho;exact⟨hc,h.res.grown hg (by simp;omega),h.kT.wrt (eX.lI hg) (fun b hb e=>by cases e;rcases hb with hb|hb;have:=h.jV _ hb;omega;omega),h.jV,h1,h2,fP h.gr hg⟩
theorem MD.step (h:MD w X Y p a len cap bs o m fp) (hb:Below Y.heap.size Y Y'):MD w X Y' p a len cap bs o m fp :=
 ⟨h.cc.step hb,h.res.below hb,h.kT.below hb,h.jV,h.hpo,h.ho,fP h.gr ⟨hb.os,hb.tape,hb.output,hb.size,fun x hx _=>hb.block x hx⟩⟩
theorem MD.act (h:MD w X Y p a len cap bs o m fp) (hb:fH Y Y' o 0 (jY m') fp):∃ fp',MD w X Y' p a len cap bs o m' fp':=by
 have h1:=h.hpo;have h2:=h.ho;have h3:=h.lt;obtain⟨gU,hp,hf,_⟩:=hb.next;have hs:=h.gr.size;have hw:∀ b,(fp b\/b=o)->X.heap.size<b:=fun b hb=>by rcases hb with hb|hb;exact h.jV b hb;omega
 exact⟨gU,h.cc.wrt hb.wrt (fun k=>by have:=hw p k;omega) (fun b k=>by have:=hw b k;omega),h.res.wrt hb.wrt (fun k=>by have:=hw _ k;omega),hp,fun b hb=>by rcases hf b hb with k|k;exact h.jV b k;have:=h.res.lt;omega,h1,h2,nU h.gr hb.wrt (fun b k=>by have:=hw b k;omega)⟩
theorem MD.far (h:MD w X Y p a len cap bs o m fp) {f:Fp} (hw:eX f Y Y') (hd:∀ b,f b->X.heap.size<b/\b≠o/\¬ fp b):MD w X Y' p a len cap bs o m fp:=by
 have h1:=h.hpo;have h2:=h.ho;have h3:=h.lt;exact⟨h.cc.wrt hw (fun k=>by have:=(hd p k).1;omega) (fun b k=>by have:=(hd b k).1;omega),h.res.wrt hw (fun k=>by have:=(hd _ k).1;omega),h.kT.wrt hw (fun b hb k=>by rcases hb with hb|hb;exact (hd b k).2.2 hb;exact (hd b k).2.1 hb),h.jV,h1,h2,nU h.gr hw (fun b k=>by have:=(hd b k).1;omega)⟩
end
def aj7 (w X X':aI) (p:Nat) (a:Option dH) (len cap:Nat) (bs:Nat->Int) (e:Ending) (m:Mb):Prop:=∃ (A:Ma) (fp:Fp),e=aK (iU A m)/\gB X' (jB m) (jC A m) fp/\(∀ b,fp b->X.heap.size<=b)/\Cc w X' p a len cap bs/\X.grownBy X' (au p)
def Vb (m:Mb) (q:Int):Prop:=∀ r∈m.rows,r.ver<=q
theorem Vb.mono {m: Mb} {p: Int} (h:Vb m p) (hq:p<=q):Vb m q:=fun r hr=>Int.le_trans (h r hr) hq
theorem Vb.row {m: Mb} (h:Vb m q) (hq:0<=q) (j:Nat):(dO m.rows j).ver<=q:=by
 rcases Nat.lt_or_ge j m.rows.length with hj|hj
 ·exact h _ (List.mem_of_getElem? (iV hj))
 ·unfold dO
  rw[aS,aZ hj];exact hq
theorem Vb.set {m m': Mb} {j: Nat} (h:Vb m q) (e:m'.rows=m.rows.set j r) (hr:r.ver<=q+1):Vb m' (q+1):=fun x hx=>by
 rw[e] at hx;rcases List.mem_or_eq_of_mem_set hx with k|k
 ·have:=h x k;omega
 ·rw[k];exact hr
theorem Yt {m: Mb} (h:Vb m q) (hq:0<=q) (t:List UInt8):Vb (jD m t).1 (q+1):=by
 unfold jD
 split
 ·exact h.mono (by omega)
 ·exact h.set rfl (by have:=h.row hq m.i;simp only[Mb.own];omega)
theorem ag3 {m: Mb} (h:Vb m q) (hq:0<=q) (who:Int):Vb (fJ m who).1 (q+1):=by
 unfold fJ
 split
 ·exact h.mono (by omega)
 ·exact h.set rfl (by have:=h.row hq m.i;simp only[Mb.own];omega)
theorem Qw {m: Mb} (h:Vb m q) (hr:r.ver<=q+1) (fr:Int):Vb (fK m fr r).1 (q+1):=by
 unfold fK
 split
 ·exact h.mono (by omega)
 ·exact h.set rfl hr
theorem at1 {m: Mb} {n: Nat} (ok:iO m i n) (h:Vb m q) (hq:0<=q):Vb (fM m) (q+1):=by
 unfold fM
 split
 ·exact h.mono (by omega)
 ·rename_i hn
  refine h.set rfl ?_;have S:=DF ok (by cases e:m.done with|false=>rfl|true=>exact absurd (.inl e) hn)
  have:=h.row hq i;have hv:=S.ver;rw[S.e5]
  split
  ·omega
  ·simp only;omega
theorem aC7 (i n:Int):Vb (kM i n).1 0:=by
 unfold kM
 split
 ·intro r hr
  rw[(List.mem_replicate.1 hr).2];unfold jS
  split<;>exact Int.le_refl _
 ·exact fun r hr=>absurd hr List.not_mem_nil
attribute [local irreducible] sv
theorem U8 {p: Nat} {a: Option dH} {cap: Nat} {bs: Nat->Int} (h:Cc w X p a len cap bs) :
  dF dA 105 #[aO (au ⟨p,0,ak⟩)] X fun e X'=>∃ m,((∃ i n,iO m i n)/\Vb m 13)/\aj7 w X X' p a len cap bs e m:=by
 have Fb:=h.lt;have hwp:=h.hp;have b0:=dX X (aH #[ah aA 0,ah aA 0,aj ak 0 0,aj ak 0 0,aF aC] 47);have HR0:aG (Bx (X.alloc (aH #[ah aA 0,ah aA 0,aj ak 0 0,aj ak 0 0,aF aC] 47)) X.heap.size 47 #[ah aA 0,ah aA 0,aj ak 0 0,aj ak 0 0,aF aC]):=Bx.new X _ _;have wV:aG (Cc w (X.alloc (aH #[ah aA 0,ah aA 0,aj ak 0 0,aj ak 0 0,aF aC] 47)) p a len cap bs):=h.step b0;have nT:aG (X.grownBy (X.alloc (aH #[ah aA 0,ah aA 0,aj ak 0 0,aj ak 0 0,aF aC] 47)) (au p)):=⟨b0.os,b0.tape,b0.output,b0.size,fun x hx _=>b0.block x hx⟩
 clear h b0;generalize qP:X.alloc (aH #[ah aA 0,ah aA 0,aj ak 0 0,aj ak 0 0,aF aC] 47)=W0 at *;go_enter Tryz.func105,Tryz.ntmps105
 go_wp2_with fail
 refine (jP 4 4 rfl wV.out (by omega) (by omega)).mono ?_
 rintro e W1 ⟨y,rfl,hy,c1,g1⟩;obtain⟨n,hn⟩:∃ n:Nat,aG (n=1+y):=⟨_,rfl⟩;have jq:1<=n/\n<=4:=by have:=hn.out;omega
 have en:(1:Int)+(y:Int)=n:=by have:=hn.out;omega
 have yK:=dP c1;have mD:=dP (fP nT.out g1);have HR1:aG (Bx W1 X.heap.size 47 #[ah aA 0,ah aA 0,aj ak 0 0,aj ak 0 0,aF aC]):=HR0.out.grown g1 (by simp;omega)
 have hB2:=jP n (n:Int) rfl c1 (by omega) (by omega)
 clear c1 g1 HR0 wV nT;go_wp2_with fail
 rw[en] at *;clear en;refine hB2.mono ?_;rintro e W2 ⟨i,rfl,hi,c2,g2⟩;have HC2:=dP c2;have HG2:=dP (fP mD.out g2);have HR2:aG (Bx W2 X.heap.size 47 #[ah aA 0,ah aA 0,aj ak 0 0,aj ak 0 0,aF aC]):=HR1.out.grown g2 (by simp;omega)
 have hN:=Ou (i:Int) (n:Int) W2;clear hB2 c2 g2 HR1 yK mD;go_wp2_with fail
 refine hN.mono ?_;rintro e W3 ⟨A,rfl,f0,hl,hf0,hb3⟩
 have hnew:(kM (i:Int) (n:Int)).2=aB/\(kM (i:Int) (n:Int)).1.id=(i:Int)/\(kM (i:Int) (n:Int)).1.n=(n:Int):=by
  unfold kM;rw[if_pos ⟨iZ.2 (by omega),iZ.2 (by omega)⟩]
  exact⟨rfl,rfl,rfl⟩
 have hok0:iO (kM (i:Int) (n:Int)).1 i n:=by
  obtain⟨i',n',ok⟩:=nD.1 (al1 hnew.1);have e1:i'=i:=by have:=ok.hid;rw[hnew.2.1] at this;omega
  have e2:n'=n:=by have:=ok.hn;rw[hnew.2.2] at this;omega
  rw[e1,e2] at ok;exact ok
 have TK:aG (Vb (kM (i:Int) (n:Int)).1 0):=aC7 _ _;generalize hb0:(kM (i:Int) (n:Int)).2=bb0 at *;generalize hm0:(kM (i:Int) (n:Int)).1=m0 at *;clear hnew hb0 hm0 hN;have hba:=dX W3 (aH #[ah aA m0.id,ah aA m0.n,aj A.ra m0.rows.length A.rc,aj A.sa m0.dR.length A.sc,aF m0.done] 47);have hxb:=Bx.new W3 47 #[ah aA m0.id,ah aA m0.n,aj A.ra m0.rows.length A.rc,aj A.sa m0.dR.length A.sc,aF m0.done];have aO7:=hb3.size;have TI:=HG2.out.size;have hrl:=HR2.out.lt;have hfl:=jd hl
 have HM:aG (MD w X (W3.alloc (aH #[ah aA m0.id,ah aA m0.n,aj A.ra m0.rows.length A.rc,aj A.sa m0.dR.length A.sc,aF m0.done] 47)) p a len cap bs W3.heap.size m0 f0):=by
  refine⟨(HC2.out.step hb3).step hba,(HR2.out.below hb3).below hba,SH hxb (gG hl hba) (fun k=>by have:=hfl _ k;omega),fun b hb=>by have:=hf0 b hb;omega,Fb,by omega, ?_⟩
  have hg1:W2.grownBy W3 (au p):=⟨hb3.os,hb3.tape,hb3.output,hb3.size,fun x hx _=>hb3.block x hx⟩
  have hg2:W3.grownBy (W3.alloc (aH #[ah aA m0.id,ah aA m0.n,aj A.ra m0.rows.length A.rc,aj A.sa m0.dR.length A.sc,aF m0.done] 47)) (au p):=⟨hba.os,hba.tape,hba.output,hba.size,fun x hx _=>hba.block x hx⟩
  exact fP (fP HG2.out hg1) hg2
 have iE:=dP hok0;unfold iU iq;clear hl hf0 hb3 hba hxb hok0 HR2 HC2 HG2 hfl;go_wp2_with fail
 generalize W3.alloc (aH #[ah aA m0.id,ah aA m0.n,aj A.ra m0.rows.length A.rc,aj A.sa m0.dR.length A.sc,aF m0.done] 47)=W4 at *;generalize W3.heap.size=o at *;refine (jP 14 14 rfl HM.out.cc (by omega) (by omega)).mono ?_
 rintro e W5 ⟨K,rfl,hK,c5,g5⟩;have iM:=dP (HM.out.drawn g5 c5);clear c5 g5 HM;go_wp2_with fail
 go_loopw [6] (fun v wr=>∃ (k:Nat) (m:Mb) (fp:Fp),k<=13/\v=ah aA (k:Int)/\iO m i n/\Vb m (13-(k:Int))/\MD w X wr p a len cap bs o m fp) (fun v _=>(dG v).toNat)
 case atStart=>exact⟨K,m0,f0,by omega,rfl,iE.out,TK.out.mono (by omega),iM.out⟩
 case round =>
  obtain⟨k,m,fp,hk,rfl,ok,aC8,hM⟩:=hrel;have HV:=dP aC8;have HQ:aG (0<=13-(k:Int)):=(by omega:0<=13-(k:Int))
  clear aC8;have HM:=dP hM;have HO:=dP ok;clear hM ok iM iE;by_cases hk0:0<k
  ·have k1:(0:Int)<k:=by omega
   have wk:wrap64 ((k:Int)-1)=((k-1:Nat):Int):=by unfold wrap64;omega
   have HF:aG (∀ (Y:aI) (m':Mb) (fp':Fp),iO m' i n->Vb m' (13-(k:Int)+1)->MD w X Y p a len cap bs o m' fp'->∃ (k':Nat) (m:Mb) (fp:Fp),k'<=13/\(dB aA ((k:Int)-1))=ah aA (k':Int)/\iO m i n/\Vb m (13-(k':Int))/\MD w X Y p a len cap bs o m fp):=fun Y m' fp' h1 hq h2=>⟨k-1,m',fp',by omega,by congr 1;omega,h1,hq.mono (by omega),h2⟩
   clear wk;have MQ:=jP 6 6 rfl HM.out.cc (by omega) (by omega)
   go_wp2_with fail
   refine MQ.mono ?_;rintro e Y1 ⟨y,rfl,hy6,c6,g6⟩;have fU:=dP (HM.out.drawn g6 c6);clear c6 g6 MQ HM;have hys:y=0\/y=1\/y=2\/y=3\/y=4\/y=5:=by omega
   rcases hys with rfl|rfl|rfl|rfl|rfl|rfl
   ·have hT:=Dz 3 3 rfl (by omega) fU.out.cc
    go_wp2_with fail
    refine hT.mono ?_;rintro e Y2 ⟨t,rfl,ht,c7,g7⟩;have jk:=dP (fU.out.drawn g7 c7);have hS:=EM o 0 m i n t fp Y2 jk.out.kT HO.out (by omega)
    clear hT c7 g7 fU;go_wp2_with fail
    refine hS.mono ?_;rintro e Y3 ⟨rfl,hBc⟩;obtain⟨lq,h3⟩:=jk.out.act hBc;have HE:aG _:=HF.out Y3 _ lq (JR HO.out t).1 (Yt HV.out HQ.out t) h3;clear hS hBc h3 jk HF;generalize (jD m t).2=sb at *;go_wp2;go_roundw
    case rel=>exact HE.out
    case measure=>simp[dG];omega
   ·have hT:=Dz 3 3 rfl (by omega) fU.out.cc
    go_wp2_with fail
    refine hT.mono ?_;rintro e Y2 ⟨t,rfl,ht,c7,g7⟩;have jk:=dP (fU.out.drawn g7 c7);have hS:=EM o 0 m i n t fp Y2 jk.out.kT HO.out (by omega)
    clear hT c7 g7 fU;go_wp2_with fail
    refine hS.mono ?_;rintro e Y3 ⟨rfl,hBc⟩;obtain⟨lq,h3⟩:=jk.out.act hBc;have HE:aG _:=HF.out Y3 _ lq (JR HO.out t).1 (Yt HV.out HQ.out t) h3;clear hS hBc h3 jk HF;generalize (jD m t).2=sb at *;go_wp2;go_roundw
    case rel=>exact HE.out
    case measure=>simp[dG];omega
   ·have hO:=uq 3 fU.out.cc (by omega)
    go_wp2_with fail
    refine hO.mono ?_;rintro e Y2 ⟨t,rfl,c7,g7⟩;have jk:=dP (fU.out.drawn g7 c7);clear hO c7 g7 fU
    cases t with
    | false =>
     have HE:aG _:=HF.out Y2 m fp HO.out (HV.out.mono (by omega)) jk.out
     clear HF jk;go_wp2;go_roundw
     case rel=>exact HE.out
     case measure=>simp[dG];omega
    | true =>
     have D9:=jP n (n:Int) rfl jk.out.cc (by omega) (by omega)
     go_wp2_with fail
     refine D9.mono ?_;rintro e Y3 ⟨who,rfl,hwho,c8,g8⟩;have lC:=dP (jk.out.drawn g8 c8);have hS:=Lh o 0 m i n (who:Int) fp Y3 lC.out.kT HO.out;clear D9 c8 g8 jk;go_wp2_with fail
     refine hS.mono ?_;rintro e Y4 ⟨rfl,hBc⟩;obtain⟨lq,h3⟩:=lC.out.act hBc;have HE:aG _:=HF.out Y4 _ lq (Ew HO.out (who:Int)).1 (ag3 HV.out HQ.out (who:Int)) h3;clear hS hBc h3 lC HF;generalize (fJ m (who:Int)).2=sb at *;go_wp2;go_roundw
     case rel=>exact HE.out
     case measure=>simp[dG];omega
   ·have hD:=DC n (n:Int) rfl (by omega) fU.out.cc
    go_wp2_with fail
    refine hD.mono ?_;rintro e Y2 ⟨Ar,r,fr,rfl,hSr,hlr,hfr,c7,g7⟩;have jk:=dP (fU.out.drawn g7 c7);have ag4:=jd hlr;have hr2:=jk.out.kT.lt;have ag5:=dP jk.out.kT.flt;have HXY:=dP jk.out.res.lt;have hba:=dX Y2 (aH #[ah aA r.ver,aj Ar.ta r.txt.length Ar.tc,aj Ar.ga r.got.length Ar.gc,aj Ar.sa r.dQ.length Ar.sc,aF r.wed,aF r.dV,ah aA r.dW,aj Ar.ma r.dU.length Ar.mc] 44);have hxr:=Bx.new Y2 44 #[ah aA r.ver,aj Ar.ta r.txt.length Ar.tc,aj Ar.ga r.got.length Ar.gc,aj Ar.sa r.dQ.length Ar.sc,aF r.wed,aF r.dV,ah aA r.dW,aj Ar.ma r.dU.length Ar.mc];have BZ:=dP hxr;have lC:=dP (jk.out.step hba);have Yu:=dP (gG hlr hba);have Yv:=dP hSr;have aM7:=g7.size;have XE:aG (∀ b,fr b->p<b):=fun b hb=>by have:=hfr b hb;have:=fU.out.cc.lt;omega
    have D9:=jP n (n:Int) rfl lC.out.cc (by omega) (by omega)
    have hoY:=hr2;clear hD c7 g7 hba hxr jk fU hlr hSr hfr hr2;unfold iK fQ;go_wp2_with fail
    refine D9.mono ?_;rintro e Y4 ⟨F,rfl,hF,c8,g8⟩;have mG:=dP (lC.out.drawn g8 c8);have hpY:p<Y2.heap.size:=by have:=lC.out.hpo;have:=lC.out.ho;omega
    have hx4:=BZ.out.grown g8 (by simp;omega)
    have MP:aG (gB Y4 (jM r) (jr Ar r) fr):=iy Yu.out (eX.lI g8) (fun b hb e=>by cases e;have:=XE.out _ hb;omega)
    have uF:F<m.rows.length:=by rw[HO.out.len];exact hF
    have hF1:(F:Int)<m.rows.length:=by omega
    have hF0:(0:Int)<=F:=by omega
    obtain⟨gg,go,gc,M4⟩:=Mw.start mG.out.kT (by omega)
    obtain⟨_,_,v0,_,⟨rfl,_⟩,_⟩:=M4.at uF (j:=0) (cl:=.v (ah aA (dO m.rows F).ver)) rfl;have d2:=M4.rws;simp only[Nat.add_zero,Nat.zero_add] at v0 d2;have hvb:=(HO.out.ok F hF).ver;have wv:wrap64 ((dO m.rows F).ver+1)=(dO m.rows F).ver+1:=by unfold wrap64;omega
    obtain⟨⟨x0,x1,x2,x3⟩,x4,x5,x6,x7⟩:=Bx.r8 hx4;have z0:=hx4.f 0;have Gg:aG (Bx (Y4.setCell ⟨Y2.heap.size,0,ak⟩ (ah aA ((dO m.rows F).ver+1))) Y2.heap.size 44 #[ah aA ((dO m.rows F).ver+1),aj Ar.ta r.txt.length Ar.tc,aj Ar.ga r.got.length Ar.gc,aj Ar.sa r.dQ.length Ar.sc,aF r.wed,aF r.dV,ah aA r.dW,aj Ar.ma r.dU.length Ar.mc]):=by have:=hx4.lK 0 (ah aA ((dO m.rows F).ver+1));rw[aG];simpa using this
    have Qx:=eX.set Y4 Y2.heap.size 0 (ah aA ((dO m.rows F).ver+1));have iM:aG (MD w X (Y4.setCell ⟨Y2.heap.size,0,ak⟩ (ah aA ((dO m.rows F).ver+1))) p a len cap bs o m fp):=mG.out.far Qx (fun b k=>by have:=HXY.out;rw[k];exact⟨this,by omega,fun k=>by have:=ag5.out _ k;omega⟩)
    have P8:aG (gB (Y4.setCell ⟨Y2.heap.size,0,ak⟩ (ah aA ((dO m.rows F).ver+1))) (jM r) (jr Ar r) fr):=iy MP.out Qx (fun b hb e=>by have:=ag4 b hb;omega)
    have hrw:qj (Y4.setCell ⟨Y2.heap.size,0,ak⟩ (ah aA ((dO m.rows F).ver+1))) Ar { r with ver:=(dO m.rows F).ver+1 }:=by
     have:=NV (zW P8.out (lo:=0) (fun b _=>cZ b)) Yv.out.fit Yv.out.sz
     exact⟨this.txt,this.got,this.dQ,this.dU,this.mt,this.mg,this.ms,this.mm⟩
    have hS:=EN o 0 m i n (F:Int) Ar { r with ver:=(dO m.rows F).ver+1 } fp _ iM.out.kT HO.out hrw ⟨by omega,by omega⟩
    unfold iK fQ at hS;simp only at hS
    clear D9 c8 g8 mG BZ lC Yu MP M4 hx4 hrw Qx;go_upto_region 19 with fail
    clear x0 x1 x2 x3 x4 x5 x6 x7 z0 v0 d2;generalize Y4.setCell ⟨Y2.heap.size,0,ak⟩ (ah aA ((dO m.rows F).ver+1))=Y5 at *;obtain⟨⟨x0,x1,x2,x3⟩,x4,x5,x6,x7⟩:=Bx.r8 Gg.out;go_wp2_with fail
    refine hS.mono ?_;rintro e Y6 ⟨rfl,hBc⟩;obtain⟨lq,h3⟩:=iM.out.act hBc;have HE:aG _:=HF.out Y6 _ lq (sV HO.out (F:Int) { r with ver:=(dO m.rows F).ver+1 }).1 (Qw HV.out (Int.add_le_add_right (HV.out.row HQ.out F) 1) (F:Int)) h3
    clear hS hBc h3 iM HF x0 x1 x2 x3 x4 x5 x6 x7;generalize (fK m (F:Int) { r with ver:=(dO m.rows F).ver+1 }).2=sb at *
    go_wp2;go_roundw
    case rel=>exact HE.out
    case measure=>simp[dG];omega
   ·have hD:=DC n (n:Int) rfl (by omega) fU.out.cc
    go_wp2_with fail
    refine hD.mono ?_;rintro e Y2 ⟨Ar,r,fr,rfl,hSr,hlr,hfr,c7,g7⟩;have jk:=dP (fU.out.drawn g7 c7);have ag4:=jd hlr;have hr2:=jk.out.kT.lt;have ag5:=dP jk.out.kT.flt;have HXY:=dP jk.out.res.lt;have hba:=dX Y2 (aH #[ah aA r.ver,aj Ar.ta r.txt.length Ar.tc,aj Ar.ga r.got.length Ar.gc,aj Ar.sa r.dQ.length Ar.sc,aF r.wed,aF r.dV,ah aA r.dW,aj Ar.ma r.dU.length Ar.mc] 44);have hxr:=Bx.new Y2 44 #[ah aA r.ver,aj Ar.ta r.txt.length Ar.tc,aj Ar.ga r.got.length Ar.gc,aj Ar.sa r.dQ.length Ar.sc,aF r.wed,aF r.dV,ah aA r.dW,aj Ar.ma r.dU.length Ar.mc];have BZ:=dP hxr;have lC:=dP (jk.out.step hba);have Yu:=dP (gG hlr hba);have Yv:=dP hSr;have aM7:=g7.size;have XE:aG (∀ b,fr b->p<b):=fun b hb=>by have:=hfr b hb;have:=fU.out.cc.lt;omega
    have D9:=jP n (n:Int) rfl lC.out.cc (by omega) (by omega)
    have hoY:=hr2;clear hD c7 g7 hba hxr jk fU hlr hSr hfr hr2;unfold iK fQ;go_wp2_with fail
    refine D9.mono ?_;rintro e Y4 ⟨F,rfl,hF,c8,g8⟩;have mG:=dP (lC.out.drawn g8 c8);have hpY:p<Y2.heap.size:=by have:=lC.out.hpo;have:=lC.out.ho;omega
    have hx4:=BZ.out.grown g8 (by simp;omega)
    have MP:aG (gB Y4 (jM r) (jr Ar r) fr):=iy Yu.out (eX.lI g8) (fun b hb e=>by cases e;have:=XE.out _ hb;omega)
    have uF:F<m.rows.length:=by rw[HO.out.len];exact hF
    have hF1:(F:Int)<m.rows.length:=by omega
    have hF0:(0:Int)<=F:=by omega
    obtain⟨gg,go,gc,M4⟩:=Mw.start mG.out.kT (by omega)
    obtain⟨_,_,v0,_,⟨rfl,_⟩,_⟩:=M4.at uF (j:=0) (cl:=.v (ah aA (dO m.rows F).ver)) rfl;have d2:=M4.rws;simp only[Nat.add_zero,Nat.zero_add] at v0 d2;have hvb:=(HO.out.ok F hF).ver;have wv:wrap64 ((dO m.rows F).ver+1)=(dO m.rows F).ver+1:=by unfold wrap64;omega
    obtain⟨⟨x0,x1,x2,x3⟩,x4,x5,x6,x7⟩:=Bx.r8 hx4;have z0:=hx4.f 0;have Gg:aG (Bx (Y4.setCell ⟨Y2.heap.size,0,ak⟩ (ah aA ((dO m.rows F).ver+1))) Y2.heap.size 44 #[ah aA ((dO m.rows F).ver+1),aj Ar.ta r.txt.length Ar.tc,aj Ar.ga r.got.length Ar.gc,aj Ar.sa r.dQ.length Ar.sc,aF r.wed,aF r.dV,ah aA r.dW,aj Ar.ma r.dU.length Ar.mc]):=by have:=hx4.lK 0 (ah aA ((dO m.rows F).ver+1));rw[aG];simpa using this
    have Qx:=eX.set Y4 Y2.heap.size 0 (ah aA ((dO m.rows F).ver+1));have iM:aG (MD w X (Y4.setCell ⟨Y2.heap.size,0,ak⟩ (ah aA ((dO m.rows F).ver+1))) p a len cap bs o m fp):=mG.out.far Qx (fun b k=>by have:=HXY.out;rw[k];exact⟨this,by omega,fun k=>by have:=ag5.out _ k;omega⟩)
    have P8:aG (gB (Y4.setCell ⟨Y2.heap.size,0,ak⟩ (ah aA ((dO m.rows F).ver+1))) (jM r) (jr Ar r) fr):=iy MP.out Qx (fun b hb e=>by have:=ag4 b hb;omega)
    have hrw:qj (Y4.setCell ⟨Y2.heap.size,0,ak⟩ (ah aA ((dO m.rows F).ver+1))) Ar { r with ver:=(dO m.rows F).ver+1 }:=by
     have:=NV (zW P8.out (lo:=0) (fun b _=>cZ b)) Yv.out.fit Yv.out.sz
     exact⟨this.txt,this.got,this.dQ,this.dU,this.mt,this.mg,this.ms,this.mm⟩
    have hS:=EN o 0 m i n (F:Int) Ar { r with ver:=(dO m.rows F).ver+1 } fp _ iM.out.kT HO.out hrw ⟨by omega,by omega⟩
    unfold iK fQ at hS;simp only at hS
    clear D9 c8 g8 mG BZ lC Yu MP M4 hx4 hrw Qx;go_upto_region 19 with fail
    clear x0 x1 x2 x3 x4 x5 x6 x7 z0 v0 d2;generalize Y4.setCell ⟨Y2.heap.size,0,ak⟩ (ah aA ((dO m.rows F).ver+1))=Y5 at *;obtain⟨⟨x0,x1,x2,x3⟩,x4,x5,x6,x7⟩:=Bx.r8 Gg.out;go_wp2_with fail
    refine hS.mono ?_;rintro e Y6 ⟨rfl,hBc⟩;obtain⟨lq,h3⟩:=iM.out.act hBc;have HE:aG _:=HF.out Y6 _ lq (sV HO.out (F:Int) { r with ver:=(dO m.rows F).ver+1 }).1 (Qw HV.out (Int.add_le_add_right (HV.out.row HQ.out F) 1) (F:Int)) h3
    clear hS hBc h3 iM HF x0 x1 x2 x3 x4 x5 x6 x7;generalize (fK m (F:Int) { r with ver:=(dO m.rows F).ver+1 }).2=sb at *
    go_wp2;go_roundw
    case rel=>exact HE.out
    case measure=>simp[dG];omega
   ·have hS:=EX o 0 m i n fp Y1 fU.out.kT HO.out
    go_wp2_with fail
    refine hS.mono ?_;rintro e Y2 ⟨rfl,hBc⟩;obtain⟨lq,h3⟩:=fU.out.act hBc;have HE:aG _:=HF.out Y2 _ lq (stepM HO.out).ok (at1 HO.out HV.out HQ.out) h3;clear hS hBc h3 fU HF;go_wp2;go_roundw
    case rel=>exact HE.out
    case measure=>simp[dG];omega
  ·have k1:¬ ((0:Int)<k):=by omega
   obtain⟨vs,hpc,hov,hnB⟩:=HM.out.kT;obtain⟨A9,rfl,JD⟩:=IJ hov;have hl5:(iq A9 m).toList.length=5:=rfl;have c0:=hpc.cell 0 (by rw[hl5];omega)
   have c1:=hpc.cell 1 (by rw[hl5];omega)
   have c2:=hpc.cell 2 (by rw[hl5];omega)
   have c3:=hpc.cell 3 (by rw[hl5];omega)
   have c4:=hpc.cell 4 (by rw[hl5];omega)
   simp only[Nat.zero_add] at c0 c1 c2 c3 c4;replace c0:wr.cell? ⟨o,0,ak⟩=au (ah aA m.id):=c0;replace c1:wr.cell? ⟨o,1,ak⟩=au (ah aA m.n):=c1;replace c2:wr.cell? ⟨o,2,ak⟩=au (aj A9.ra m.rows.length A9.rc):=c2;replace c3:wr.cell? ⟨o,3,ak⟩=au (aj A9.sa m.dR.length A9.sc):=c3;replace c4:wr.cell? ⟨o,4,ak⟩=au (aF m.done):=c4;obtain⟨r0,r1,r2,r3,r4⟩:=Bx.r5 HM.out.res;obtain⟨f0',f1,f2,f3,f4⟩:=HM.out.res.f5
   have HA:aG (∀ {x0 x1 x2 x3 x4:aJ},gB (((((wr.setCell ⟨X.heap.size,0,ak⟩ x0).setCell ⟨X.heap.size,1,ak⟩ x1).setCell ⟨X.heap.size,2,ak⟩ x2).setCell ⟨X.heap.size,3,ak⟩ x3).setCell ⟨X.heap.size,4,ak⟩ x4) (jB m) (jC A9 m) fp/\Cc w (((((wr.setCell ⟨X.heap.size,0,ak⟩ x0).setCell ⟨X.heap.size,1,ak⟩ x1).setCell ⟨X.heap.size,2,ak⟩ x2).setCell ⟨X.heap.size,3,ak⟩ x3).setCell ⟨X.heap.size,4,ak⟩ x4) p a len cap bs/\X.grownBy (((((wr.setCell ⟨X.heap.size,0,ak⟩ x0).setCell ⟨X.heap.size,1,ak⟩ x1).setCell ⟨X.heap.size,2,ak⟩ x2).setCell ⟨X.heap.size,3,ak⟩ x3).setCell ⟨X.heap.size,4,ak⟩ x4) (au p)):=fun {x0 x1 x2 x3 x4}=>by
    have hw:=qG wr X.heap.size (a:=x0) (b:=x1) (c:=x2) (d:=x3) (e:=x4);have h1:=HM.out.hpo;have h3:=HM.out.lt;exact⟨iy JD hw (fun b hb e=>by have:=HM.out.jV b hb;omega),HM.out.cc.wrt hw (by omega) (fun b e=>by omega),nU HM.out.gr hw (fun b e=>by omega)⟩
   have DV:aG (∀ b,fp b->X.heap.size<=b):=fun b hb=>by have:=HM.out.jV b hb;omega
   clear hpc hov JD HM hnB hl5;go_wp2;refine bY (v:=aP #[ah aA m.id,ah aA m.n,aj A9.ra m.rows.length A9.rc,aj A9.sa m.dR.length A9.sc,aF m.done]) (by simp[results,Tryz.results105,go_sem, *]) rfl ?_
   exact⟨m,⟨⟨i,n,HO.out⟩,HV.out.mono (by omega)⟩,A9,fp,rfl,HA.out.1,DV.out,HA.out.2⟩
end
structure Dc (m:Mb) (n:Nat):Prop where
 id':-1<=m.id/\m.id<=7
 hn:m.n=(n:Int)
 n5:1<=n/\n<=5
 ok:∀ r∈m.rows,iR r n
 rl:m.rows.length<=5
 sl:m.dR.length<=61
 sg:∀ x∈m.dR,-1<=x/\x<=62
 vb:Vb m 13
theorem iO.dms {m: Mb} {n: Nat} (h:iO m i n) (hv:Vb m 13):Dc m n:=by
 have h5:=h.n5;have hl:=h.lt;exact⟨by rw[h.hid];omega,h.hn,h5,h.rowOk,by rw[h.len];omega,by have:=h.sl;omega,fun x hx=>by have:=h.elem hx;omega,hv⟩
theorem Dc.fit {m: Mb} {n: Nat} (h:Dc m n):nG m:=⟨fun r hr=>(h.ok r hr).fit,fun x hx=>by have:=h.sg x hx;omega⟩
theorem Dc.i64 {m: Mb} {n: Nat} (h:Dc m n):Fa m:=by
 have h1:=h.id';have h5:=h.n5;refine⟨⟨by omega,by omega⟩,⟨by rw[h.hn];omega,by rw[h.hn];omega⟩,fun r hr=>?_⟩
 have hr:=h.ok r hr;have hv:=hr.ver
 cases e:r.dV with
 | true=>have:=(hr.dV e).2.1;exact⟨⟨by omega,by omega⟩,by omega,by omega⟩
 | false=>rw[sQ,(hr.not e).1];exact⟨⟨by omega,by omega⟩,by omega,by omega⟩
theorem Qy {α: Type} {F: α->List dY} {s: Nat} (hF:∀ x,(F x).length=s) (hs:0<s) {x: α} {xs: List α} {g off c: Nat} {f: Fp} (h:dY.ow w (iH s F (x::xs)) (aj (au ⟨g,off,ak⟩) (xs.length+1) c) f) :
  (c=1->dY.ow w (iH s F xs) (aj (au ⟨g,off,ak⟩) 0 0) (fun _=>False)/\xs=[])/\(1<c->∃ f',dY.ow w (iH s F xs) (aj (au ⟨g,off+s,ak⟩) xs.length (c-1)) f'/\∀ b,f' b->f b):=by
 obtain⟨a0,c0,us,G,f0,e,ho,hl,hn,hf⟩:=h
 cases e
 have hlen:(x::xs).length=xs.length+1:=rfl;rw[hlen] at ho;rcases ho with ⟨h0,_⟩|⟨g0,aM4,e,ho,rfl⟩
 ·omega
 cases e
 have hle:=ho.le;refine⟨fun hc=>?_,fun hc=>?_⟩
 ·have:xs=[]:=List.eq_nil_of_length_eq_zero (by omega)
  subst this;exact⟨⟨_,0,[],ak,fun _=>False,rfl,iQ.nil _ _ (kL _ _),⟨rfl,fun _ h=>h⟩,fun _ _ h=>h,fun b=>by simp⟩,rfl⟩
 ·rw[List.flatMap_cons] at hl
  obtain⟨u1,u2,f1,f2,rfl,l1,l2,hd,hff⟩:=mP hl;have hu1:u1.length=s:=by rw[jO l1,hF]
  refine⟨fun b=>au g=au b\/f2 b,⟨au ⟨g,off+s,ak⟩,c-1,u2,au g,f2,rfl,iQ.of ?_,l2,fun b hb hk=>hn b hb ((hff b).2 (.inr hk)),fun b=>Iff.rfl⟩,fun b hb=>(hf b).2 (hb.imp id (fun h=>(hff b).2 (.inr h)))⟩
  have hm:(xs.length+1)*s=xs.length*s+s:=by rw[Nat.add_mul,Nat.one_mul]
  have hlu:=ho.len;rw[bD,hu1,hm] at hlu
  have hcs:(c-1)*s+s=c*s:=by
   have:c=(c-1)+1:=by omega
   rw[this,Nat.add_mul,Nat.one_mul];simp
  refine⟨by omega,by omega,by have:=ho.max;omega,ho.blk,fun i hi=>?_,fun i hi=>?_,fun i hi=>?_⟩
  ·have:=ho.cell (s+i) (by rw[hm];omega)
   rw[show off+s+i=off+(s+i) by omega,this,aT (by omega),hu1]
   simp
  ·have:=ho.some (s+i) (by omega)
   rwa [show off+s+i=off+(s+i) by omega]
  ·have:=ho.free (s+i) (by omega)
   rwa [show off+s+i=off+(s+i) by omega]
theorem U9 {p: Nat} {a: Option dH} {cap: Nat} {bs: Nat->Int} (h:Cc w X p a len cap bs) :
  dF dA 61 #[aO (au ⟨p,0,ak⟩)] X fun e X'=>∃ m n,Dc m n/\aj7 w X X' p a len cap bs e m:=by
 have gq:=iD;have Fb:=h.lt;have hwp:=h.hp;have b0:=dX X (aH #[ah aA 0,ah aA 0,aj ak 0 0,aj ak 0 0,aF aC] 47);have HR0:aG (Bx (X.alloc (aH #[ah aA 0,ah aA 0,aj ak 0 0,aj ak 0 0,aF aC] 47)) X.heap.size 47 #[ah aA 0,ah aA 0,aj ak 0 0,aj ak 0 0,aF aC]):=Bx.new X _ _;have wV:aG (Cc w (X.alloc (aH #[ah aA 0,ah aA 0,aj ak 0 0,aj ak 0 0,aF aC] 47)) p a len cap bs):=h.step b0;have nT:aG (X.grownBy (X.alloc (aH #[ah aA 0,ah aA 0,aj ak 0 0,aj ak 0 0,aF aC] 47)) (au p)):=⟨b0.os,b0.tape,b0.output,b0.size,fun x hx _=>b0.block x hx⟩
 have hX0:=HR0.out.lt;clear h b0;generalize qP:X.alloc (aH #[ah aA 0,ah aA 0,aj ak 0 0,aj ak 0 0,aF aC] 47)=W0 at *;have hD:=U8 wV.out;go_enter Tryz.func61,Tryz.ntmps61
 go_wp2_with fail
 refine hD.mono ?_;rintro e W3 ⟨m0,⟨⟨i,n,hok⟩,hvb⟩,A,f0,rfl,hl,hf0,c3,g3⟩;have jv:=dP (hok.dms hvb);have HN0:aG (m0.rows.length=n/\1<=n):=⟨hok.len,hok.n5.1⟩;have Ce:=dP hok.sl;have hba:=dX W3 (aH #[ah aA m0.id,ah aA m0.n,aj A.ra m0.rows.length A.rc,aj A.sa m0.dR.length A.sc,aF m0.done] 47);have hxb:=Bx.new W3 47 #[ah aA m0.id,ah aA m0.n,aj A.ra m0.rows.length A.rc,aj A.sa m0.dR.length A.sc,aF m0.done];have hrl:=(HR0.out.grown g3 (by simp;omega)).lt
 have hfl:=jd hl
 have HM:aG (MD w X (W3.alloc (aH #[ah aA m0.id,ah aA m0.n,aj A.ra m0.rows.length A.rc,aj A.sa m0.dR.length A.sc,aF m0.done] 47)) p a len cap bs W3.heap.size m0 f0):=by
  refine⟨c3.step hba,(HR0.out.grown g3 (by simp;omega)).below hba,SH hxb (gG hl hba) (fun k=>by have:=hfl _ k;omega),fun b hb=>by have:=hf0 b hb;omega,Fb,by omega, ?_⟩
  have hg2:W3.grownBy (W3.alloc (aH #[ah aA m0.id,ah aA m0.n,aj A.ra m0.rows.length A.rc,aj A.sa m0.dR.length A.sc,aF m0.done] 47)) (au p):=⟨hba.os,hba.tape,hba.output,hba.size,fun x hx _=>hba.block x hx⟩
  exact fP (fP nT.out g3) hg2
 unfold iU iq;clear hl hf0 hba hxb hok HR0 wV nT hfl c3 g3 hD;go_wp2_with fail
 generalize W3.alloc (aH #[ah aA m0.id,ah aA m0.n,aj A.ra m0.rows.length A.rc,aj A.sa m0.dR.length A.sc,aF m0.done] 47)=W4 at *;generalize W3.heap.size=o at *;refine (uq 12 HM.out.cc (by omega)).mono ?_
 rintro e W5 ⟨t,rfl,c5,g5⟩;have iM:=dP (HM.out.drawn g5 c5);clear c5 g5 HM
 go_upto_if 7 with fail
 go_cut [7] from 8 to 35 (fun _ wx=>∃ (m:Mb) (fp:Fp),Dc m n/\MD w X wx p a len cap bs o m fp)
 case first =>
  cases t with
  | false =>
   go_wp2;go_meet
   case rel=>exact⟨m0,f0,jv.out,iM.out⟩
  | true =>
   have MQ:=jP 4 4 rfl iM.out.cc (by omega) (by omega)
   go_wp2_with fail
   refine MQ.mono ?_;rintro e Y1 ⟨y,rfl,hy6,c6,g6⟩;have fU:=dP (iM.out.drawn g6 c6);clear c6 g6 MQ iM;have hys:y=0\/y=1\/y=2\/y=3:=by omega
   rcases hys with rfl|rfl|rfl|rfl
   ·have hF:=Ir (-1) 7 (by omega) (by omega) (by omega) fU.out.cc
    go_wp2_with fail
    refine hF.mono ?_;rintro e Y2 ⟨x,rfl,hx1,hx2,c7,g7⟩;have M2:=fU.out.drawn g7 c7;obtain⟨v0,z0,hB⟩:=(fH.refl M2.kT).put (j:=0) (x:=ah aA m0.id) rfl (ah aA x);obtain⟨lq,M3⟩:=M2.act (m':={ m0 with id:=x }) hB
    simp only[Nat.zero_add] at v0 z0 M3;have HE:aG (∃ (m:Mb) (fp:Fp),Dc m n/\MD w X (Y2.setCell ⟨o,0,ak⟩ (ah aA x)) p a len cap bs o m fp):=⟨{ m0 with id:=x },lq,⟨⟨hx1,hx2⟩,jv.out.hn,jv.out.n5,jv.out.ok,jv.out.rl,jv.out.sl,jv.out.sg,jv.out.vb⟩,M3⟩
    clear hF c7 g7 M2 hB M3 fU;go_wp2;go_meet
    case rel=>exact HE.out
   ·obtain⟨gg,go,gc,M1w⟩:=Mw.start fU.out.kT (by have:=HN0.out;omega)
    obtain⟨u,f,hu,hfz,how,hsub,hnB,hput⟩:=fU.out.kT.at (j:=2) (c:=iH 8 jo m0.rows) rfl;obtain rfl:=bT (hu.symm.trans M1w.rws);simp only[Nat.zero_add] at hu hfz hput
    obtain⟨r0,R,hR⟩:∃ r0 R,m0.rows=r0::R:=by
     cases e:m0.rows with
     | nil=>have:=HN0.out;rw[e] at this;simp at this;omega
     | cons r0 R=>exact⟨r0,R,rfl⟩
    have JD:m0.rows.length=R.length+1:=by rw[hR];rfl
    have hcap:R.length+1<=gc:=by
     have:=how;obtain⟨_,_,_,_,_,e,ho,_⟩:=this
     cases e
     have:=ho.le.1;omega
    rw[JD] at hu how;rw[hR] at how
    have HD:aG (∀ (u':aJ) (f':Fp),dY.ow Y1 (iH 8 jo R) u' f'->(∀ b,f' b->f b)->∃ (m:Mb) (fp:Fp),Dc m n/\MD w X (Y1.setCell ⟨o,2,ak⟩ u') p a len cap bs o m fp):=fun u' f' h1 h2=>by
     obtain⟨_,_,k3,_⟩:=hput Y1 (iH 8 jo R) u' f' (eX.refl _ _) h1 (fun b hb=>.inl (h2 b hb))
     obtain⟨lq,M3⟩:=fU.out.act (m':={ m0 with rows:=R }) k3
     exact⟨{ m0 with rows:=R },lq,⟨jv.out.id',jv.out.hn,jv.out.n5,fun r hr=>jv.out.ok r (by rw[hR];exact bC _ hr),by have:=jv.out.rl;simp only;omega,jv.out.sl,jv.out.sg,fun r hr=>jv.out.vb r (by rw[hR];exact bC _ hr)⟩,M3⟩
    have n1:(1:Int)<=((R.length+1:Nat):Int):=by omega
    have n2:(1:Int)<=(R.length:Int)+1:=by omega
    obtain⟨t1,t2⟩:=Qy jU (by omega) how
    by_cases hc1:gc=1
    ·subst hc1
     obtain⟨k1,k2⟩:=t1 rfl;subst k2;have HE:aG _:=HD.out _ _ k1 (fun b hb=>hb.elim)
     clear hput how t1 t2 HD k1 fU M1w hR JD;go_wp2;go_meet
     case rel=>exact HE.out
    ·obtain⟨f',k1,k2⟩:=t2 (by omega)
     have HE:aG _:=HD.out _ f' k1 k2;clear hput how t1 t2 HD k1 fU M1w hR JD;go_wp2;go_meet
     case rel=>exact HE.out
   ·obtain⟨u,f,hu,hfz,how,hsub,hnB,hput⟩:=fU.out.kT.at (j:=3) (c:=gJ m0.dR) rfl
    obtain⟨sa,sc,_,rfl,_⟩:=je.1 how;simp only[Nat.zero_add] at hu;have hF:=Ir (-1) 62 (by omega) (by omega) (by omega) (fU.out.step (Same.drewN Y1 1).below).cc
    clear hfz how hput;go_wp2_with fail
    refine lU (S:=fun X:aI=>X.cell? ⟨o,3,ak⟩=au (aj sa m0.dR.length sc)) 7 gq ((hu)) fun hHeld=>?_
    refine fC (i:=0) rfl hHeld ?_;refine fC (i:=1) rfl hHeld ?_;refine fE (i:=2) rfl ?_;refine iJ (i:=3) rfl fun K hK=>?_
    go_simp
    go_at_call 62
    refine hF.mono ?_;rintro e Y2 ⟨x,rfl,hx1,hx2,c7,g7⟩;have M2:=(fU.out.step (Same.drewN Y1 1).below).drawn g7 c7;obtain⟨u,f,hu2,hfz,how,hsub,hnB,hput⟩:=M2.kT.at (j:=3) (c:=gJ m0.dR) rfl;simp only[Nat.zero_add] at hu2 hput hfz;have hu3:Y2.cell? ⟨o,3,ak⟩=au (aj sa m0.dR.length sc):=g7.cell (show (Y1.drewN 1).cell? ⟨o,3,ak⟩=_ from hu) (by have:=fU.out.hpo;have:=fU.out.ho;simp;omega)
    obtain rfl:=bT (hu2.symm.trans hu3);obtain⟨a',c',ea,hA⟩:=nP x how (by have:=Ce.out;omega)
    cases ea
    refine hK.out _ _ hu3 (fun eP=>?_)
    clear hK hHeld;have hHeld:=eP;try simp only[iC]
    refine iJ (i:=4) rfl fun K hK=>?_
    go_simp;refine hK.out _ _ (((dX Y2 (aH #[ah aA x] 2)).cell (aX _ _ hu3)).trans hu3) (fun eP=>?_)
    clear hK hHeld;have hHeld:=eP;try simp only[iC]
    refine iJ (i:=5) rfl fun K hK=>?_
    refine jH (by rfl) _ _ _ _ (by rfl) (aj sa m0.dR.length sc) _ (by rfl) (by rfl) hA ⟨rfl,rfl,rfl,rfl⟩ ?_
    rintro v' w4 ⟨a4,c4,f4,rfl,q1,q2,q3⟩;obtain⟨k1,k2,k3,_⟩:=hput w4 (gJ (m0.dR++[x])) _ f4 q3 q1 q2;refine hK.out _ _ k1 (fun eP=>?_)
    clear hK hHeld;have hHeld:=eP;try simp only[iC]
    refine fC (i:=6) rfl hHeld ?_;obtain⟨lq,M3⟩:=M2.act (m':={ m0 with dR:=m0.dR++[x] }) k3
    have HE : aG (∃ (m : Mb) (fp : Fp),Dc m n /\ MD w X (w4.setCell ⟨o,3,ak⟩ (aj a4 (m0.dR.length + 1) c4)) p a len cap bs o m fp) := ⟨{ m0 with dR := m0.dR ++ [x] },lq,⟨jv.out.id',jv.out.hn,jv.out.n5,jv.out.ok,jv.out.rl,by have := Ce.out;simp;omega,fun y hy => by
     rcases List.mem_append.1 hy with h|h
     ·exact jv.out.sg y h
     ·have:y=x:=by simpa using h
      omega,jv.out.vb⟩,M3⟩
    refine oV rfl fun K hK=>?_
    go_simp;refine hK.out _ _ ?_;clear hK hHeld hF c7 g7 M2 hA hput q1 q2 q3 k3 M3 fU how hu hu2 hu3;go_wp2_with fail
    go_meet
    case rel=>exact HE.out
   ·obtain⟨v0,z0,hB⟩:=(fH.refl fU.out.kT).put (j:=4) (x:=aF m0.done) rfl (aF (!m0.done))
    obtain⟨lq,M3⟩:=fU.out.act (m':={ m0 with done:=!m0.done }) hB
    simp only[Nat.zero_add] at v0 z0 M3;have HE:aG (∃ (m:Mb) (fp:Fp),Dc m n/\MD w X (Y1.setCell ⟨o,4,ak⟩ (aF (!m0.done))) p a len cap bs o m fp):=⟨{ m0 with done:=!m0.done },lq,⟨jv.out.id',jv.out.hn,jv.out.n5,jv.out.ok,jv.out.rl,jv.out.sl,jv.out.sg,jv.out.vb⟩,M3⟩
    clear hB M3 fU;go_wp2;go_meet
    case rel=>exact HE.out
 case rest =>
  obtain⟨m,fp,hO,hM⟩:=hcut;generalize wc=Y9 at *;have HM:=dP hM;have HO:=dP hO;clear hM hO iM jv HN0;obtain⟨vs,hpc,hov,hnB⟩:=HM.out.kT;obtain⟨A9,rfl,JD⟩:=IJ hov;have hl5:(iq A9 m).toList.length=5:=rfl;have c0:=hpc.cell 0 (by rw[hl5];omega)
  have c1:=hpc.cell 1 (by rw[hl5];omega)
  have c2:=hpc.cell 2 (by rw[hl5];omega)
  have c3:=hpc.cell 3 (by rw[hl5];omega)
  have c4:=hpc.cell 4 (by rw[hl5];omega)
  simp only[Nat.zero_add] at c0 c1 c2 c3 c4;replace c0:Y9.cell? ⟨o,0,ak⟩=au (ah aA m.id):=c0;replace c1:Y9.cell? ⟨o,1,ak⟩=au (ah aA m.n):=c1;replace c2:Y9.cell? ⟨o,2,ak⟩=au (aj A9.ra m.rows.length A9.rc):=c2;replace c3:Y9.cell? ⟨o,3,ak⟩=au (aj A9.sa m.dR.length A9.sc):=c3;replace c4:Y9.cell? ⟨o,4,ak⟩=au (aF m.done):=c4;obtain⟨r0,r1,r2,r3,r4⟩:=Bx.r5 HM.out.res;obtain⟨f0',f1,f2,f3,f4⟩:=HM.out.res.f5
  have HA:aG (∀ {x0 x1 x2 x3 x4:aJ},gB (((((Y9.setCell ⟨X.heap.size,0,ak⟩ x0).setCell ⟨X.heap.size,1,ak⟩ x1).setCell ⟨X.heap.size,2,ak⟩ x2).setCell ⟨X.heap.size,3,ak⟩ x3).setCell ⟨X.heap.size,4,ak⟩ x4) (jB m) (jC A9 m) fp/\Cc w (((((Y9.setCell ⟨X.heap.size,0,ak⟩ x0).setCell ⟨X.heap.size,1,ak⟩ x1).setCell ⟨X.heap.size,2,ak⟩ x2).setCell ⟨X.heap.size,3,ak⟩ x3).setCell ⟨X.heap.size,4,ak⟩ x4) p a len cap bs/\X.grownBy (((((Y9.setCell ⟨X.heap.size,0,ak⟩ x0).setCell ⟨X.heap.size,1,ak⟩ x1).setCell ⟨X.heap.size,2,ak⟩ x2).setCell ⟨X.heap.size,3,ak⟩ x3).setCell ⟨X.heap.size,4,ak⟩ x4) (au p)):=fun {x0 x1 x2 x3 x4}=>by
   have hw:=qG Y9 X.heap.size (a:=x0) (b:=x1) (c:=x2) (d:=x3) (e:=x4);have h1:=HM.out.hpo;have h3:=HM.out.lt;exact⟨iy JD hw (fun b hb e=>by have:=HM.out.jV b hb;omega),HM.out.cc.wrt hw (by omega) (fun b e=>by omega),nU HM.out.gr hw (fun b e=>by omega)⟩
  have DV:aG (∀ b,fp b->X.heap.size<=b):=fun b hb=>by have:=HM.out.jV b hb;omega
  clear hpc hov JD HM hnB hl5;go_wp2;refine bY (v:=aP #[ah aA m.id,ah aA m.n,aj A9.ra m.rows.length A9.rc,aj A9.sa m.dR.length A9.sc,aF m.done]) (by simp[results,Tryz.results61,go_sem, *]) rfl ?_
  exact⟨m,n,HO.out,A9,fp,rfl,HA.out.1,DV.out,HA.out.2⟩
section
structure Bo (g:Gr) (n:Nat):Prop where
 mem:∀ m∈g.mem,nG m/\Fa m/\tX m<=100000
 dS:∀ x∈g.dS,qo x.row/\(ji x.fr/\ji x.to/\sQ x.row)/\H7 x<=1000
 ml:g.mem.length=n
 n4:1<=n/\n<=4
 ul:g.up.length<=5
 aC9:g.dS.length<=201
 ow:kG g n 400
theorem aD0 {g: Gr} {n: Nat} (h:OkG g n) (h4:n<=4) (ho:kG g n 325):Bo g n:=by
 refine⟨fun m hm=>?_,fun x hx=>?_,h.ml,⟨h.n5.1,h4⟩,by rw[h.ul];omega,by have:=h.pJ;omega,ho.mono (by omega)⟩
 ·obtain⟨i,ok⟩:=h.ZW hm
  exact⟨ok.fit,Jv ok,ok.small.2.2.2⟩
 ·obtain⟨i,j,h1,h2,h3,h5,_,ok⟩:=h.kU x hx
  have h5':=h.n5;exact⟨ok.fit,⟨⟨by omega,by omega⟩,⟨by omega,by omega⟩,(XC h).2 x hx |>.2.2⟩,by have:=ok.c8.2;unfold H7;omega⟩
theorem Bo.set {g:Gr} {n:Nat} (h:Bo g n) {m:Mb} (hm:nG m/\Fa m/\tX m<=100000) (hv:(dO m.rows 0).ver<=400):Bo { g with mem:=g.mem.set 0 m } n:=by
 refine⟨fun x hx=>?_,h.dS,by simp only[bQ];exact h.ml,h.n4,h.ul,h.aC9,fun k hk=>?_⟩
 ·rcases List.mem_or_eq_of_mem_set hx with k|k
  ·exact h.mem x k
  ·rw[k];exact hm
 ·have e:=vJ (g:=g) (i:=0) (j:=k) (m:=m) (by rw[h.ml];exact h.n4.1)
  unfold Gr.set at e;unfold xQ;rw[e]
  split
  ·rename_i k0;rw[k0];exact hv
  ·exact h.ow k hk
theorem TP {Y Y2: aI} {p: Nat} {a: Option dH} {cap: Nat} {bs: Nat->Int} {o: Nat} {g: Gr} {fp: Fp} (h:qV w X Y p a len cap bs o g fp) (hg:Y.grownBy Y2 (au p)) (hc:Cc w Y2 p a len cap bs) :
  ∃ V:aI,qV w X V p a len cap bs o g fp/\V.heap.size=Y.heap.size/\Below V.heap.size V Y2/\∀ b,b≠p->V.heap[b]?=Y.heap[b]?:=by
 have hpY:=h.cc.lt;obtain⟨i,x,hi,hh⟩:=hc.cur
 have hb:∀ b,b≠p->(Y.heap.setIfInBounds p (aH #[aj a len cap,ah aA (i:Int),ah aA x] 96 (0,0)))[b]?=Y.heap[b]?:=fun b hne=>by
  rw[Array.getElem?_setIfInBounds_ne (fun e=>hne e.symm)]
 have hp:(Y.heap.setIfInBounds p (aH #[aj a len cap,ah aA (i:Int),ah aA x] 96 (0,0)))[p]?=Y2.heap[p]?:=by
  rw[Array.getElem?_setIfInBounds_self_of_lt hpY,hh]
 have hs:(Y.heap.setIfInBounds p (aH #[aj a len cap,ah aA (i:Int),ah aA x] 96 (0,0))).size=Y.heap.size:=by simp
 have hgV:Y.grownBy { Y with heap:=Y.heap.setIfInBounds p (aH #[aj a len cap,ah aA (i:Int),ah aA x] 96 (0,0)) } (au p):=⟨rfl,rfl,rfl,Nat.le_of_eq hs.symm,fun b _ hne=>hb b (fun e=>hne (by rw[e]))⟩
 refine⟨{ Y with heap:=Y.heap.setIfInBounds p (aH #[aj a len cap,ah aA (i:Int),ah aA x] 96 (0,0)) },h.drawn hgV (h.cc.drawn hgV ⟨i,x,hi,hp.trans hh⟩),hs,⟨hg.os,hg.tape,hg.output, ?_,fun b hlt=>?_⟩,hb⟩
 ·show (Y.heap.setIfInBounds p _).size<=_
  rw[hs];exact hg.size
 ·show Y2.heap[b]?=(Y.heap.setIfInBounds p _)[b]?
  by_cases e:b=p
  ·rw[e];exact hp.symm
  ·rw[hb b e]
   have hlt':b<Y.heap.size:=by have h1:b<(Y.heap.setIfInBounds p (aH #[aj a len cap,ah aA (i:Int),ah aA x] 96 (0,0))).size:=hlt;rw[hs] at h1;exact h1
   exact hg.block b hlt' (fun k=>e (bT k))
theorem uH.sz2 (h:uH r):kH r<=1000:=by
 have h1:=CG h.ts r.txt.length (cO _);have:=h.tl;have:=h.gl;have:=h.sl;have:=h.ml;have h2:=Nat.mul_le_mul_right 21 h.tl;unfold kH;omega
theorem Dc.sz2 {m: Mb} {n: Nat} (h:Dc m n):tX m<=100000:=by
 have e2:Gy m.rows m.rows.length<=300*m.rows.length:=by
  unfold Gy;rw[List.take_length];exact CJ kH 300 m.rows (fun r hr=>(h.ok r hr).c8.2)
 have:=h.rl;have:=h.sl;unfold tX H6;omega
theorem ag6 (w:aI) (x:Int):jE (w.alloc (aH #[ah aA x] 2)) 1 w.heap.size 0 1 1 ([x].map (dB aA)):=by
 have hb:=Bx.new w 2 #[ah aA x];refine⟨rfl,cO _,by unfold dD;omega,hb.lt,fun i hi=>?_,fun i hi=>?_,fun i hi=>hb.f _⟩
 ·obtain rfl:i=0:=by omega
  exact hb.at 0 rfl
 ·obtain rfl:i=0:=by omega
  rw[show (0:Nat)+0=0 from rfl,hb.at 0 rfl]
  rfl
theorem ag7 {m: Mb} {n: Nat} (h:iO m i n):H6 m.rows<=2000:=by
 have e2:Gy m.rows m.rows.length<=300*m.rows.length:=by
  unfold Gy;rw[List.take_length];exact CJ kH 300 m.rows (fun r hr=>(h.rowOk r hr).c8.2)
 have:=h.len;have:=h.n5;unfold H6;omega
theorem at6 {m: Mb} {n: Nat} (h:iO m 0 n) (hn:0<n):nG { m with rows:=m.rows.set 0 { dO m.rows 0 with wed:=aB,dV:=aB,dU:=(dO m.rows 0).got },done:=aB }/\Fa { m with rows:=m.rows.set 0 { dO m.rows 0 with wed:=aB,dV:=aB,dU:=(dO m.rows 0).got },done:=aB }/\tX { m with rows:=m.rows.set 0 { dO m.rows 0 with wed:=aB,dV:=aB,dU:=(dO m.rows 0).got },done:=aB }<=100000:=by
 have hf:=h.fit;have h6:=Jv h;have ok:=h.ok 0 hn;have hin:dO m.rows 0∈m.rows:=pG (by rw[h.len];exact hn)
 have hl:=h.len;have h5:=h.n5;have hs:=h.sl;refine⟨⟨fun r hr=>?_,hf.2⟩,⟨h6.1,h6.2.1,fun r hr=>?_⟩, ?_⟩
 ·rcases List.mem_or_eq_of_mem_set hr with k|k
  ·exact hf.1 r k
  ·rw[k];exact⟨ok.fit.1,ok.fit.2.1,ok.fit.1⟩
 ·rcases List.mem_or_eq_of_mem_set hr with k|k
  ·exact h6.2.2 r k
  ·rw[k];exact (h6.2.2 _ hin:ji (dO m.rows 0).ver/\ji (dO m.rows 0).dW)
 ·have hz:kH { dO m.rows 0 with wed:=aB,dV:=aB,dU:=(dO m.rows 0).got }<=400:=by
   have h1:=ok.c8.2;have h2:=ok.gl;unfold kH at h1 ⊢;simp only
   omega
  generalize ({ dO m.rows 0 with wed:=aB,dV:=aB,dU:=(dO m.rows 0).got }:Rw)=r' at hz ⊢
  have e2:Gy (m.rows.set 0 r') (m.rows.set 0 r').length<=400*(m.rows.set 0 r').length:=by
   unfold Gy;rw[List.take_length];refine CJ kH 400 _ (fun r hr=>?_)
   rcases List.mem_or_eq_of_mem_set hr with k|k
   ·have:=(h.rowOk r k).c8.2;omega
   ·rw[k];exact hz
  unfold tX H6;rw[bQ] at e2;simp only[bQ]
  omega
theorem Bo.push {g: Gr} {n: Nat} (h:Bo g n) {x y: Int} (hr:uH r) (hx:ji x) (hy:ji y) (hl:g.dS.length<=200):Bo { g with dS:=g.dS++[⟨x,y,r⟩] } n:=by
 have hx:qo (⟨x,y,r⟩:Ml).row/\(ji (⟨x,y,r⟩:Ml).fr/\ji (⟨x,y,r⟩:Ml).to/\sQ (⟨x,y,r⟩:Ml).row)/\H7 ⟨x,y,r⟩<=1000:=⟨hr.fit,⟨hx,hy,hr.i64⟩,hr.sz2⟩;refine⟨h.mem,fun y hy=>?_,h.ml,h.n4,h.ul,by simp only[bD,List.length_singleton];omega,h.ow.C9 rfl⟩
 rcases List.mem_append.1 hy with k|k
 ·exact h.dS y k
 ·rw[List.mem_singleton.1 k];exact hx
def DgA (g:Gr):Prop:=∃ n,Bo g n
attribute [local irreducible] sv
theorem Va {p: Nat} {a: Option dH} {cap: Nat} {bs: Nat->Int} (h:Cc w X p a len cap bs) :
  dF dA 29 #[aO (au ⟨p,0,ak⟩)] X fun e X'=>∃ g,DgA g/\aj6 w X X' p a len cap bs e g:=by
 have gq:=iD;have Fb:=h.lt;have hwp:=h.hp;have b0:=dX X (aH #[aj ak 0 0,aj ak 0 0,aj ak 0 0] 28);have HR0:aG (Bx (X.alloc (aH #[aj ak 0 0,aj ak 0 0,aj ak 0 0] 28)) X.heap.size 28 #[aj ak 0 0,aj ak 0 0,aj ak 0 0]):=Bx.new X _ _;have wV:aG (Cc w (X.alloc (aH #[aj ak 0 0,aj ak 0 0,aj ak 0 0] 28)) p a len cap bs):=h.step b0;have nT:aG (X.grownBy (X.alloc (aH #[aj ak 0 0,aj ak 0 0,aj ak 0 0] 28)) (au p)):=⟨b0.os,b0.tape,b0.output,b0.size,fun x hx _=>b0.block x hx⟩
 have hX0:=HR0.out.lt;clear h b0;generalize qP:X.alloc (aH #[aj ak 0 0,aj ak 0 0,aj ak 0 0] 28)=W0 at *;have hD:=U7 wV.out;go_enter Tryz.func29,Tryz.ntmps29
 go_wp2_with fail
 refine hD.mono ?_;rintro e W3 ⟨g0,⟨n,hok,hn4,how⟩,A,yZ,rfl,hl,hf,c3,g3⟩;have G:=hok.pR;have jv:=dP (aD0 G hn4 how);have iE:=dP G;have HM:aG (qV w X (W3.alloc (aH #[aj A.ma g0.mem.length A.mc,aj A.ua g0.up.length A.uc,aj A.la g0.dS.length A.lc] 28)) p a len cap bs W3.heap.size g0 yZ):=TN c3 (HR0.out.grown g3 (by simp;omega)) (fP nT.out g3) Fb hl (fun b hb=>by have:=hf b hb;omega)
 have hn1:1<=n:=G.n5.1;unfold gX iW;clear hl hf hok how G HR0 wV nT c3 g3 hD qP;go_wp2_with fail
 generalize W3.alloc (aH #[aj A.ma g0.mem.length A.mc,aj A.ua g0.up.length A.uc,aj A.la g0.dS.length A.lc] 28)=W4 at *;generalize W3.heap.size=o at *;refine (uq 10 HM.out.cc (by omega)).mono ?_
 rintro e W5 ⟨t,rfl,c5,g5⟩;have iM:=dP (HM.out.drawn g5 c5);clear c5 g5 HM
 go_upto_if 8 with fail
 go_cut [8] from 9 to 74 (fun _ wx=>∃ (g:Gr) (fp:Fp),Bo g n/\qV w X wx p a len cap bs o g fp)
 case first =>
  cases t with
  | false =>
   go_wp2;go_meet
   case rel=>exact⟨g0,yZ,jv.out,iM.out⟩
  | true =>
   have MQ:=jP 5 5 rfl iM.out.cc (by omega) (by omega)
   go_wp2_with fail
   refine MQ.mono ?_;rintro e Y1 ⟨y,rfl,hy6,c6,g6⟩;have fU:=dP (iM.out.drawn g6 c6);have hml:=jv.out.ml;have wR:=dP hml;have hm0:0<g0.mem.length:=by omega
   have hm1:(0:Int)<g0.mem.length:=by omega
   clear c6 g6 MQ iM hml;have hys:y=0\/y=1\/y=2\/y=3\/y=4:=by omega
   clear hy6;rcases hys with rfl|rfl|rfl|rfl|rfl
   ·obtain⟨b,off,c,G0⟩:=Gw.start fU.out.kT hm0
    have hu:=G0.mem;have hD:=U9 (fU.out.step (Same.drewN Y1 1).below).cc;clear G0;go_wp2_with fail
    refine lU (S:=fun X:aI=>X.cell? ⟨o,0,ak⟩=au (aj (au ⟨b,off,ak⟩) g0.mem.length c)) 5 gq ((hu)) fun hHeld=>?_
    refine fE (i:=0) rfl ?_;refine fC (i:=1) rfl hHeld ?_;refine fE (i:=2) rfl ?_;refine iJ (i:=3) rfl fun K hK=>?_
    go_simp
    go_at_call 61
    refine hD.mono ?_;rintro e Y2 ⟨m',n',hS',Am,fm,rfl,hl,hfm,c7,g7⟩;have hu3:Y2.cell? ⟨o,0,ak⟩=au (aj (au ⟨b,off,ak⟩) g0.mem.length c):=g7.cell (show (Y1.drewN 1).cell? ⟨o,0,ak⟩=_ from hu) (by have:=fU.out.hpo;have:=fU.out.ho;simp;omega)
    obtain⟨V,hV,LK,Qz,hVe⟩:=TP (fU.out.step (Same.drewN Y1 1).below) g7 c7;obtain⟨b',off',c',G1⟩:=Gw.start hV.kT hm0;have e1:=bT ((gy Qz G1.mem).symm.trans hu3)
    cases e1
    have hG:=G1.Nl (k:=0) hm0 Qz hl (fun b hb=>by have:=hfm b hb;rw[LK];exact this)
    obtain⟨lq,M3,_⟩:=hV.act hG.iw;obtain⟨f9,hpl,_⟩:=G1.mb (k:=0) hm0;simp only[Nat.zero_mul,Nat.add_zero] at hpl M3;have hpl2:=hpl.below Qz;obtain⟨_,_,x0,z0,_⟩:=hpl2.at (j:=0) rfl;obtain⟨_,_,x1,z1,_⟩:=hpl2.at (j:=1) rfl;obtain⟨_,_,x2,z2,_⟩:=hpl2.at (j:=2) rfl;obtain⟨_,_,x3,z3,_⟩:=hpl2.at (j:=3) rfl;obtain⟨_,_,x4,z4,_⟩:=hpl2.at (j:=4) rfl;simp only[Nat.add_zero] at x0 z0;have HE:aG (∃ (g:Gr) (fp:Fp),Bo g n/\qV w X _ p a len cap bs o g fp):=⟨_,lq,jv.out.set ⟨hS'.fit,hS'.i64,hS'.sz2⟩ (by have:=hS'.vb.row (by omega) 0;omega),M3⟩
    refine hK.out _ _ hu3 (fun eP=>?_)
    clear hK hHeld;have hHeld:=eP;try simp only[iC]
    unfold iU;unfold iq;refine fE (i:=4) rfl ?_;refine oV rfl fun K hK=>?_
    go_simp;refine hK.out _ _ ?_;clear hK hHeld hD c7 g7 hV LK Qz hVe G1 hG hpl hpl2 M3 hS' hl hfm fU hu hu3 x0 x1 x2 x3 x4 z0 z1 z2 z3 z4;go_wp2_with fail
    go_meet
    case rel=>exact HE.out
   ·obtain⟨u,f,hu,hfz,how,hsub,hnB,hput⟩:=fU.out.kT.at (j:=1) (c:=vZ g0.up) rfl
    simp only[Nat.zero_add] at hu hfz hput
    obtain⟨u0,R,hR⟩:∃ u0 R,g0.up=u0::R:=by
     cases e:g0.up with
     | nil=>have:=iE.out.ul;rw[e] at this;simp at this;omega
     | cons u0 R=>exact⟨u0,R,rfl⟩
    have FX:R.length+1<=5:=by have:=jv.out.ul;rw[hR] at this;simpa using this
    rw[hR,xI] at how
    obtain⟨gg,go_,gc,rfl,hcap⟩:∃ gg go_ gc,u=aj (au ⟨gg,go_,ak⟩) (R.length+1) gc/\R.length+1<=gc:=by
     obtain⟨a1,c1,us,G1,f1,e,ho,_⟩:=how;rcases ho with ⟨h0,_⟩|⟨g2,off2,e2,ho,_⟩
     ·simp at h0
     ·exact⟨g2,off2,c1,by rw[e,e2];rfl,ho.le⟩
    have HD:aG (∀ (u':aJ) (f':Fp),dY.ow Y1 (iH 1 F7 R) u' f'->(∀ b,f' b->f b)->∃ (g:Gr) (fp:Fp),Bo g n/\qV w X (Y1.setCell ⟨o,1,ak⟩ u') p a len cap bs o g fp):=fun u' f' h1 h2=>by
     rw[<- xI] at h1;obtain⟨_,_,k3,_⟩:=hput Y1 (vZ R) u' f' (eX.refl _ _) h1 (fun b hb=>.inl (h2 b hb))
     obtain⟨lq,M3,_⟩:=fU.out.act (g':={ g0 with up:=R }) k3
     exact⟨{ g0 with up:=R },lq,⟨jv.out.mem,jv.out.dS,jv.out.ml,jv.out.n4,by simp only;omega,jv.out.aC9,jv.out.ow.C9 rfl⟩,M3⟩
    have n1:(1:Int)<=((R.length+1:Nat):Int):=by omega
    have n2:(1:Int)<=(R.length:Int)+1:=by omega
    obtain⟨t1,t2⟩:=Qy JZ (by omega) how
    by_cases hc1:gc=1
    ·subst hc1
     obtain⟨k1,k2⟩:=t1 rfl;subst k2;have HE:aG _:=HD.out _ _ k1 (fun b hb=>hb.elim)
     clear hput how t1 t2 HD k1 fU hR;go_wp2;go_meet
     case rel=>exact HE.out
    ·obtain⟨f',k1,k2⟩:=t2 (by omega)
     have HE:aG _:=HD.out _ f' k1 k2;clear hput how t1 t2 HD k1 fU hR;go_wp2;go_meet
     case rel=>exact HE.out
   ·obtain⟨b,off,c,G0⟩:=Gw.start fU.out.kT hm0
    have hu:=G0.mem;obtain⟨um,fm,hu2,_,Hr,_⟩:=fU.out.kT.at (j:=2) (c:=iH 10 kS g0.dS) rfl;obtain⟨la,lc,_,_,_,rfl,_⟩:=Hr;simp only[Nat.zero_add] at hu2;have hop:o≠p:=by have:=fU.out.hpo;have:=fU.out.ho;omega
    have TQ:∀ {Y Y':aI} {j:Nat} {v:aJ},Y.grownBy Y' (au p)->Y.cell? ⟨o,j,ak⟩=au v->Y'.cell? ⟨o,j,ak⟩=au v:=fun hg h=>hg.cell h (by simp;exact fun e=>hop e)
    have hF3:=Ir (-1) 6 (by omega) (by omega) (by omega) (fU.out.step (Same.drewN Y1 1).below).cc
    have aO8:=dP wR.out;clear G0;go_wp2_with fail
    refine lU (S:=fun X:aI=>X.cell? ⟨o,2,ak⟩=au (aj la g0.dS.length lc)/\X.cell? ⟨o,0,ak⟩=au (aj (au ⟨b,off,ak⟩) g0.mem.length c)) 15 gq ((⟨hu2,hu⟩)) fun hHeld=>?_
    refine fE (i:=0) rfl ?_;refine fC (i:=1) rfl hHeld ?_;refine fE (i:=2) rfl ?_;refine fE (i:=4) rfl ?_;refine fE (i:=6) rfl ?_;refine fE (i:=7) rfl ?_;refine fC (i:=8) rfl hHeld ?_;refine fE (i:=9) rfl ?_;refine iJ (i:=3) rfl fun K hK=>?_
    go_simp
    go_at_call 62
    refine hF3.mono ?_;rintro e Y2 ⟨xf,rfl,hx1,hx2,c7,g7⟩;have M2:=(fU.out.step (Same.drewN Y1 1).below).drawn g7 c7;have v2:Y2.cell? ⟨o,2,ak⟩=au (aj la g0.dS.length lc):=TQ g7 (show (Y1.drewN 1).cell? ⟨o,2,ak⟩=_ from hu2)
    have v0:Y2.cell? ⟨o,0,ak⟩=au (aj (au ⟨b,off,ak⟩) g0.mem.length c):=TQ g7 (show (Y1.drewN 1).cell? ⟨o,0,ak⟩=_ from hu)
    have hF5:=Ir (-1) 6 (by omega) (by omega) (by omega) c7
    refine hK.out _ _ ⟨v2,v0⟩ (fun eP=>?_)
    clear hK hHeld;have hHeld:=eP;try simp only[iC]
    refine iJ (i:=5) rfl fun K hK=>?_
    go_simp
    go_at_call 62
    refine hF5.mono ?_;rintro e Y3 ⟨xt,rfl,ht1,ht2,c8,g8⟩;have M3:=M2.drawn g8 c8;have y2:=TQ g8 v2;have y0:=TQ g8 v0;have aD1:=DC g0.mem.length (g0.mem.length:Int) rfl (by have:=jv.out.n4;have:=wR.out;omega) c8
    refine hK.out _ _ ⟨y2,y0⟩ (fun eP=>?_)
    clear hK hHeld;have hHeld:=eP;try simp only[iC]
    refine iJ (i:=10) rfl fun K hK=>?_
    go_simp
    go_at_call 63
    refine aD1.mono ?_;rintro e Y4 ⟨Ar,r,fr,rfl,hr,hl,hlo,c9,g9⟩;obtain⟨V,hV,LK,Qz,hVe⟩:=TP M3 g9 c9;obtain⟨b',off',c',G1⟩:=Gw.start hV.kT hm0;have eV:∀ j,V.cell? ⟨o,j,ak⟩=Y3.cell? ⟨o,j,ak⟩:=fun j=>bf (hVe o hop)
    have e1:=bT (G1.mem.symm.trans ((eV 0).trans y0))
    cases e1
    obtain⟨u9,f9,f0,k1,k2,k3,k4,k5,k6,_,_,k8⟩:=G1.full;have e2:=bT (k1.symm.trans ((eV 2).trans y2));subst e2;have hA:=Gw.Uy (x:=⟨xf,xt,r⟩) k3 k6 k8 Qz hl (fun b hb=>by rw[LK];exact hlo b hb) (by have:=iE.out.pJ;omega)
    have z2:=TQ g9 y2;have z0:=TQ g9 y0;have hKm:∀ {Y:aI},eX f9 V Y->Y.cell? ⟨o,0,ak⟩=au (aj (au ⟨b,off,ak⟩) g0.mem.length c):=fun hw=>(bf (hw.block o k5 k4)).trans G1.mem
    refine hK.out _ _ ⟨z2,z0⟩ (fun eP=>?_)
    clear hK hHeld;have hHeld:=eP;try simp only[iC]
    unfold iK;unfold fQ;unfold yU at hA;refine fE (i:=11) rfl ?_;refine iJ (i:=12) rfl fun K hK=>?_
    go_simp;refine hK.out _ _ ⟨((dX Y4 _).cell (aX _ _ z2)).trans z2,((dX Y4 _).cell (aX _ _ z0)).trans z0⟩ (fun eP=>?_)
    clear hK hHeld;have hHeld:=eP;try simp only[iC]
    refine iJ (i:=13) rfl fun K hK=>?_
    refine jH (by rfl) _ _ _ _ (by rfl) (aj la g0.dS.length lc) _ (by rfl) (by rfl) hA ⟨rfl,rfl,rfl,rfl⟩ ?_
    rintro v9 w4 ⟨a9,c10,rfl,hw4,q1,q2,EJ⟩;refine hK.out _ _ ⟨q1,hKm hw4⟩ (fun eP=>?_)
    clear hK hHeld;have hHeld:=eP;try simp only[iC]
    refine fE (i:=14) rfl ?_;obtain⟨lq,M9,_⟩:=hV.act EJ.iw;have HE:aG (∃ (g:Gr) (fp:Fp),Bo g n/\qV w X (w4.setCell ⟨o,2,ak⟩ (aj a9 (g0.dS.length+1) c10)) p a len cap bs o g fp):=⟨_,lq,jv.out.push hr ⟨by omega,by omega⟩ ⟨by omega,by omega⟩ iE.out.pJ,M9⟩
    refine oV rfl fun K hK=>?_
    go_simp;refine hK.out _ _ ?_;clear hK hHeld hF3 hF5 aD1 c7 c8 c9 g7 g8 g9 M2 M3 hV LK Qz hVe G1 eV k1 k2 k3 k4 k5 k6 k8 hA hKm hw4 q1 q2 EJ M9 hr hl hlo fU hu hu2 v0 v2 y0 y2 z0 z2;go_wp2_with fail
    go_meet
    case rel=>exact HE.out
   ·obtain⟨b,off,c,G0⟩:=Gw.start fU.out.kT hm0
    have hu:=G0.mem;obtain⟨f9,hpl,hbk⟩:=G0.mb (k:=0) hm0;obtain⟨u,f,hu3,hfz,how,hsub,hnB,hput⟩:=hpl.at (j:=3) (c:=gJ (eF g0 0).dR) rfl;have hba:=dX Y1 (aH #[ah aA 1] 2);have qR:dY.ow (Y1.alloc (aH #[ah aA 1] 2)) (gJ [1]) (aj (au ⟨Y1.heap.size,0,ak⟩) 1 1) (fun b=>au Y1.heap.size=au b):=je.2 ⟨_,1,au Y1.heap.size,rfl,iQ.of (ag6 Y1 1),fun b=>Iff.rfl⟩
    obtain⟨q1,q2,q3,_⟩:=hput (Y1.alloc (aH #[ah aA 1] 2)) (gJ [1]) (aj (au ⟨Y1.heap.size,0,ak⟩) 1 1) _ (eX.of_below hba) qR (fun b e=>.inr (by cases e;exact cO _))
    have hG:=hbk _ { eF g0 0 with dR:=[1] } q3
    obtain⟨lq,M3,_⟩:=fU.out.act hG.iw;simp only[Nat.zero_mul,Nat.add_zero] at q1 q2 M3;have hmm:=jv.out.mem (eF g0 0) (Ae hm0);have HE:aG (∃ (g:Gr) (fp:Fp),Bo g n/\qV w X _ p a len cap bs o g fp):=⟨_,lq,jv.out.set (m:={ eF g0 0 with dR:=[1] }) ⟨⟨hmm.1.1,fun x hx=>by rw[List.mem_singleton.1 hx];omega⟩,hmm.2.1,by have:=hmm.2.2;unfold tX at this ⊢;simp only[List.length_singleton];have h5:=iE.out.mem 0 (by omega);have:=ag7 h5;omega⟩ (by have:=jv.out.ow 0 (by omega);exact this),M3⟩
    clear hput hG hbk how qR q3 M3 hmm fU hpl G0 hu3 hba;go_wp2;go_meet
    case rel=>exact HE.out
   ·obtain⟨b,off,c,G0⟩:=Gw.start fU.out.kT hm0
    have hu:=G0.mem;obtain⟨f9,hpl,hbk⟩:=G0.mb (k:=0) hm0;have okm:=iE.out.mem 0 (by omega)
    have hr0:0<(eF g0 0).rows.length:=by rw[okm.len];omega
    have hr1:(0:Int)<((eF g0 0).rows.length:Int):=by omega
    have IB:=okm.ok 0 (by omega)
    obtain⟨rg,ro,rc,fr,hrw,hne,_,_,ag8,Vd⟩:=hpl.el (F:=jo) jU (by omega) (j:=2) (L:=(eF g0 0).rows) rfl (k:=0) (iV hr0)
    have HQ:aG (nG { eF g0 0 with rows:=(eF g0 0).rows.set 0 { dO (eF g0 0).rows 0 with wed:=aB,dV:=aB,dU:=(dO (eF g0 0).rows 0).got },done:=aB }/\Fa { eF g0 0 with rows:=(eF g0 0).rows.set 0 { dO (eF g0 0).rows 0 with wed:=aB,dV:=aB,dU:=(dO (eF g0 0).rows 0).got },done:=aB }/\tX { eF g0 0 with rows:=(eF g0 0).rows.set 0 { dO (eF g0 0).rows 0 with wed:=aB,dV:=aB,dU:=(dO (eF g0 0).rows 0).got },done:=aB }<=100000):=at6 okm (by omega)
    have HV:aG ((dO ((eF g0 0).rows.set 0 { dO (eF g0 0).rows 0 with wed:=aB,dV:=aB,dU:=(dO (eF g0 0).rows 0).got }) 0).ver<=400):=by
     rw[aG,gY hr0,if_pos rfl];exact jv.out.ow 0 (by omega)
    have hgf:=IB.fit.1;have hgl:(dO (eF g0 0).rows 0).got.length<=1000000:=by have:=IB.gl;omega
    generalize hrr:dO (eF g0 0).rows 0=r at *;generalize hmm:eF g0 0=m at *;simp only[Nat.zero_mul,Nat.add_zero] at hpl hbk hrw ag8 Vd;obtain⟨w4,z4,B1⟩:=(fH.refl ag8).put (j:=4) (x:=aF r.wed) rfl (aF aB);obtain⟨w5,z5,B2⟩:=B1.put (j:=5) (x:=aF r.dV) rfl (aF aB);generalize hYb:(Y1.setCell ⟨rg,ro+4,ak⟩ (aF aB)).setCell ⟨rg,ro+5,ak⟩ (aF aB)=Yb at *;obtain⟨u2,f2,w2,_,ow2,_⟩:=B2.at (j:=2) (c:=gJ r.got) rfl;obtain⟨ga,gc,rfl,EU,_,_⟩:=l7 (dY.wF ow2) hgf;obtain⟨u7,f7,w7,z7,ow7,aj8⟩:=B2.at (j:=7) (c:=gJ r.dU) rfl;have hba:=dX Yb (aH #[] 2);have w2':=gy hba w2;have hA:=wS (c:=gc) EU hgl
    have Dw:aG (∀ (w9:aI) (a9:Option dH) (c9:Nat) (TR:Fp),dY.ow w9 (gJ r.got) (aj a9 r.got.length c9) TR->(∀ b,TR b->Yb.heap.size<=b)->Below Yb.heap.size Yb w9->w9.cell? ⟨rg,ro+7,ak⟩=au u7/\w9.frozen? ⟨rg,ro+7,ak⟩=aC/\∃ B9:fH Y1 (w9.setCell ⟨rg,ro+7,ak⟩ (aj a9 r.got.length c9)) b off (jY { m with rows:=m.rows.set 0 { r with wed:=aB,dV:=aB,dU:=r.got } }) f9,True):=fun w9 a9 c9 TR h1 h2 h3=>by
     obtain⟨q1,q2,q3,_⟩:=aj8 w9 (gJ r.got) (aj a9 r.got.length c9) TR (eX.of_below h3) h1 (fun b hb=>.inr (h2 b hb))
     exact⟨q1,q2,Vd _ { r with wed:=aB,dV:=aB,dU:=r.got } q3,trivial⟩
    have Wp:=dP hbk;clear aj8 Vd hbk hpl ag8 B1 B2 ow2 ow7 EU G0 okm IB hba hgf;go_upto_region 17 with (at_builtin;refine fG (by rfl) _ _ _ _ (by rfl) _ _ (by rfl) (by rfl) hA ⟨rfl,rfl,rfl,rfl⟩ ?_;rintro v9 w9 ⟨a9,c9,TR,rfl,k1,k2,k3⟩;obtain⟨q1,q2,B9,_⟩:=Dw.out w9 a9 c9 TR k1 k2 k3)
    generalize w9.setCell ⟨rg,ro+7,ak⟩ (aj a9 r.got.length c9)=W9 at *;have EJ:=Wp.out _ _ B9;obtain⟨x4,y4,B10⟩:=B9.put (j:=4) (x:=aF m.done) rfl (aF aB);have hu9:=EJ.mem;simp only[bQ] at hu9;have aD2:=Wp.out _ { m with rows:=m.rows.set 0 { r with wed:=aB,dV:=aB,dU:=r.got },done:=aB } B10
    obtain⟨lq,M3,_⟩:=fU.out.act aD2.iw;have HE:aG (∃ (g:Gr) (fp:Fp),Bo g n/\qV w X (W9.setCell ⟨b,off+4,ak⟩ (aF aB)) p a len cap bs o g fp):=⟨_,lq,jv.out.set HQ.out HV.out,M3⟩;clear hA Dw Wp EJ B9 B10 aD2 M3 fU k1 k2 k3 q1 q2 hu hrw w4 z4 w5 z5 w2 w2' w7 z7 hYb;go_wp2;go_meet
    case rel=>exact HE.out
 case rest =>
  obtain⟨g,fp,hO,hM⟩:=hcut;generalize wc=Y9 at *;have HM:=dP hM;have HO:aG (DgA g):=⟨n,hO⟩;clear hM hO iM jv;obtain⟨A9,⟨c0,c1,c2⟩,hown,hfin⟩:=HM.out.done;have HFin:=dP hfin;have Oo:aG (∀ b,fp b->X.heap.size<=b):=fun b hb=>by have:=HM.out.jV b hb;omega
  obtain⟨z0,z1,z2⟩:=Bx.g3 HM.out.res;obtain⟨f0,f1,f2⟩:=HM.out.res.f3;clear hown hfin HM;go_wp2;refine bY (v:=gX A9 g) (by simp[results,Tryz.results29,go_sem,gX,iW, *]) rfl ?_
  obtain⟨q1,q2,q3⟩:=HFin.out (aj A9.ma g.mem.length A9.mc) (aj A9.ua g.up.length A9.uc) (aj A9.la g.dS.length A9.lc);exact⟨g,HO.out,A9,fp,rfl,q1,Oo.out,q2,q3⟩
end
end Go.Proofs.YtafimeakbdmkjaaGreat