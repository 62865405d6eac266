/-
  Texts in one.
-/
import Derived.Test.YtafimeakbdmkjaaGreatZaa
import Derived.Test.YtafimeakbdmkjaaGreatZan
import Derived.Test.YtafimeakbdmkjaaGreatZax
import Derived.Test.YtafimeakbdmkjaaGreatZag
import Derived.Test.YtafimeakbdmkjaaGreatZam
import Derived.Test.YtafimeakbdmkjaaGreatZal
import Derived.Test.YtafimeakbdmkjaaGreatZae
import Derived.Deep.CutRange
namespace Go.Proofs.YtafimeakbdmkjaaGreat
set_option linter.unusedVariables false
set_option linter.unusedSimpArgs false
open Go.RowKit Go.Sort
set_option maxRecDepth 100000
set_option maxHeartbeats 12800000
section
theorem as8 (L:List Ac):L.flatMap vC=pl (ou L):=by
 induction L with
 | nil=>rfl
 | cons x L ih =>
  rw[List.flatMap_cons,ih]
  show vC x++pl (ou L)=pl ((pR x).toList++ou L)
  unfold pl;rw[List.map_append]
  rfl
theorem MJ {w:World} {a:Option Addr} {c:Nat} {L:List Ac} {G:Option Nat} (h:dR w 4 a L.length c (ou L) G):aI.ow w (dA 4 vC L) (.slice a L.length c) (fun b=>G=some b) :=
 ⟨a,c,ou L,G,fun _=>False,rfl,h,by rw[as8];exact nH.2 ⟨rfl,fun _ h=>h⟩,fun _ _ h=>h,fun b=>⟨.inl,fun h=>h.elim id False.elim⟩⟩
theorem ZG {w X Y:World} {p:Nat} {a:Option Addr} {len cap:Nat} {bs:Nat→Int} {oa:Option Addr} {c:Nat} {G:Option Nat} {L:List Ac} (h:AL w X Y p a len cap bs oa c G L):aI.ow Y (dA 4 vC L) (.slice oa L.length c) (fun b=>G=some b):=MJ h.own
structure mX (w X Y:World) (p:Nat) (a:Option Addr) (len cap:Nat) (bs:Nat→Int) (o:Nat) (g:Gr) (fp:Fp):Prop where
 cc:Cc w Y p a len cap bs
 res:Bx Y X.heap.size 28 #[.slice none 0 0,.slice none 0 0,.slice none 0 0]
 iY:dN Y o 0 (dB g) fp
 iq:∀ b,fp b→X.heap.size<b
 hpo:p<X.heap.size
 ho:X.heap.size<o
 gr:X.grownBy Y (some p)
section
variable {w X Y Y':World} {p:Nat} {a:Option Addr} {len cap:Nat} {bs:Nat→Int} {o:Nat} {g g':Gr} {fp:Fp}
theorem mX.lt (h:mX w X Y p a len cap bs o g fp):w.heap.size≤X.heap.size:=by have:=h.cc.hp;have:=h.hpo;omega
theorem mX.drawn (h:mX w X Y p a len cap bs o g fp) (hg:Y.grownBy Y' (some p)) (hc:Cc w Y' p a len cap bs):mX w X Y' p a len cap bs o g fp:=by
 have h1:=h.hpo;have h2:=h.ho;exact⟨hc,h.res.grown hg (by simp;omega),h.iY.wrt (aO.iZ hg) (fun b hb e=>by cases e;rcases hb with hb|hb;have:=h.iq _ hb;omega;omega),h.iq,h1,h2,bf h.gr hg⟩
theorem mX.step (h:mX w X Y p a len cap bs o g fp) (hb:Below Y.heap.size Y Y'):mX w X Y' p a len cap bs o g fp :=
 ⟨h.cc.step hb,h.res.below hb,h.iY.below hb,h.iq,h.hpo,h.ho,bf h.gr ⟨hb.os,hb.tape,hb.output,hb.size,fun x hx _=>hb.block x hx⟩⟩
theorem mX.act (h:mX w X Y p a len cap bs o g fp) (hb:bC Y Y' o 0 (dB g') fp):∃ fp',mX w X Y' p a len cap bs o g' fp'∧∀ b,fp' b→fp b∨Y.heap.size≤b:=by
 have h1:=h.hpo;have h2:=h.ho;have h3:=h.lt;obtain⟨dD,hp,hf,_⟩:=hb.next;have hs:=h.gr.size;have hw:∀ b,(fp b∨b=o)→X.heap.size<b:=fun b hb=>by rcases hb with hb|hb;exact h.iq b hb;omega
 exact⟨dD,⟨h.cc.wrt hb.wrt (fun k=>by have:=hw p k;omega) (fun b k=>by have:=hw b k;omega),h.res.wrt hb.wrt (fun k=>by have:=hw _ k;omega),hp,fun b hb=>by rcases hf b hb with k|k;exact h.iq b k;have:=h.res.lt;omega,h1,h2,ku h.gr hb.wrt (fun b k=>by have:=hw b k;omega)⟩,hf⟩
theorem mX.done (h:mX w X Y p a len cap bs o g fp):∃ A:Ga,(Y.cell? ⟨o,0,none⟩=some (.slice A.ma g.mem.length A.mc)∧Y.cell? ⟨o,1,none⟩=some (.slice A.ua g.up.length A.uc)∧Y.cell? ⟨o,2,none⟩=some (.slice A.la g.aG.length A.lc))∧bG Y (dB g) (gq A g) fp ∧
  ∀ (x0 x1 x2:Value),bG (((Y.setCell ⟨X.heap.size,0,none⟩ x0).setCell ⟨X.heap.size,1,none⟩ x1).setCell ⟨X.heap.size,2,none⟩ x2) (dB g) (gq A g) fp∧Cc w (((Y.setCell ⟨X.heap.size,0,none⟩ x0).setCell ⟨X.heap.size,1,none⟩ x1).setCell ⟨X.heap.size,2,none⟩ x2) p a len cap bs∧X.grownBy (((Y.setCell ⟨X.heap.size,0,none⟩ x0).setCell ⟨X.heap.size,1,none⟩ x1).setCell ⟨X.heap.size,2,none⟩ x2) (some p):=by
 obtain⟨vs,hpc,hov,hnB⟩:=h.iY;obtain⟨A,rfl⟩:=TB hov;have hl3:(gq A g).length=3:=rfl;have c:=hpc.cell;have h1:=h.hpo;have h3:=h.lt;refine⟨A,⟨c 0 (by rw[hl3];omega),c 1 (by rw[hl3];omega),c 2 (by rw[hl3];omega)⟩,hov,fun x0 x1 x2=>?_⟩
 have hw:=qp Y X.heap.size (a:=x0) (b:=x1) (c:=x2);exact⟨bP hov hw (fun b hb e=>by have:=h.iq b hb;omega),h.cc.wrt hw (by omega) (fun b e=>by omega),ku h.gr hw (fun b e=>by omega)⟩
end
def ZH (w X X':World) (p:Nat) (a:Option Addr) (len cap:Nat) (bs:Nat→Int) (e:Ending) (g:Gr):Prop:=∃ (A:Ga) (fp:Fp),e=.returned (iO A g)∧bG X' (dB g) (gq A g) fp∧(∀ b,fp b→X.heap.size≤b)∧Cc w X' p a len cap bs∧X.grownBy X' (some p)
def aB6 (g:Gr):Prop:=∃ n,wF n g∧n≤4∧kC g n 325
theorem Pz {w X W:World} {p:Nat} {a:Option Addr} {len cap:Nat} {bs:Nat→Int} {A:Ga} {g:Gr} {fp:Fp} (hc:Cc w W p a len cap bs) (hr:Bx W X.heap.size 28 #[.slice none 0 0,.slice none 0 0,.slice none 0 0]) (hg:X.grownBy W (some p)) (hp:p<X.heap.size) (hl:bG W (dB g) (gq A g) fp) (hf:∀ b,fp b→X.heap.size<b) :
  mX w X (W.alloc (.cells #[.slice A.ma g.mem.length A.mc,.slice A.ua g.up.length A.uc,.slice A.la g.aG.length A.lc] 28)) p a len cap bs W.heap.size g fp:=by
 have hba:=aF W (.cells #[.slice A.ma g.mem.length A.mc,.slice A.ua g.up.length A.uc,.slice A.la g.aG.length A.lc] 28);have hxb:=Bx.new W 28 #[.slice A.ma g.mem.length A.mc,.slice A.ua g.up.length A.uc,.slice A.la g.aG.length A.lc];have hlt:=eX hl;have hrl:=hr.lt;exact⟨hc.step hba,hr.below hba,Ej (A:=A) hxb (bM hl hba) (fun k=>by have:=hlt _ k;omega),hf,hp,by omega,bf hg ⟨hba.os,hba.tape,hba.output,hba.size,fun x hx _=>hba.block x hx⟩⟩
attribute [local irreducible] sv
theorem QM {w X:World} {p:Nat} {a:Option Addr} {len cap:Nat} {bs:Nat→Int} (h:Cc w X p a len cap bs) :
  Calls Tryz.prog 60 #[.pointer (some ⟨p,0,none⟩)] X fun e X'=>∃ g,aB6 g∧ZH w X X' p a len cap bs e g:=by
 have BJ:=h.lt;have hwp:=h.hp;have b0:=aF X (.cells #[.slice none 0 0,.slice none 0 0,.slice none 0 0] 28);have HR0:Hid (Bx (X.alloc (.cells #[.slice none 0 0,.slice none 0 0,.slice none 0 0] 28)) X.heap.size 28 #[.slice none 0 0,.slice none 0 0,.slice none 0 0]):=Bx.new X _ _;have su:Hid (Cc w (X.alloc (.cells #[.slice none 0 0,.slice none 0 0,.slice none 0 0] 28)) p a len cap bs):=h.step b0;have mP:Hid (X.grownBy (X.alloc (.cells #[.slice none 0 0,.slice none 0 0,.slice none 0 0] 28)) (some p)):=⟨b0.os,b0.tape,b0.output,b0.size,fun x hx _=>b0.block x hx⟩
 clear h b0;generalize xG:X.alloc (.cells #[.slice none 0 0,.slice none 0 0,.slice none 0 0] 28)=W0 at *;go_enter Tryz.func60,Tryz.ntmps60
 go_wp2_with fail
 refine (fQ 4 4 rfl su.out (by omega) (by omega)).mono ?_
 rintro e W1 ⟨y,rfl,hy,c1,g1⟩;obtain⟨n,hn⟩:∃ n:Nat,Hid (n=1+y):=⟨_,rfl⟩;have hn4:1≤n∧n≤4:=by have:=hn.out;omega
 have en:(1:Int)+(y:Int)=(n:Int):=by have:=hn.out;omega
 have xM:=aj c1;have kU:=aj (bf mP.out g1);have HR1:Hid (Bx W1 X.heap.size 28 #[.slice none 0 0,.slice none 0 0,.slice none 0 0]):=HR0.out.grown g1 (by simp;omega)
 have hN:=Ed (n:Int) W1;clear c1 g1 HR0 su mP xG;go_wp2_with fail
 rw[en] at *;clear en hy;refine hN.mono ?_;rintro e W2 ⟨A,rfl,BD,hl,hf,hb2⟩;have MK:Hid (wF n (dV (n:Int)).1):=zx ⟨hn4.1,by omega⟩
 have ML:Hid (kC (dV (n:Int)).1 n 0):=IJ ⟨hn4.1,by omega⟩
 have HM:Hid (mX w X (W2.alloc (.cells #[.slice A.ma (dV (n:Int)).1.mem.length A.mc,.slice A.ua (dV (n:Int)).1.up.length A.uc,.slice A.la (dV (n:Int)).1.aG.length A.lc] 28)) p a len cap bs W2.heap.size (dV (n:Int)).1 BD):=by
  have h1:=kU.out.size;have h2:=HR1.out.lt;exact Pz (xM.out.step hb2) (HR1.out.below hb2) (bf kU.out ⟨hb2.os,hb2.tape,hb2.output,hb2.size,fun x hx _=>hb2.block x hx⟩) BJ hl (fun b hb=>by have:=hf b hb;omega)
 generalize (dV (n:Int)).2=bb at *;generalize (dV (n:Int)).1=g0 at *;unfold iO jF;clear hl hf hb2 hN xM kU HR1;go_upto_region 3 with fail
 generalize W2.alloc (.cells #[.slice A.ma g0.mem.length A.mc,.slice A.ua g0.up.length A.uc,.slice A.la g0.aG.length A.lc] 28)=W3 at *;generalize W2.heap.size=o at *;have hD:=Fv n (n:Int) rfl hn4.1 (by omega) HM.out.cc
 go_wp2_with fail
 refine hD.mono ?_;rintro e W4 ⟨oa,c,G,L,rfl,hA,hLl⟩;have iR:=aj (HM.out.drawn hA.gr hA.cc);have IK:=aj (ZG hA)
 have KH:Hid (∀ b,G=some b→¬ BD b∧b≠o):=fun b hb=>by
  have h1:=hA.lo b hb;refine⟨fun k=>?_,fun k=>?_⟩
  ·have:=HM.out.iY.flt b k;omega
  ·have:=HM.out.iY.lt;omega
 have qV:=aj hA.ok;clear hA hD HM;go_wp2_with fail
 go_loopw [7] (fun v wr=>∃ (k:Nat) (g:Gr) (fp:Fp),k≤L.length∧v=.int .i64 (k:Int)∧wF n g∧kC g n (k:Int)∧mX w X wr p a len cap bs o g fp∧aI.ow wr (dA 4 vC L) (.slice oa L.length c) (fun b=>G=some b)∧∀ b,G=some b→¬ fp b∧b≠o) (fun v _=>L.length-(intOf v).toNat)
 case atStart=>exact⟨0,g0,BD,Nat.zero_le _,rfl,MK.out,ML.out,iR.out,IK.out,KH.out⟩
 case round =>
  obtain⟨k,g,fp,hk,rfl,hok,how,hM,hL,hd⟩:=hrel;have cO:=aj hok;have kL:=aj how;have HM:=aj hM;have HL:=aj hL;have HD:=aj hd;clear hok how hM hL hd iR IK KH MK ML;by_cases hlt:k<L.length
  ·have k1:(k:Int)<(L.length:Int):=by omega
   have k0:(0:Int)≤(k:Int):=by omega
   obtain⟨lb,lo,hoa,d0,d1,d2,d3⟩:=TD (aI.tK HL.out) hlt;have hxs:=qV.out (oq L k) (List.mem_of_getElem? (Lc hlt));have hAc:=Tz o 0 g n (oq L k) fp wr HM.out.iY cO.out.rW (by have:=hxs.2;omega)
   have HF:Hid (∀ Y,bC wr Y o 0 (dB (dQ g (oq L k)).1) fp→∃ (k':Nat) (g:Gr) (fp:Fp),k'≤L.length∧(Value.int .i64 ((k:Int)+1))=.int .i64 (k':Int)∧wF n g∧kC g n (k':Int)∧mX w X Y p a len cap bs o g fp∧aI.ow Y (dA 4 vC L) (.slice oa L.length c) (fun b=>G=some b)∧∀ b,G=some b→¬ fp b∧b≠o):=fun Y hb=>by
    obtain⟨fp',h1,h2⟩:=HM.out.act hb;refine⟨k+1,_,fp',by omega,by push_cast;rfl,JC cO.out _,by have:=kL.out.act cO.out.rW (oq L k);exact this.mono (by push_cast;omega),h1,aI.lU HL.out hb.wrt (fun b e k2=>by rcases k2 with k2|k2;exact (HD.out b e).1 k2;exact (HD.out b e).2 k2),fun b e=>⟨fun k2=>?_,(HD.out b e).2⟩⟩
    rcases h2 b k2 with h3|h3
    ·exact (HD.out b e).1 h3
    ·have:=aI.iT HL.out b e;omega
   unfold nZ pR at hAc;subst hoa;generalize oq L k=x at *;clear hxs HM HL HD cO kL;go_wp2_with fail
   refine hAc.mono ?_;rintro e Y2 ⟨rfl,hb5⟩;have HE:Hid _:=HF.out Y2 hb5;clear hb5 HF hAc d0 d1 d2 d3;generalize (dQ g x).2=bz at *;go_wp2;go_roundw
   case rel=>exact HE.out
   case measure=>simp[intOf];omega
  ·have k1:¬ ((k:Int)<(L.length:Int)):=by omega
   obtain⟨A9,⟨c0,c1,c2⟩,hown,hfin⟩:=HM.out.done;have HFin:=aj hfin;have EO:Hid (∀ b,fp b→X.heap.size≤b):=fun b hb=>by have:=HM.out.iq b hb;omega
   obtain⟨z0,z1,z2⟩:=Bx.g3 HM.out.res;obtain⟨f0,f1,f2⟩:=HM.out.res.f3;have HQ:Hid (kC g n 325):=kL.out.mono (by omega)
   clear hown hfin HM HL HD kL;go_wp2;refine bodyPost_ret (v:=iO A9 g) (by simp[results,Tryz.results60,go_sem,iO,jF, *]) rfl ?_
   obtain⟨q1,q2,q3⟩:=HFin.out (.slice A9.ma g.mem.length A9.mc) (.slice A9.ua g.up.length A9.uc) (.slice A9.la g.aG.length A9.lc);exact⟨g,⟨n,cO.out,hn4.2,HQ.out⟩,A9,fp,rfl,q1,EO.out,q2,q3⟩
end
section
structure MD (w X Y:World) (p:Nat) (a:Option Addr) (len cap:Nat) (bs:Nat→Int) (o:Nat) (m:Mb) (fp:Fp):Prop where
 cc:Cc w Y p a len cap bs
 res:Bx Y X.heap.size 47 #[.int .i64 0,.int .i64 0,.slice none 0 0,.slice none 0 0,.bool false]
 iY:dN Y o 0 (gW m) fp
 iq:∀ b,fp b→X.heap.size<b
 hpo:p<X.heap.size
 ho:X.heap.size<o
 gr:X.grownBy Y (some p)
section
variable {w X Y Y':World} {p:Nat} {a:Option Addr} {len cap:Nat} {bs:Nat→Int} {o:Nat} {m m':Mb} {fp:Fp}
theorem MD.lt (h:MD w X Y p a len cap bs o m fp):w.heap.size≤X.heap.size:=by have:=h.cc.hp;have:=h.hpo;omega
theorem MD.drawn (h:MD w X Y p a len cap bs o m fp) (hg:Y.grownBy Y' (some p)) (hc:Cc w Y' p a len cap bs):MD w X Y' p a len cap bs o m fp:=by
 have h1:=h.hpo;have h2:=h.ho;exact⟨hc,h.res.grown hg (by simp;omega),h.iY.wrt (aO.iZ hg) (fun b hb e=>by cases e;rcases hb with hb|hb;have:=h.iq _ hb;omega;omega),h.iq,h1,h2,bf h.gr hg⟩
theorem MD.step (h:MD w X Y p a len cap bs o m fp) (hb:Below Y.heap.size Y Y'):MD w X Y' p a len cap bs o m fp :=
 ⟨h.cc.step hb,h.res.below hb,h.iY.below hb,h.iq,h.hpo,h.ho,bf h.gr ⟨hb.os,hb.tape,hb.output,hb.size,fun x hx _=>hb.block x hx⟩⟩
theorem MD.act (h:MD w X Y p a len cap bs o m fp) (hb:bC Y Y' o 0 (gW m') fp):∃ fp',MD w X Y' p a len cap bs o m' fp':=by
 have h1:=h.hpo;have h2:=h.ho;have h3:=h.lt;obtain⟨dD,hp,hf,_⟩:=hb.next;have hs:=h.gr.size;have hw:∀ b,(fp b∨b=o)→X.heap.size<b:=fun b hb=>by rcases hb with hb|hb;exact h.iq b hb;omega
 exact⟨dD,h.cc.wrt hb.wrt (fun k=>by have:=hw p k;omega) (fun b k=>by have:=hw b k;omega),h.res.wrt hb.wrt (fun k=>by have:=hw _ k;omega),hp,fun b hb=>by rcases hf b hb with k|k;exact h.iq b k;have:=h.res.lt;omega,h1,h2,ku h.gr hb.wrt (fun b k=>by have:=hw b k;omega)⟩
theorem MD.far (h:MD w X Y p a len cap bs o m fp) {f:Fp} (hw:aO f Y Y') (hd:∀ b,f b→X.heap.size<b∧b≠o∧¬ fp b):MD w X Y' p a len cap bs o m fp:=by
 have h1:=h.hpo;have h2:=h.ho;have h3:=h.lt;exact⟨h.cc.wrt hw (fun k=>by have:=(hd p k).1;omega) (fun b k=>by have:=(hd b k).1;omega),h.res.wrt hw (fun k=>by have:=(hd _ k).1;omega),h.iY.wrt hw (fun b hb k=>by rcases hb with hb|hb;exact (hd b k).2.2 hb;exact (hd b k).2.1 hb),h.iq,h1,h2,ku h.gr hw (fun b k=>by have:=(hd b k).1;omega)⟩
end
def ZI (w X X':World) (p:Nat) (a:Option Addr) (len cap:Nat) (bs:Nat→Int) (e:Ending) (m:Mb):Prop:=∃ (A:Ma) (fp:Fp),e=.returned (eG A m)∧bG X' (fD m) (fE A m) fp∧(∀ b,fp b→X.heap.size≤b)∧Cc w X' p a len cap bs∧X.grownBy X' (some p)
def Vb (m:Mb) (q:Int):Prop:=∀ r∈m.rows,r.ver≤q
theorem Vb.mono {m:Mb} {p q:Int} (h:Vb m p) (hq:p≤q):Vb m q:=fun r hr=>Int.le_trans (h r hr) hq
theorem Vb.row {m:Mb} {q:Int} (h:Vb m q) (hq:0≤q) (j:Nat):(ah m.rows j).ver≤q:=by
 rcases Nat.lt_or_ge j m.rows.length with hj|hj
 ·exact h _ (List.mem_of_getElem? (dW hj))
 ·unfold ah
  rw[List.getD_eq_getElem?_getD,List.getElem?_eq_none hj];exact hq
theorem Vb.set {m m':Mb} {q:Int} {j:Nat} {r:Rw} (h:Vb m q) (e:m'.rows=m.rows.set j r) (hr:r.ver≤q+1):Vb m' (q+1):=fun x hx=>by
 rw[e] at hx;rcases List.mem_or_eq_of_mem_set hx with k|k
 ·have:=h x k;omega
 ·rw[k];exact hr
theorem UU {m:Mb} {q:Int} (h:Vb m q) (hq:0≤q) (t:List UInt8):Vb (bW m t).1 (q+1):=by
 unfold bW
 split
 ·exact h.mono (by omega)
 ·exact h.set rfl (by have:=h.row hq m.i;simp only[Mb.own];omega)
theorem Yx {m:Mb} {q:Int} (h:Vb m q) (hq:0≤q) (who:Int):Vb (aW m who).1 (q+1):=by
 unfold aW
 split
 ·exact h.mono (by omega)
 ·exact h.set rfl (by have:=h.row hq m.i;simp only[Mb.own];omega)
theorem MN {m:Mb} {q:Int} (h:Vb m q) {r:Rw} (hr:r.ver≤q+1) (fr:Int):Vb (aX m fr r).1 (q+1):=by
 unfold aX
 split
 ·exact h.mono (by omega)
 ·exact h.set rfl hr
theorem aj6 {m:Mb} {i n:Nat} (ok:dO m i n) {q:Int} (h:Vb m q) (hq:0≤q):Vb (bJ m) (q+1):=by
 unfold bJ
 split
 ·exact h.mono (by omega)
 ·rename_i hn
  refine h.set rfl ?_;have S:=zG ok (by cases e:m.done with|false=>rfl|true=>exact absurd (.inl e) hn)
  have:=h.row hq i;have hv:=S.ver;rw[S.e5]
  split
  ·omega
  ·simp only;omega
theorem as9 (i n:Int):Vb (iE i n).1 0:=by
 unfold iE
 split
 ·intro r hr
  rw[(List.mem_replicate.1 hr).2];unfold gB
  split<;>exact Int.le_refl _
 ·exact fun r hr=>absurd hr List.not_mem_nil
attribute [local irreducible] sv
theorem QN {w X:World} {p:Nat} {a:Option Addr} {len cap:Nat} {bs:Nat→Int} (h:Cc w X p a len cap bs) :
  Calls Tryz.prog 105 #[.pointer (some ⟨p,0,none⟩)] X fun e X'=>∃ m,((∃ i n,dO m i n)∧Vb m 13)∧ZI w X X' p a len cap bs e m:=by
 have BJ:=h.lt;have hwp:=h.hp;have b0:=aF X (.cells #[.int .i64 0,.int .i64 0,.slice none 0 0,.slice none 0 0,.bool false] 47);have HR0:Hid (Bx (X.alloc (.cells #[.int .i64 0,.int .i64 0,.slice none 0 0,.slice none 0 0,.bool false] 47)) X.heap.size 47 #[.int .i64 0,.int .i64 0,.slice none 0 0,.slice none 0 0,.bool false]):=Bx.new X _ _;have su:Hid (Cc w (X.alloc (.cells #[.int .i64 0,.int .i64 0,.slice none 0 0,.slice none 0 0,.bool false] 47)) p a len cap bs):=h.step b0;have mP:Hid (X.grownBy (X.alloc (.cells #[.int .i64 0,.int .i64 0,.slice none 0 0,.slice none 0 0,.bool false] 47)) (some p)):=⟨b0.os,b0.tape,b0.output,b0.size,fun x hx _=>b0.block x hx⟩
 clear h b0;generalize xG:X.alloc (.cells #[.int .i64 0,.int .i64 0,.slice none 0 0,.slice none 0 0,.bool false] 47)=W0 at *;go_enter Tryz.func105,Tryz.ntmps105
 go_wp2_with fail
 refine (fQ 4 4 rfl su.out (by omega) (by omega)).mono ?_
 rintro e W1 ⟨y,rfl,hy,c1,g1⟩;obtain⟨n,hn⟩:∃ n:Nat,Hid (n=1+y):=⟨_,rfl⟩;have fG:1≤n∧n≤4:=by have:=hn.out;omega
 have en:(1:Int)+(y:Int)=(n:Int):=by have:=hn.out;omega
 have xM:=aj c1;have kU:=aj (bf mP.out g1);have HR1:Hid (Bx W1 X.heap.size 47 #[.int .i64 0,.int .i64 0,.slice none 0 0,.slice none 0 0,.bool false]):=HR0.out.grown g1 (by simp;omega)
 have hB2:=fQ n (n:Int) rfl c1 (by omega) (by omega)
 clear c1 g1 HR0 su mP;go_wp2_with fail
 rw[en] at *;clear en;refine hB2.mono ?_;rintro e W2 ⟨i,rfl,hi,c2,g2⟩;have HC2:=aj c2;have HG2:=aj (bf kU.out g2);have HR2:Hid (Bx W2 X.heap.size 47 #[.int .i64 0,.int .i64 0,.slice none 0 0,.slice none 0 0,.bool false]):=HR1.out.grown g2 (by simp;omega)
 have hN:=JW (i:Int) (n:Int) W2;clear hB2 c2 g2 HR1 xM kU;go_wp2_with fail
 refine hN.mono ?_;rintro e W3 ⟨A,rfl,f0,hl,hf0,hb3⟩
 have hnew:(iE (i:Int) (n:Int)).2=true∧(iE (i:Int) (n:Int)).1.id=(i:Int)∧(iE (i:Int) (n:Int)).1.n=(n:Int):=by
  unfold iE;rw[if_pos ⟨dP.2 (by omega),dP.2 (by omega)⟩]
  exact⟨rfl,rfl,rfl⟩
 have hok0:dO (iE (i:Int) (n:Int)).1 i n:=by
  obtain⟨i',n',ok⟩:=je.1 (ZY hnew.1);have e1:i'=i:=by have:=ok.hid;rw[hnew.2.1] at this;omega
  have e2:n'=n:=by have:=ok.hn;rw[hnew.2.2] at this;omega
  rw[e1,e2] at ok;exact ok
 have Pq:Hid (Vb (iE (i:Int) (n:Int)).1 0):=as9 _ _;generalize hb0:(iE (i:Int) (n:Int)).2=bb0 at *;generalize hm0:(iE (i:Int) (n:Int)).1=m0 at *;clear hnew hb0 hm0 hN;have hba:=aF W3 (.cells #[.int .i64 m0.id,.int .i64 m0.n,.slice A.ra m0.rows.length A.rc,.slice A.sa m0.au.length A.sc,.bool m0.done] 47);have hxb:=Bx.new W3 47 #[.int .i64 m0.id,.int .i64 m0.n,.slice A.ra m0.rows.length A.rc,.slice A.sa m0.au.length A.sc,.bool m0.done];have aD6:=hb3.size;have Pn:=HG2.out.size;have hrl:=HR2.out.lt;have hfl:=eX hl
 have HM:Hid (MD w X (W3.alloc (.cells #[.int .i64 m0.id,.int .i64 m0.n,.slice A.ra m0.rows.length A.rc,.slice A.sa m0.au.length A.sc,.bool m0.done] 47)) p a len cap bs W3.heap.size m0 f0):=by
  refine⟨(HC2.out.step hb3).step hba,(HR2.out.below hb3).below hba,Oz hxb (bM hl hba) (fun k=>by have:=hfl _ k;omega),fun b hb=>by have:=hf0 b hb;omega,BJ,by omega, ?_⟩
  have hg1:W2.grownBy W3 (some p):=⟨hb3.os,hb3.tape,hb3.output,hb3.size,fun x hx _=>hb3.block x hx⟩
  have hg2:W3.grownBy (W3.alloc (.cells #[.int .i64 m0.id,.int .i64 m0.n,.slice A.ra m0.rows.length A.rc,.slice A.sa m0.au.length A.sc,.bool m0.done] 47)) (some p):=⟨hba.os,hba.tape,hba.output,hba.size,fun x hx _=>hba.block x hx⟩
  exact bf (bf HG2.out hg1) hg2
 have cO:=aj hok0;unfold eG dZ;clear hl hf0 hb3 hba hxb hok0 HR2 HC2 HG2 hfl;go_wp2_with fail
 generalize W3.alloc (.cells #[.int .i64 m0.id,.int .i64 m0.n,.slice A.ra m0.rows.length A.rc,.slice A.sa m0.au.length A.sc,.bool m0.done] 47)=W4 at *;generalize W3.heap.size=o at *;refine (fQ 14 14 rfl HM.out.cc (by omega) (by omega)).mono ?_
 rintro e W5 ⟨K,rfl,hK,c5,g5⟩;have dJ:=aj (HM.out.drawn g5 c5);clear c5 g5 HM;go_wp2_with fail
 go_loopw [6] (fun v wr=>∃ (k:Nat) (m:Mb) (fp:Fp),k≤13∧v=.int .i64 (k:Int)∧dO m i n∧Vb m (13-(k:Int))∧MD w X wr p a len cap bs o m fp) (fun v _=>(intOf v).toNat)
 case atStart=>exact⟨K,m0,f0,by omega,rfl,cO.out,Pq.out.mono (by omega),dJ.out⟩
 case round =>
  obtain⟨k,m,fp,hk,rfl,ok,at1,hM⟩:=hrel;have HV:=aj at1;have HQ:Hid (0≤13-(k:Int)):=(by omega:0≤13-(k:Int))
  clear at1;have HM:=aj hM;have HO:=aj ok;clear hM ok dJ cO;by_cases hk0:0<k
  ·have k1:(0:Int)<(k:Int):=by omega
   have wk:wrap64 ((k:Int)-1)=((k-1:Nat):Int):=by unfold wrap64;omega
   have HF:Hid (∀ (Y:World) (m':Mb) (fp':Fp),dO m' i n→Vb m' (13-(k:Int)+1)→MD w X Y p a len cap bs o m' fp'→∃ (k':Nat) (m:Mb) (fp:Fp),k'≤13∧(Value.int .i64 ((k:Int)-1))=.int .i64 (k':Int)∧dO m i n∧Vb m (13-(k':Int))∧MD w X Y p a len cap bs o m fp):=fun Y m' fp' h1 hq h2=>⟨k-1,m',fp',by omega,by congr 1;omega,h1,hq.mono (by omega),h2⟩
   clear wk;have IL:=fQ 6 6 rfl HM.out.cc (by omega) (by omega)
   go_wp2_with fail
   refine IL.mono ?_;rintro e Y1 ⟨y,rfl,hy6,c6,g6⟩;have bF:=aj (HM.out.drawn g6 c6);clear c6 g6 IL HM;have hys:y=0∨y=1∨y=2∨y=3∨y=4∨y=5:=by omega
   rcases hys with rfl|rfl|rfl|rfl|rfl|rfl
   ·have hT:=zD 3 3 rfl (by omega) bF.out.cc
    go_wp2_with fail
    refine hT.mono ?_;rintro e Y2 ⟨t,rfl,ht,c7,g7⟩;have eF:=aj (bF.out.drawn g7 c7);have hS:=Bh o 0 m i n t fp Y2 eF.out.iY HO.out (by omega)
    clear hT c7 g7 bF;go_wp2_with fail
    refine hS.mono ?_;rintro e Y3 ⟨rfl,hBc⟩;obtain⟨jO,h3⟩:=eF.out.act hBc;have HE:Hid _:=HF.out Y3 _ jO (CV HO.out t).1 (UU HV.out HQ.out t) h3;clear hS hBc h3 eF HF;generalize (bW m t).2=sb at *;go_wp2;go_roundw
    case rel=>exact HE.out
    case measure=>simp[intOf];omega
   ·have hT:=zD 3 3 rfl (by omega) bF.out.cc
    go_wp2_with fail
    refine hT.mono ?_;rintro e Y2 ⟨t,rfl,ht,c7,g7⟩;have eF:=aj (bF.out.drawn g7 c7);have hS:=Bh o 0 m i n t fp Y2 eF.out.iY HO.out (by omega)
    clear hT c7 g7 bF;go_wp2_with fail
    refine hS.mono ?_;rintro e Y3 ⟨rfl,hBc⟩;obtain⟨jO,h3⟩:=eF.out.act hBc;have HE:Hid _:=HF.out Y3 _ jO (CV HO.out t).1 (UU HV.out HQ.out t) h3;clear hS hBc h3 eF HF;generalize (bW m t).2=sb at *;go_wp2;go_roundw
    case rel=>exact HE.out
    case measure=>simp[intOf];omega
   ·have hO:=pF 3 bF.out.cc (by omega)
    go_wp2_with fail
    refine hO.mono ?_;rintro e Y2 ⟨t,rfl,c7,g7⟩;have eF:=aj (bF.out.drawn g7 c7);clear hO c7 g7 bF
    cases t with
    | false =>
     have HE:Hid _:=HF.out Y2 m fp HO.out (HV.out.mono (by omega)) eF.out
     clear HF eF;go_wp2;go_roundw
     case rel=>exact HE.out
     case measure=>simp[intOf];omega
    | true =>
     have Ad:=fQ n (n:Int) rfl eF.out.cc (by omega) (by omega)
     go_wp2_with fail
     refine Ad.mono ?_;rintro e Y3 ⟨who,rfl,hwho,c8,g8⟩;have iQ:=aj (eF.out.drawn g8 c8);have hS:=Ho o 0 m i n (who:Int) fp Y3 iQ.out.iY HO.out;clear Ad c8 g8 eF;go_wp2_with fail
     refine hS.mono ?_;rintro e Y4 ⟨rfl,hBc⟩;obtain⟨jO,h3⟩:=iQ.out.act hBc;have HE:Hid _:=HF.out Y4 _ jO (AX HO.out (who:Int)).1 (Yx HV.out HQ.out (who:Int)) h3;clear hS hBc h3 iQ HF;generalize (aW m (who:Int)).2=sb at *;go_wp2;go_roundw
     case rel=>exact HE.out
     case measure=>simp[intOf];omega
   ·have hD:=zF n (n:Int) rfl (by omega) bF.out.cc
    go_wp2_with fail
    refine hD.mono ?_;rintro e Y2 ⟨Ar,r,fr,rfl,hSr,hlr,hfr,c7,g7⟩;have eF:=aj (bF.out.drawn g7 c7);have Yy:=eX hlr;have hr2:=eF.out.iY.lt;have Yz:=aj eF.out.iY.flt;have HXY:=aj eF.out.res.lt;have hba:=aF Y2 (.cells #[.int .i64 r.ver,.slice Ar.ta r.txt.length Ar.tc,.slice Ar.ga r.got.length Ar.gc,.slice Ar.sa r.ak.length Ar.sc,.bool r.wed,.bool r.aB,.int .i64 r.aC,.slice Ar.ma r.aA.length Ar.mc] 44);have hxr:=Bx.new Y2 44 #[.int .i64 r.ver,.slice Ar.ta r.txt.length Ar.tc,.slice Ar.ga r.got.length Ar.gc,.slice Ar.sa r.ak.length Ar.sc,.bool r.wed,.bool r.aB,.int .i64 r.aC,.slice Ar.ma r.aA.length Ar.mc];have BR:=aj hxr;have iQ:=aj (eF.out.step hba);have UW:=aj (bM hlr hba);have UY:=aj hSr;have aB7:=g7.size;have Ug:Hid (∀ b,fr b→p<b):=fun b hb=>by have:=hfr b hb;have:=bF.out.cc.lt;omega
    have Ad:=fQ n (n:Int) rfl iQ.out.cc (by omega) (by omega)
    have hoY:=hr2;clear hD c7 g7 hba hxr eF bF hlr hSr hfr hr2;unfold bV bD;go_wp2_with fail
    refine Ad.mono ?_;rintro e Y4 ⟨F,rfl,hF,c8,g8⟩;have iR:=aj (iQ.out.drawn g8 c8);have hpY:p<Y2.heap.size:=by have:=iQ.out.hpo;have:=iQ.out.ho;omega
    have hx4:=BR.out.grown g8 (by simp;omega)
    have IK:Hid (bG Y4 (fM r) (fC Ar r) fr):=bP UW.out (aO.iZ g8) (fun b hb e=>by cases e;have:=Ug.out _ hb;omega)
    have pJ:F<m.rows.length:=by rw[HO.out.len];exact hF
    have hF1:(F:Int)<(m.rows.length:Int):=by omega
    have hF0:(0:Int)≤(F:Int):=by omega
    obtain⟨gg,go,gc,M4⟩:=Mw.start iR.out.iY (by omega)
    obtain⟨_,_,v0,_,⟨rfl,_⟩,_⟩:=M4.at pJ (j:=0) (cl:=.v (.int .i64 (ah m.rows F).ver)) rfl;have d2:=M4.rws;simp only[Nat.add_zero,Nat.zero_add] at v0 d2;have hvb:=(HO.out.ok F hF).ver;have wv:wrap64 ((ah m.rows F).ver+1)=(ah m.rows F).ver+1:=by unfold wrap64;omega
    obtain⟨⟨x0,x1,x2,x3⟩,x4,x5,x6,x7⟩:=Bx.r8 hx4;have z0:=hx4.f 0;have Dt:Hid (Bx (Y4.setCell ⟨Y2.heap.size,0,none⟩ (.int .i64 ((ah m.rows F).ver+1))) Y2.heap.size 44 #[.int .i64 ((ah m.rows F).ver+1),.slice Ar.ta r.txt.length Ar.tc,.slice Ar.ga r.got.length Ar.gc,.slice Ar.sa r.ak.length Ar.sc,.bool r.wed,.bool r.aB,.int .i64 r.aC,.slice Ar.ma r.aA.length Ar.mc]):=by have:=hx4.iV 0 (.int .i64 ((ah m.rows F).ver+1));rw[Hid];simpa using this
    have MP:=aO.set Y4 Y2.heap.size 0 (.int .i64 ((ah m.rows F).ver+1));have dJ:Hid (MD w X (Y4.setCell ⟨Y2.heap.size,0,none⟩ (.int .i64 ((ah m.rows F).ver+1))) p a len cap bs o m fp):=iR.out.far MP (fun b k=>by have:=HXY.out;rw[k];exact⟨this,by omega,fun k=>by have:=Yz.out _ k;omega⟩)
    have LM:Hid (bG (Y4.setCell ⟨Y2.heap.size,0,none⟩ (.int .i64 ((ah m.rows F).ver+1))) (fM r) (fC Ar r) fr):=bP IK.out MP (fun b hb e=>by have:=Yy b hb;omega)
    have hrw:nJ (Y4.setCell ⟨Y2.heap.size,0,none⟩ (.int .i64 ((ah m.rows F).ver+1))) Ar { r with ver:=(ah m.rows F).ver+1 }:=by
     have:=Jv (wP LM.out (lo:=0) (fun b _=>Nat.zero_le b)) UY.out.fit UY.out.sz
     exact⟨this.txt,this.got,this.ak,this.aA,this.mt,this.mg,this.ms,this.mm⟩
    have hS:=Bj o 0 m i n (F:Int) Ar { r with ver:=(ah m.rows F).ver+1 } fp _ dJ.out.iY HO.out hrw ⟨by omega,by omega⟩
    unfold bV bD at hS;simp only at hS
    clear Ad c8 g8 iR BR iQ UW IK M4 hx4 hrw MP;go_upto_region 19 with fail
    clear x0 x1 x2 x3 x4 x5 x6 x7 z0 v0 d2;generalize Y4.setCell ⟨Y2.heap.size,0,none⟩ (.int .i64 ((ah m.rows F).ver+1))=Y5 at *;obtain⟨⟨x0,x1,x2,x3⟩,x4,x5,x6,x7⟩:=Bx.r8 Dt.out;go_wp2_with fail
    refine hS.mono ?_;rintro e Y6 ⟨rfl,hBc⟩;obtain⟨jO,h3⟩:=dJ.out.act hBc;have HE:Hid _:=HF.out Y6 _ jO (qQ HO.out (F:Int) { r with ver:=(ah m.rows F).ver+1 }).1 (MN HV.out (Int.add_le_add_right (HV.out.row HQ.out F) 1) (F:Int)) h3
    clear hS hBc h3 dJ HF x0 x1 x2 x3 x4 x5 x6 x7;generalize (aX m (F:Int) { r with ver:=(ah m.rows F).ver+1 }).2=sb at *
    go_wp2;go_roundw
    case rel=>exact HE.out
    case measure=>simp[intOf];omega
   ·have hD:=zF n (n:Int) rfl (by omega) bF.out.cc
    go_wp2_with fail
    refine hD.mono ?_;rintro e Y2 ⟨Ar,r,fr,rfl,hSr,hlr,hfr,c7,g7⟩;have eF:=aj (bF.out.drawn g7 c7);have Yy:=eX hlr;have hr2:=eF.out.iY.lt;have Yz:=aj eF.out.iY.flt;have HXY:=aj eF.out.res.lt;have hba:=aF Y2 (.cells #[.int .i64 r.ver,.slice Ar.ta r.txt.length Ar.tc,.slice Ar.ga r.got.length Ar.gc,.slice Ar.sa r.ak.length Ar.sc,.bool r.wed,.bool r.aB,.int .i64 r.aC,.slice Ar.ma r.aA.length Ar.mc] 44);have hxr:=Bx.new Y2 44 #[.int .i64 r.ver,.slice Ar.ta r.txt.length Ar.tc,.slice Ar.ga r.got.length Ar.gc,.slice Ar.sa r.ak.length Ar.sc,.bool r.wed,.bool r.aB,.int .i64 r.aC,.slice Ar.ma r.aA.length Ar.mc];have BR:=aj hxr;have iQ:=aj (eF.out.step hba);have UW:=aj (bM hlr hba);have UY:=aj hSr;have aB7:=g7.size;have Ug:Hid (∀ b,fr b→p<b):=fun b hb=>by have:=hfr b hb;have:=bF.out.cc.lt;omega
    have Ad:=fQ n (n:Int) rfl iQ.out.cc (by omega) (by omega)
    have hoY:=hr2;clear hD c7 g7 hba hxr eF bF hlr hSr hfr hr2;unfold bV bD;go_wp2_with fail
    refine Ad.mono ?_;rintro e Y4 ⟨F,rfl,hF,c8,g8⟩;have iR:=aj (iQ.out.drawn g8 c8);have hpY:p<Y2.heap.size:=by have:=iQ.out.hpo;have:=iQ.out.ho;omega
    have hx4:=BR.out.grown g8 (by simp;omega)
    have IK:Hid (bG Y4 (fM r) (fC Ar r) fr):=bP UW.out (aO.iZ g8) (fun b hb e=>by cases e;have:=Ug.out _ hb;omega)
    have pJ:F<m.rows.length:=by rw[HO.out.len];exact hF
    have hF1:(F:Int)<(m.rows.length:Int):=by omega
    have hF0:(0:Int)≤(F:Int):=by omega
    obtain⟨gg,go,gc,M4⟩:=Mw.start iR.out.iY (by omega)
    obtain⟨_,_,v0,_,⟨rfl,_⟩,_⟩:=M4.at pJ (j:=0) (cl:=.v (.int .i64 (ah m.rows F).ver)) rfl;have d2:=M4.rws;simp only[Nat.add_zero,Nat.zero_add] at v0 d2;have hvb:=(HO.out.ok F hF).ver;have wv:wrap64 ((ah m.rows F).ver+1)=(ah m.rows F).ver+1:=by unfold wrap64;omega
    obtain⟨⟨x0,x1,x2,x3⟩,x4,x5,x6,x7⟩:=Bx.r8 hx4;have z0:=hx4.f 0;have Dt:Hid (Bx (Y4.setCell ⟨Y2.heap.size,0,none⟩ (.int .i64 ((ah m.rows F).ver+1))) Y2.heap.size 44 #[.int .i64 ((ah m.rows F).ver+1),.slice Ar.ta r.txt.length Ar.tc,.slice Ar.ga r.got.length Ar.gc,.slice Ar.sa r.ak.length Ar.sc,.bool r.wed,.bool r.aB,.int .i64 r.aC,.slice Ar.ma r.aA.length Ar.mc]):=by have:=hx4.iV 0 (.int .i64 ((ah m.rows F).ver+1));rw[Hid];simpa using this
    have MP:=aO.set Y4 Y2.heap.size 0 (.int .i64 ((ah m.rows F).ver+1));have dJ:Hid (MD w X (Y4.setCell ⟨Y2.heap.size,0,none⟩ (.int .i64 ((ah m.rows F).ver+1))) p a len cap bs o m fp):=iR.out.far MP (fun b k=>by have:=HXY.out;rw[k];exact⟨this,by omega,fun k=>by have:=Yz.out _ k;omega⟩)
    have LM:Hid (bG (Y4.setCell ⟨Y2.heap.size,0,none⟩ (.int .i64 ((ah m.rows F).ver+1))) (fM r) (fC Ar r) fr):=bP IK.out MP (fun b hb e=>by have:=Yy b hb;omega)
    have hrw:nJ (Y4.setCell ⟨Y2.heap.size,0,none⟩ (.int .i64 ((ah m.rows F).ver+1))) Ar { r with ver:=(ah m.rows F).ver+1 }:=by
     have:=Jv (wP LM.out (lo:=0) (fun b _=>Nat.zero_le b)) UY.out.fit UY.out.sz
     exact⟨this.txt,this.got,this.ak,this.aA,this.mt,this.mg,this.ms,this.mm⟩
    have hS:=Bj o 0 m i n (F:Int) Ar { r with ver:=(ah m.rows F).ver+1 } fp _ dJ.out.iY HO.out hrw ⟨by omega,by omega⟩
    unfold bV bD at hS;simp only at hS
    clear Ad c8 g8 iR BR iQ UW IK M4 hx4 hrw MP;go_upto_region 19 with fail
    clear x0 x1 x2 x3 x4 x5 x6 x7 z0 v0 d2;generalize Y4.setCell ⟨Y2.heap.size,0,none⟩ (.int .i64 ((ah m.rows F).ver+1))=Y5 at *;obtain⟨⟨x0,x1,x2,x3⟩,x4,x5,x6,x7⟩:=Bx.r8 Dt.out;go_wp2_with fail
    refine hS.mono ?_;rintro e Y6 ⟨rfl,hBc⟩;obtain⟨jO,h3⟩:=dJ.out.act hBc;have HE:Hid _:=HF.out Y6 _ jO (qQ HO.out (F:Int) { r with ver:=(ah m.rows F).ver+1 }).1 (MN HV.out (Int.add_le_add_right (HV.out.row HQ.out F) 1) (F:Int)) h3
    clear hS hBc h3 dJ HF x0 x1 x2 x3 x4 x5 x6 x7;generalize (aX m (F:Int) { r with ver:=(ah m.rows F).ver+1 }).2=sb at *
    go_wp2;go_roundw
    case rel=>exact HE.out
    case measure=>simp[intOf];omega
   ·have hS:=Ih o 0 m i n fp Y1 bF.out.iY HO.out
    go_wp2_with fail
    refine hS.mono ?_;rintro e Y2 ⟨rfl,hBc⟩;obtain⟨jO,h3⟩:=bF.out.act hBc;have HE:Hid _:=HF.out Y2 _ jO (stepM HO.out).ok (aj6 HO.out HV.out HQ.out) h3;clear hS hBc h3 bF HF;go_wp2;go_roundw
    case rel=>exact HE.out
    case measure=>simp[intOf];omega
  ·have k1:¬ ((0:Int)<(k:Int)):=by omega
   obtain⟨vs,hpc,hov,hnB⟩:=HM.out.iY;obtain⟨A9,rfl,FQ⟩:=EL hov;have hl5:(dZ A9 m).toList.length=5:=rfl;have c0:=hpc.cell 0 (by rw[hl5];omega)
   have c1:=hpc.cell 1 (by rw[hl5];omega)
   have c2:=hpc.cell 2 (by rw[hl5];omega)
   have c3:=hpc.cell 3 (by rw[hl5];omega)
   have c4:=hpc.cell 4 (by rw[hl5];omega)
   simp only[Nat.zero_add] at c0 c1 c2 c3 c4;replace c0:wr.cell? ⟨o,0,none⟩=some (.int .i64 m.id):=c0;replace c1:wr.cell? ⟨o,1,none⟩=some (.int .i64 m.n):=c1;replace c2:wr.cell? ⟨o,2,none⟩=some (.slice A9.ra m.rows.length A9.rc):=c2;replace c3:wr.cell? ⟨o,3,none⟩=some (.slice A9.sa m.au.length A9.sc):=c3;replace c4:wr.cell? ⟨o,4,none⟩=some (.bool m.done):=c4;obtain⟨r0,r1,r2,r3,r4⟩:=Bx.r5 HM.out.res;obtain⟨f0',f1,f2,f3,f4⟩:=HM.out.res.f5
   have HA:Hid (∀ {x0 x1 x2 x3 x4:Value},bG (((((wr.setCell ⟨X.heap.size,0,none⟩ x0).setCell ⟨X.heap.size,1,none⟩ x1).setCell ⟨X.heap.size,2,none⟩ x2).setCell ⟨X.heap.size,3,none⟩ x3).setCell ⟨X.heap.size,4,none⟩ x4) (fD m) (fE A9 m) fp∧Cc w (((((wr.setCell ⟨X.heap.size,0,none⟩ x0).setCell ⟨X.heap.size,1,none⟩ x1).setCell ⟨X.heap.size,2,none⟩ x2).setCell ⟨X.heap.size,3,none⟩ x3).setCell ⟨X.heap.size,4,none⟩ x4) p a len cap bs∧X.grownBy (((((wr.setCell ⟨X.heap.size,0,none⟩ x0).setCell ⟨X.heap.size,1,none⟩ x1).setCell ⟨X.heap.size,2,none⟩ x2).setCell ⟨X.heap.size,3,none⟩ x3).setCell ⟨X.heap.size,4,none⟩ x4) (some p)):=fun {x0 x1 x2 x3 x4}=>by
    have hw:=kX wr X.heap.size (a:=x0) (b:=x1) (c:=x2) (d:=x3) (e:=x4);have h1:=HM.out.hpo;have h3:=HM.out.lt;exact⟨bP FQ hw (fun b hb e=>by have:=HM.out.iq b hb;omega),HM.out.cc.wrt hw (by omega) (fun b e=>by omega),ku HM.out.gr hw (fun b e=>by omega)⟩
   have zU:Hid (∀ b,fp b→X.heap.size≤b):=fun b hb=>by have:=HM.out.iq b hb;omega
   clear hpc hov FQ HM hnB hl5;go_wp2;refine bodyPost_ret (v:=.agg #[.int .i64 m.id,.int .i64 m.n,.slice A9.ra m.rows.length A9.rc,.slice A9.sa m.au.length A9.sc,.bool m.done]) (by simp[results,Tryz.results105,go_sem, *]) rfl ?_
   exact⟨m,⟨⟨i,n,HO.out⟩,HV.out.mono (by omega)⟩,A9,fp,rfl,HA.out.1,zU.out,HA.out.2⟩
end
structure zi (m:Mb) (n:Nat):Prop where
 id':-1≤m.id∧m.id≤7
 hn:m.n=(n:Int)
 n5:1≤n∧n≤5
 ok:∀ r∈m.rows,dL r n
 rl:m.rows.length≤5
 sl:m.au.length≤61
 sg:∀ x∈m.au,-1≤x∧x≤62
 vb:Vb m 13
theorem dO.dms {m:Mb} {i n:Nat} (h:dO m i n) (hv:Vb m 13):zi m n:=by
 have h5:=h.n5;have hl:=h.lt;exact⟨by rw[h.hid];omega,h.hn,h5,h.rowOk,by rw[h.len];omega,by have:=h.sl;omega,fun x hx=>by have:=h.elem hx;omega,hv⟩
theorem zi.fit {m:Mb} {n:Nat} (h:zi m n):kH m:=⟨fun r hr=>(h.ok r hr).fit,fun x hx=>by have:=h.sg x hx;omega⟩
theorem zi.i64 {m:Mb} {n:Nat} (h:zi m n):BI m:=by
 have h1:=h.id';have h5:=h.n5;refine⟨⟨by omega,by omega⟩,⟨by rw[h.hn];omega,by rw[h.hn];omega⟩,fun r hr=>?_⟩
 have hr:=h.ok r hr;have hv:=hr.ver
 cases e:r.aB with
 | true=>have:=(hr.aB e).2.1;exact⟨⟨by omega,by omega⟩,by omega,by omega⟩
 | false=>rw[oM,(hr.not e).1];exact⟨⟨by omega,by omega⟩,by omega,by omega⟩
theorem MQ {α:Type} {F:α→List aI} {s:Nat} (hF:∀ x,(F x).length=s) (hs:0<s) {w:World} {x:α} {xs:List α} {g off c:Nat} {f:Fp} (h:aI.ow w (dA s F (x::xs)) (.slice (some ⟨g,off,none⟩) (xs.length+1) c) f) :
  (c=1→aI.ow w (dA s F xs) (.slice (some ⟨g,off,none⟩) 0 0) (fun _=>False)∧xs=[])∧(1<c→∃ f',aI.ow w (dA s F xs) (.slice (some ⟨g,off+s,none⟩) xs.length (c-1)) f'∧∀ b,f' b→f b):=by
 obtain⟨a0,c0,us,G,f0,e,ho,hl,hn,hf⟩:=h
 cases e
 have hlen:(x::xs).length=xs.length+1:=rfl;rw[hlen] at ho;rcases ho with ⟨h0,_⟩|⟨g0,aD7,e,ho,rfl⟩
 ·omega
 cases e
 have hle:=ho.le;refine⟨fun hc=>?_,fun hc=>?_⟩
 ·have:xs=[]:=List.eq_nil_of_length_eq_zero (by omega)
  subst this;exact⟨⟨_,0,[],none,fun _=>False,rfl,dR.nil _ _ (jG _ _),⟨rfl,fun _ h=>h⟩,fun _ _ h=>h,fun b=>by simp⟩,rfl⟩
 ·rw[List.flatMap_cons] at hl
  obtain⟨u1,u2,f1,f2,rfl,l1,l2,hd,hff⟩:=jl hl;have hu1:u1.length=s:=by rw[fJ l1,hF]
  refine⟨fun b=>some g=some b∨f2 b,⟨some ⟨g,off+s,none⟩,c-1,u2,some g,f2,rfl,dR.of ?_,l2,fun b hb hk=>hn b hb ((hff b).2 (.inr hk)),fun b=>Iff.rfl⟩,fun b hb=>(hf b).2 (hb.imp id (fun h=>(hff b).2 (.inr h)))⟩
  have hm:(xs.length+1)*s=xs.length*s+s:=by rw[Nat.add_mul,Nat.one_mul]
  have RU:=ho.len;rw[List.length_append,hu1,hm] at RU
  have hcs:(c-1)*s+s=c*s:=by
   have:c=(c-1)+1:=by omega
   rw[this,Nat.add_mul,Nat.one_mul];simp
  refine⟨by omega,by omega,by have:=ho.max;omega,ho.blk,fun i hi=>?_,fun i hi=>?_,fun i hi=>?_⟩
  ·have:=ho.cell (s+i) (by rw[hm];omega)
   rw[show off+s+i=off+(s+i) by omega,this,List.getElem?_append_right (by omega),hu1]
   simp
  ·have:=ho.some (s+i) (by omega)
   rwa [show off+s+i=off+(s+i) by omega]
  ·have:=ho.free (s+i) (by omega)
   rwa [show off+s+i=off+(s+i) by omega]
theorem QO {w X:World} {p:Nat} {a:Option Addr} {len cap:Nat} {bs:Nat→Int} (h:Cc w X p a len cap bs) :
  Calls Tryz.prog 61 #[.pointer (some ⟨p,0,none⟩)] X fun e X'=>∃ m n,zi m n∧ZI w X X' p a len cap bs e m:=by
 have bH:=dH;have BJ:=h.lt;have hwp:=h.hp;have b0:=aF X (.cells #[.int .i64 0,.int .i64 0,.slice none 0 0,.slice none 0 0,.bool false] 47);have HR0:Hid (Bx (X.alloc (.cells #[.int .i64 0,.int .i64 0,.slice none 0 0,.slice none 0 0,.bool false] 47)) X.heap.size 47 #[.int .i64 0,.int .i64 0,.slice none 0 0,.slice none 0 0,.bool false]):=Bx.new X _ _;have su:Hid (Cc w (X.alloc (.cells #[.int .i64 0,.int .i64 0,.slice none 0 0,.slice none 0 0,.bool false] 47)) p a len cap bs):=h.step b0;have mP:Hid (X.grownBy (X.alloc (.cells #[.int .i64 0,.int .i64 0,.slice none 0 0,.slice none 0 0,.bool false] 47)) (some p)):=⟨b0.os,b0.tape,b0.output,b0.size,fun x hx _=>b0.block x hx⟩
 have hX0:=HR0.out.lt;clear h b0;generalize xG:X.alloc (.cells #[.int .i64 0,.int .i64 0,.slice none 0 0,.slice none 0 0,.bool false] 47)=W0 at *;have hD:=QN su.out;go_enter Tryz.func61,Tryz.ntmps61
 go_wp2_with fail
 refine hD.mono ?_;rintro e W3 ⟨m0,⟨⟨i,n,hok⟩,hvb⟩,A,f0,rfl,hl,hf0,c3,g3⟩;have fH:=aj (hok.dms hvb);have HN0:Hid (m0.rows.length=n∧1≤n):=⟨hok.len,hok.n5.1⟩;have yN:=aj hok.sl;have hba:=aF W3 (.cells #[.int .i64 m0.id,.int .i64 m0.n,.slice A.ra m0.rows.length A.rc,.slice A.sa m0.au.length A.sc,.bool m0.done] 47);have hxb:=Bx.new W3 47 #[.int .i64 m0.id,.int .i64 m0.n,.slice A.ra m0.rows.length A.rc,.slice A.sa m0.au.length A.sc,.bool m0.done];have hrl:=(HR0.out.grown g3 (by simp;omega)).lt
 have hfl:=eX hl
 have HM:Hid (MD w X (W3.alloc (.cells #[.int .i64 m0.id,.int .i64 m0.n,.slice A.ra m0.rows.length A.rc,.slice A.sa m0.au.length A.sc,.bool m0.done] 47)) p a len cap bs W3.heap.size m0 f0):=by
  refine⟨c3.step hba,(HR0.out.grown g3 (by simp;omega)).below hba,Oz hxb (bM hl hba) (fun k=>by have:=hfl _ k;omega),fun b hb=>by have:=hf0 b hb;omega,BJ,by omega, ?_⟩
  have hg2:W3.grownBy (W3.alloc (.cells #[.int .i64 m0.id,.int .i64 m0.n,.slice A.ra m0.rows.length A.rc,.slice A.sa m0.au.length A.sc,.bool m0.done] 47)) (some p):=⟨hba.os,hba.tape,hba.output,hba.size,fun x hx _=>hba.block x hx⟩
  exact bf (bf mP.out g3) hg2
 unfold eG dZ;clear hl hf0 hba hxb hok HR0 su mP hfl c3 g3 hD;go_wp2_with fail
 generalize W3.alloc (.cells #[.int .i64 m0.id,.int .i64 m0.n,.slice A.ra m0.rows.length A.rc,.slice A.sa m0.au.length A.sc,.bool m0.done] 47)=W4 at *;generalize W3.heap.size=o at *;refine (pF 12 HM.out.cc (by omega)).mono ?_
 rintro e W5 ⟨t,rfl,c5,g5⟩;have dJ:=aj (HM.out.drawn g5 c5);clear c5 g5 HM
 go_upto_if 7 with fail
 go_cut [7] from 8 to 35 (fun _ wx=>∃ (m:Mb) (fp:Fp),zi m n∧MD w X wx p a len cap bs o m fp)
 case first =>
  cases t with
  | false =>
   go_wp2;go_meet
   case rel=>exact⟨m0,f0,fH.out,dJ.out⟩
  | true =>
   have IL:=fQ 4 4 rfl dJ.out.cc (by omega) (by omega)
   go_wp2_with fail
   refine IL.mono ?_;rintro e Y1 ⟨y,rfl,hy6,c6,g6⟩;have bF:=aj (dJ.out.drawn g6 c6);clear c6 g6 IL dJ;have hys:y=0∨y=1∨y=2∨y=3:=by omega
   rcases hys with rfl|rfl|rfl|rfl
   ·have hF:=EF (-1) 7 (by omega) (by omega) (by omega) bF.out.cc
    go_wp2_with fail
    refine hF.mono ?_;rintro e Y2 ⟨x,rfl,hx1,hx2,c7,g7⟩;have M2:=bF.out.drawn g7 c7;obtain⟨v0,z0,hB⟩:=(bC.refl M2.iY).put (j:=0) (x:=.int .i64 m0.id) rfl (.int .i64 x);obtain⟨jO,M3⟩:=M2.act (m':={ m0 with id:=x }) hB
    simp only[Nat.zero_add] at v0 z0 M3;have HE:Hid (∃ (m:Mb) (fp:Fp),zi m n∧MD w X (Y2.setCell ⟨o,0,none⟩ (.int .i64 x)) p a len cap bs o m fp):=⟨{ m0 with id:=x },jO,⟨⟨hx1,hx2⟩,fH.out.hn,fH.out.n5,fH.out.ok,fH.out.rl,fH.out.sl,fH.out.sg,fH.out.vb⟩,M3⟩
    clear hF c7 g7 M2 hB M3 bF;go_wp2;go_meet
    case rel=>exact HE.out
   ·obtain⟨gg,go,gc,M1w⟩:=Mw.start bF.out.iY (by have:=HN0.out;omega)
    obtain⟨u,f,hu,hfz,how,hsub,hnB,hput⟩:=bF.out.iY.at (j:=2) (c:=dA 8 eY m0.rows) rfl;obtain rfl:=Option.some.inj (hu.symm.trans M1w.rws);simp only[Nat.zero_add] at hu hfz hput
    obtain⟨r0,R,hR⟩:∃ r0 R,m0.rows=r0::R:=by
     cases e:m0.rows with
     | nil=>have:=HN0.out;rw[e] at this;simp at this;omega
     | cons r0 R=>exact⟨r0,R,rfl⟩
    have FQ:m0.rows.length=R.length+1:=by rw[hR];rfl
    have hcap:R.length+1≤gc:=by
     have:=how;obtain⟨_,_,_,_,_,e,ho,_⟩:=this
     cases e
     have:=ho.le.1;omega
    rw[FQ] at hu how;rw[hR] at how
    have HD:Hid (∀ (u':Value) (f':Fp),aI.ow Y1 (dA 8 eY R) u' f'→(∀ b,f' b→f b)→∃ (m:Mb) (fp:Fp),zi m n∧MD w X (Y1.setCell ⟨o,2,none⟩ u') p a len cap bs o m fp):=fun u' f' h1 h2=>by
     obtain⟨_,_,k3,_⟩:=hput Y1 (dA 8 eY R) u' f' (aO.refl _ _) h1 (fun b hb=>.inl (h2 b hb))
     obtain⟨jO,M3⟩:=bF.out.act (m':={ m0 with rows:=R }) k3
     exact⟨{ m0 with rows:=R },jO,⟨fH.out.id',fH.out.hn,fH.out.n5,fun r hr=>fH.out.ok r (by rw[hR];exact List.mem_cons_of_mem _ hr),by have:=fH.out.rl;simp only;omega,fH.out.sl,fH.out.sg,fun r hr=>fH.out.vb r (by rw[hR];exact List.mem_cons_of_mem _ hr)⟩,M3⟩
    have n1:(1:Int)≤((R.length+1:Nat):Int):=by omega
    have n2:(1:Int)≤(R.length:Int)+1:=by omega
    obtain⟨t1,t2⟩:=MQ gI (by omega) how
    by_cases hc1:gc=1
    ·subst hc1
     obtain⟨k1,k2⟩:=t1 rfl;subst k2;have HE:Hid _:=HD.out _ _ k1 (fun b hb=>hb.elim)
     clear hput how t1 t2 HD k1 bF M1w hR FQ;go_wp2;go_meet
     case rel=>exact HE.out
    ·obtain⟨f',k1,k2⟩:=t2 (by omega)
     have HE:Hid _:=HD.out _ f' k1 k2;clear hput how t1 t2 HD k1 bF M1w hR FQ;go_wp2;go_meet
     case rel=>exact HE.out
   ·obtain⟨u,f,hu,hfz,how,hsub,hnB,hput⟩:=bF.out.iY.at (j:=3) (c:=bQ m0.au) rfl
    obtain⟨sa,sc,_,rfl,_⟩:=fB.1 how;simp only[Nat.zero_add] at hu;have hF:=EF (-1) 62 (by omega) (by omega) (by omega) (bF.out.step (Same.drewN Y1 1).below).cc
    clear hfz how hput;go_wp2_with fail
    refine jE (S:=fun X:World=>X.cell? ⟨o,3,none⟩=some (.slice sa m0.au.length sc)) 7 bH ((hu)) fun hHeld=>?_
    refine aY (i:=0) rfl hHeld ?_;refine aY (i:=1) rfl hHeld ?_;refine aS (i:=2) rfl ?_;refine dI (i:=3) rfl fun K hK=>?_
    go_simp
    go_at_call 62
    refine hF.mono ?_;rintro e Y2 ⟨x,rfl,hx1,hx2,c7,g7⟩;have M2:=(bF.out.step (Same.drewN Y1 1).below).drawn g7 c7;obtain⟨u,f,hu2,hfz,how,hsub,hnB,hput⟩:=M2.iY.at (j:=3) (c:=bQ m0.au) rfl;simp only[Nat.zero_add] at hu2 hput hfz;have hu3:Y2.cell? ⟨o,3,none⟩=some (.slice sa m0.au.length sc):=g7.cell (show (Y1.drewN 1).cell? ⟨o,3,none⟩=_ from hu) (by have:=bF.out.hpo;have:=bF.out.ho;simp;omega)
    obtain rfl:=Option.some.inj (hu2.symm.trans hu3);obtain⟨a',c',ea,hA⟩:=ny x how (by have:=yN.out;omega)
    cases ea
    refine hK.out _ _ hu3 (fun aK=>?_)
    clear hK hHeld;have hHeld:=aK;try simp only[dw]
    refine dI (i:=4) rfl fun K hK=>?_
    go_simp;refine hK.out _ _ (((aF Y2 (.cells #[.int .i64 x] 2)).cell (World.block_lt_of_cell? _ _ hu3)).trans hu3) (fun aK=>?_)
    clear hK hHeld;have hHeld:=aK;try simp only[dw]
    refine dI (i:=5) rfl fun K hK=>?_
    refine gQ (by rfl) _ _ _ _ (by rfl) (.slice sa m0.au.length sc) _ (by rfl) (by rfl) hA ⟨rfl,rfl,rfl,rfl⟩ ?_
    rintro v' w4 ⟨a4,c4,f4,rfl,q1,q2,q3⟩;obtain⟨k1,k2,k3,_⟩:=hput w4 (bQ (m0.au++[x])) _ f4 q3 q1 q2;refine hK.out _ _ k1 (fun aK=>?_)
    clear hK hHeld;have hHeld:=aK;try simp only[dw]
    refine aY (i:=6) rfl hHeld ?_;obtain⟨jO,M3⟩:=M2.act (m':={ m0 with au:=m0.au++[x] }) k3
    have HE : Hid (∃ (m : Mb) (fp : Fp),zi m n ∧ MD w X (w4.setCell ⟨o,3,none⟩ (.slice a4 (m0.au.length + 1) c4)) p a len cap bs o m fp) := ⟨{ m0 with au := m0.au ++ [x] },jO,⟨fH.out.id',fH.out.hn,fH.out.n5,fH.out.ok,fH.out.rl,by have := yN.out;simp;omega,fun y hy => by
     rcases List.mem_append.1 hy with h|h
     ·exact fH.out.sg y h
     ·have:y=x:=by simpa using h
      omega,fH.out.vb⟩,M3⟩
    refine lQ rfl fun K hK=>?_
    go_simp;refine hK.out _ _ ?_;clear hK hHeld hF c7 g7 M2 hA hput q1 q2 q3 k3 M3 bF how hu hu2 hu3;go_wp2_with fail
    go_meet
    case rel=>exact HE.out
   ·obtain⟨v0,z0,hB⟩:=(bC.refl bF.out.iY).put (j:=4) (x:=.bool m0.done) rfl (.bool (!m0.done))
    obtain⟨jO,M3⟩:=bF.out.act (m':={ m0 with done:=!m0.done }) hB
    simp only[Nat.zero_add] at v0 z0 M3;have HE:Hid (∃ (m:Mb) (fp:Fp),zi m n∧MD w X (Y1.setCell ⟨o,4,none⟩ (.bool (!m0.done))) p a len cap bs o m fp):=⟨{ m0 with done:=!m0.done },jO,⟨fH.out.id',fH.out.hn,fH.out.n5,fH.out.ok,fH.out.rl,fH.out.sl,fH.out.sg,fH.out.vb⟩,M3⟩
    clear hB M3 bF;go_wp2;go_meet
    case rel=>exact HE.out
 case rest =>
  obtain⟨m,fp,hO,hM⟩:=hcut;generalize wc=Y9 at *;have HM:=aj hM;have HO:=aj hO;clear hM hO dJ fH HN0;obtain⟨vs,hpc,hov,hnB⟩:=HM.out.iY;obtain⟨A9,rfl,FQ⟩:=EL hov;have hl5:(dZ A9 m).toList.length=5:=rfl;have c0:=hpc.cell 0 (by rw[hl5];omega)
  have c1:=hpc.cell 1 (by rw[hl5];omega)
  have c2:=hpc.cell 2 (by rw[hl5];omega)
  have c3:=hpc.cell 3 (by rw[hl5];omega)
  have c4:=hpc.cell 4 (by rw[hl5];omega)
  simp only[Nat.zero_add] at c0 c1 c2 c3 c4;replace c0:Y9.cell? ⟨o,0,none⟩=some (.int .i64 m.id):=c0;replace c1:Y9.cell? ⟨o,1,none⟩=some (.int .i64 m.n):=c1;replace c2:Y9.cell? ⟨o,2,none⟩=some (.slice A9.ra m.rows.length A9.rc):=c2;replace c3:Y9.cell? ⟨o,3,none⟩=some (.slice A9.sa m.au.length A9.sc):=c3;replace c4:Y9.cell? ⟨o,4,none⟩=some (.bool m.done):=c4;obtain⟨r0,r1,r2,r3,r4⟩:=Bx.r5 HM.out.res;obtain⟨f0',f1,f2,f3,f4⟩:=HM.out.res.f5
  have HA:Hid (∀ {x0 x1 x2 x3 x4:Value},bG (((((Y9.setCell ⟨X.heap.size,0,none⟩ x0).setCell ⟨X.heap.size,1,none⟩ x1).setCell ⟨X.heap.size,2,none⟩ x2).setCell ⟨X.heap.size,3,none⟩ x3).setCell ⟨X.heap.size,4,none⟩ x4) (fD m) (fE A9 m) fp∧Cc w (((((Y9.setCell ⟨X.heap.size,0,none⟩ x0).setCell ⟨X.heap.size,1,none⟩ x1).setCell ⟨X.heap.size,2,none⟩ x2).setCell ⟨X.heap.size,3,none⟩ x3).setCell ⟨X.heap.size,4,none⟩ x4) p a len cap bs∧X.grownBy (((((Y9.setCell ⟨X.heap.size,0,none⟩ x0).setCell ⟨X.heap.size,1,none⟩ x1).setCell ⟨X.heap.size,2,none⟩ x2).setCell ⟨X.heap.size,3,none⟩ x3).setCell ⟨X.heap.size,4,none⟩ x4) (some p)):=fun {x0 x1 x2 x3 x4}=>by
   have hw:=kX Y9 X.heap.size (a:=x0) (b:=x1) (c:=x2) (d:=x3) (e:=x4);have h1:=HM.out.hpo;have h3:=HM.out.lt;exact⟨bP FQ hw (fun b hb e=>by have:=HM.out.iq b hb;omega),HM.out.cc.wrt hw (by omega) (fun b e=>by omega),ku HM.out.gr hw (fun b e=>by omega)⟩
  have zU:Hid (∀ b,fp b→X.heap.size≤b):=fun b hb=>by have:=HM.out.iq b hb;omega
  clear hpc hov FQ HM hnB hl5;go_wp2;refine bodyPost_ret (v:=.agg #[.int .i64 m.id,.int .i64 m.n,.slice A9.ra m.rows.length A9.rc,.slice A9.sa m.au.length A9.sc,.bool m.done]) (by simp[results,Tryz.results61,go_sem, *]) rfl ?_
  exact⟨m,n,HO.out,A9,fp,rfl,HA.out.1,zU.out,HA.out.2⟩
end Go.Proofs.YtafimeakbdmkjaaGreat