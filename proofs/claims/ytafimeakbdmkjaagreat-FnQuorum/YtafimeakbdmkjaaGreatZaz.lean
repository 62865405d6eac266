/-
  Texts in one.
-/
import Derived.Test.YtafimeakbdmkjaaGreatZay
import Derived.Test.YtafimeakbdmkjaaGreatZas
import Derived.Test.YtafimeakbdmkjaaGreatZar
import Derived.Test.YtafimeakbdmkjaaGreatZaf
import Derived.Test.YtafimeakbdmkjaaGreatZai
import Derived.Test.YtafimeakbdmkjaaGreatZam
import Derived.Test.YtafimeakbdmkjaaGreatZal
import Derived.Test.YtafimeakbdmkjaaGreatZae
import Derived.Test.YtafimeakbdmkjaaGreatZac
import Derived.Test.YtafimeakbdmkjaaGreatZaa
import Derived.Test.YtafimeakbdmkjaaGreatZax
import Derived.Deep.CutRange
namespace Go.Proofs.YtafimeakbdmkjaaGreat
set_option linter.unusedVariables false
set_option linter.unusedSimpArgs false
open Go.RowKit Go.Sort
set_option maxRecDepth 100000
set_option maxHeartbeats 12800000
section
structure xY (g:Gr) (n:Nat):Prop where
 mem:∀ m∈g.mem,kH m∧BI m∧oU m≤100000
 aG:∀ x∈g.aG,lV x.row∧(eH x.fr∧eH x.to∧oM x.row)∧En x≤1000
 ml:g.mem.length=n
 n4:1≤n∧n≤4
 ul:g.up.length≤5
 at6:g.aG.length≤201
 ow:kC g n 400
theorem at7 {g:Gr} {n:Nat} (h:OkG g n) (h4:n≤4) (ho:kC g n 325):xY g n:=by
 refine⟨fun m hm=>?_,fun x hx=>?_,h.ml,⟨h.n5.1,h4⟩,by rw[h.ul];omega,by have:=h.lX;omega,ho.mono (by omega)⟩
 ·obtain⟨i,ok⟩:=h.Wq hm
  exact⟨ok.fit,FH ok,ok.small.2.2.2⟩
 ·obtain⟨i,j,h1,h2,h3,h5,_,ok⟩:=h.iP x hx
  have h5':=h.n5;exact⟨ok.fit,⟨⟨by omega,by omega⟩,⟨by omega,by omega⟩,(Ud h).2 x hx |>.2.2⟩,by have:=ok.c8.2;unfold En;omega⟩
theorem xY.set {g:Gr} {n:Nat} (h:xY g n) {m:Mb} (hm:kH m∧BI m∧oU m≤100000) (hv:(ah m.rows 0).ver≤400):xY { g with mem:=g.mem.set 0 m } n:=by
 refine⟨fun x hx=>?_,h.aG,by simp only[List.length_set];exact h.ml,h.n4,h.ul,h.at6,fun k hk=>?_⟩
 ·rcases List.mem_or_eq_of_mem_set hx with k|k
  ·exact h.mem x k
  ·rw[k];exact hm
 ·have e:=qH (g:=g) (i:=0) (j:=k) (m:=m) (by rw[h.ml];exact h.n4.1)
  unfold Gr.set at e;unfold tJ;rw[e]
  split
  ·rename_i k0;rw[k0];exact hv
  ·exact h.ow k hk
theorem PD {w X Y Y2:World} {p:Nat} {a:Option Addr} {len cap:Nat} {bs:Nat→Int} {o:Nat} {g:Gr} {fp:Fp} (h:mX w X Y p a len cap bs o g fp) (hg:Y.grownBy Y2 (some p)) (hc:Cc w Y2 p a len cap bs) :
  ∃ V:World,mX w X V p a len cap bs o g fp∧V.heap.size=Y.heap.size∧Below V.heap.size V Y2∧∀ b,b≠p→V.heap[b]?=Y.heap[b]?:=by
 have hpY:=h.cc.lt;obtain⟨i,x,hi,hh⟩:=hc.cur
 have hb:∀ b,b≠p→(Y.heap.setIfInBounds p (.cells #[.slice a len cap,.int .i64 (i:Int),.int .i64 x] 96 (0,0)))[b]?=Y.heap[b]?:=fun b hne=>by
  rw[Array.getElem?_setIfInBounds_ne (fun e=>hne e.symm)]
 have hp:(Y.heap.setIfInBounds p (.cells #[.slice a len cap,.int .i64 (i:Int),.int .i64 x] 96 (0,0)))[p]?=Y2.heap[p]?:=by
  rw[Array.getElem?_setIfInBounds_self_of_lt hpY,hh]
 have hs:(Y.heap.setIfInBounds p (.cells #[.slice a len cap,.int .i64 (i:Int),.int .i64 x] 96 (0,0))).size=Y.heap.size:=by simp
 have hgV:Y.grownBy { Y with heap:=Y.heap.setIfInBounds p (.cells #[.slice a len cap,.int .i64 (i:Int),.int .i64 x] 96 (0,0)) } (some p):=⟨rfl,rfl,rfl,Nat.le_of_eq hs.symm,fun b _ hne=>hb b (fun e=>hne (by rw[e]))⟩
 refine⟨{ Y with heap:=Y.heap.setIfInBounds p (.cells #[.slice a len cap,.int .i64 (i:Int),.int .i64 x] 96 (0,0)) },h.drawn hgV (h.cc.drawn hgV ⟨i,x,hi,hp.trans hh⟩),hs,⟨hg.os,hg.tape,hg.output, ?_,fun b hlt=>?_⟩,hb⟩
 ·show (Y.heap.setIfInBounds p _).size≤_
  rw[hs];exact hg.size
 ·show Y2.heap[b]?=(Y.heap.setIfInBounds p _)[b]?
  by_cases e:b=p
  ·rw[e];exact hp.symm
  ·rw[hb b e]
   have hlt':b<Y.heap.size:=by have h1:b<(Y.heap.setIfInBounds p (.cells #[.slice a len cap,.int .i64 (i:Int),.int .i64 x] 96 (0,0))).size:=hlt;rw[hs] at h1;exact h1
   exact hg.block b hlt' (fun k=>e (Option.some.inj k))
theorem pO.sz2 {r:Rw} (h:pO r):iy r≤1000:=by
 have h1:=yQ h.ts r.txt.length (Nat.le_refl _);have:=h.tl;have:=h.gl;have:=h.sl;have:=h.ml;have h2:=Nat.mul_le_mul_right 21 h.tl;unfold iy;omega
theorem zi.sz2 {m:Mb} {n:Nat} (h:zi m n):oU m≤100000:=by
 have e2:DK m.rows m.rows.length≤300*m.rows.length:=by
  unfold DK;rw[List.take_length];exact yR iy 300 m.rows (fun r hr=>(h.ok r hr).c8.2)
 have:=h.rl;have:=h.sl;unfold oU Em;omega
theorem YA (w:World) (x:Int):fA (w.alloc (.cells #[.int .i64 x] 2)) 1 w.heap.size 0 1 1 ([x].map (Value.int .i64)):=by
 have hb:=Bx.new w 2 #[.int .i64 x];refine⟨rfl,Nat.le_refl _,by unfold maxLen;omega,hb.lt,fun i hi=>?_,fun i hi=>?_,fun i hi=>hb.f _⟩
 ·obtain rfl:i=0:=by omega
  exact hb.at 0 rfl
 ·obtain rfl:i=0:=by omega
  rw[show (0:Nat)+0=0 from rfl,hb.at 0 rfl]
  rfl
theorem YB {m:Mb} {i n:Nat} (h:dO m i n):Em m.rows≤2000:=by
 have e2:DK m.rows m.rows.length≤300*m.rows.length:=by
  unfold DK;rw[List.take_length];exact yR iy 300 m.rows (fun r hr=>(h.rowOk r hr).c8.2)
 have:=h.len;have:=h.n5;unfold Em;omega
theorem aj7 {m:Mb} {n:Nat} (h:dO m 0 n) (hn:0<n):kH { m with rows:=m.rows.set 0 { ah m.rows 0 with wed:=true,aB:=true,aA:=(ah m.rows 0).got },done:=true }∧BI { m with rows:=m.rows.set 0 { ah m.rows 0 with wed:=true,aB:=true,aA:=(ah m.rows 0).got },done:=true }∧oU { m with rows:=m.rows.set 0 { ah m.rows 0 with wed:=true,aB:=true,aA:=(ah m.rows 0).got },done:=true }≤100000:=by
 have hf:=h.fit;have h6:=FH h;have ok:=h.ok 0 hn;have hin:ah m.rows 0∈m.rows:=lJ (by rw[h.len];exact hn)
 have hl:=h.len;have h5:=h.n5;have hs:=h.sl;refine⟨⟨fun r hr=>?_,hf.2⟩,⟨h6.1,h6.2.1,fun r hr=>?_⟩, ?_⟩
 ·rcases List.mem_or_eq_of_mem_set hr with k|k
  ·exact hf.1 r k
  ·rw[k];exact⟨ok.fit.1,ok.fit.2.1,ok.fit.1⟩
 ·rcases List.mem_or_eq_of_mem_set hr with k|k
  ·exact h6.2.2 r k
  ·rw[k];exact (h6.2.2 _ hin:eH (ah m.rows 0).ver∧eH (ah m.rows 0).aC)
 ·have hz:iy { ah m.rows 0 with wed:=true,aB:=true,aA:=(ah m.rows 0).got }≤400:=by
   have h1:=ok.c8.2;have h2:=ok.gl;unfold iy at h1 ⊢;simp only
   omega
  generalize ({ ah m.rows 0 with wed:=true,aB:=true,aA:=(ah m.rows 0).got }:Rw)=r' at hz ⊢
  have e2:DK (m.rows.set 0 r') (m.rows.set 0 r').length≤400*(m.rows.set 0 r').length:=by
   unfold DK;rw[List.take_length];refine yR iy 400 _ (fun r hr=>?_)
   rcases List.mem_or_eq_of_mem_set hr with k|k
   ·have:=(h.rowOk r k).c8.2;omega
   ·rw[k];exact hz
  unfold oU Em;rw[List.length_set] at e2;simp only[List.length_set]
  omega
theorem xY.push {g:Gr} {n:Nat} (h:xY g n) {x y:Int} {r:Rw} (hr:pO r) (hx:eH x) (hy:eH y) (hl:g.aG.length≤200):xY { g with aG:=g.aG++[⟨x,y,r⟩] } n:=by
 have hx:lV (⟨x,y,r⟩:Ml).row∧(eH (⟨x,y,r⟩:Ml).fr∧eH (⟨x,y,r⟩:Ml).to∧oM (⟨x,y,r⟩:Ml).row)∧En ⟨x,y,r⟩≤1000:=⟨hr.fit,⟨hx,hy,hr.i64⟩,hr.sz2⟩;refine⟨h.mem,fun y hy=>?_,h.ml,h.n4,h.ul,by simp only[List.length_append,List.length_singleton];omega,h.ow.Cm rfl⟩
 rcases List.mem_append.1 hy with k|k
 ·exact h.aG y k
 ·rw[List.mem_singleton.1 k];exact hx
def DgA (g:Gr):Prop:=∃ n,xY g n
attribute [local irreducible] sv
theorem QS {w X:World} {p:Nat} {a:Option Addr} {len cap:Nat} {bs:Nat→Int} (h:Cc w X p a len cap bs) :
  Calls Tryz.prog 29 #[.pointer (some ⟨p,0,none⟩)] X fun e X'=>∃ g,DgA g∧ZH w X X' p a len cap bs e g:=by
 have bH:=dH;have BJ:=h.lt;have hwp:=h.hp;have b0:=aF X (.cells #[.slice none 0 0,.slice none 0 0,.slice none 0 0] 28);have HR0:Hid (Bx (X.alloc (.cells #[.slice none 0 0,.slice none 0 0,.slice none 0 0] 28)) X.heap.size 28 #[.slice none 0 0,.slice none 0 0,.slice none 0 0]):=Bx.new X _ _;have su:Hid (Cc w (X.alloc (.cells #[.slice none 0 0,.slice none 0 0,.slice none 0 0] 28)) p a len cap bs):=h.step b0;have mP:Hid (X.grownBy (X.alloc (.cells #[.slice none 0 0,.slice none 0 0,.slice none 0 0] 28)) (some p)):=⟨b0.os,b0.tape,b0.output,b0.size,fun x hx _=>b0.block x hx⟩
 have hX0:=HR0.out.lt;clear h b0;generalize xG:X.alloc (.cells #[.slice none 0 0,.slice none 0 0,.slice none 0 0] 28)=W0 at *;have hD:=QM su.out;go_enter Tryz.func29,Tryz.ntmps29
 go_wp2_with fail
 refine hD.mono ?_;rintro e W3 ⟨g0,⟨n,hok,hn4,how⟩,A,BD,rfl,hl,hf,c3,g3⟩;have G:=hok.rW;have fH:=aj (at7 G hn4 how);have cO:=aj G;have HM:Hid (mX w X (W3.alloc (.cells #[.slice A.ma g0.mem.length A.mc,.slice A.ua g0.up.length A.uc,.slice A.la g0.aG.length A.lc] 28)) p a len cap bs W3.heap.size g0 BD):=Pz c3 (HR0.out.grown g3 (by simp;omega)) (bf mP.out g3) BJ hl (fun b hb=>by have:=hf b hb;omega)
 have hn1:1≤n:=G.n5.1;unfold iO jF;clear hl hf hok how G HR0 su mP c3 g3 hD xG;go_wp2_with fail
 generalize W3.alloc (.cells #[.slice A.ma g0.mem.length A.mc,.slice A.ua g0.up.length A.uc,.slice A.la g0.aG.length A.lc] 28)=W4 at *;generalize W3.heap.size=o at *;refine (pF 10 HM.out.cc (by omega)).mono ?_
 rintro e W5 ⟨t,rfl,c5,g5⟩;have dJ:=aj (HM.out.drawn g5 c5);clear c5 g5 HM
 go_upto_if 8 with fail
 go_cut [8] from 9 to 74 (fun _ wx=>∃ (g:Gr) (fp:Fp),xY g n∧mX w X wx p a len cap bs o g fp)
 case first =>
  cases t with
  | false =>
   go_wp2;go_meet
   case rel=>exact⟨g0,BD,fH.out,dJ.out⟩
  | true =>
   have IL:=fQ 5 5 rfl dJ.out.cc (by omega) (by omega)
   go_wp2_with fail
   refine IL.mono ?_;rintro e Y1 ⟨y,rfl,hy6,c6,g6⟩;have bF:=aj (dJ.out.drawn g6 c6);have hml:=fH.out.ml;have yM:=aj hml;have hm0:0<g0.mem.length:=by omega
   have hm1:(0:Int)<(g0.mem.length:Int):=by omega
   clear c6 g6 IL dJ hml;have hys:y=0∨y=1∨y=2∨y=3∨y=4:=by omega
   clear hy6;rcases hys with rfl|rfl|rfl|rfl|rfl
   ·obtain⟨b,off,c,G0⟩:=Gw.start bF.out.iY hm0
    have hu:=G0.mem;have hD:=QO (bF.out.step (Same.drewN Y1 1).below).cc;clear G0;go_wp2_with fail
    refine jE (S:=fun X:World=>X.cell? ⟨o,0,none⟩=some (.slice (some ⟨b,off,none⟩) g0.mem.length c)) 5 bH ((hu)) fun hHeld=>?_
    refine aS (i:=0) rfl ?_;refine aY (i:=1) rfl hHeld ?_;refine aS (i:=2) rfl ?_;refine dI (i:=3) rfl fun K hK=>?_
    go_simp
    go_at_call 61
    refine hD.mono ?_;rintro e Y2 ⟨m',n',hS',Am,fm,rfl,hl,hfm,c7,g7⟩;have hu3:Y2.cell? ⟨o,0,none⟩=some (.slice (some ⟨b,off,none⟩) g0.mem.length c):=g7.cell (show (Y1.drewN 1).cell? ⟨o,0,none⟩=_ from hu) (by have:=bF.out.hpo;have:=bF.out.ho;simp;omega)
    obtain⟨V,hV,Ia,MR,ZJ⟩:=PD (bF.out.step (Same.drewN Y1 1).below) g7 c7;obtain⟨b',off',c',G1⟩:=Gw.start hV.iY hm0;have e1:=Option.some.inj (((MR.cell (World.block_lt_of_cell? _ _ G1.mem)).trans G1.mem).symm.trans hu3)
    cases e1
    have hG:=G1.FI (k:=0) hm0 MR hl (fun b hb=>by have:=hfm b hb;rw[Ia];exact this)
    obtain⟨jO,M3,_⟩:=hV.act hG.bU;obtain⟨f9,hpl,_⟩:=G1.mb (k:=0) hm0;simp only[Nat.zero_mul,Nat.add_zero] at hpl M3;have hpl2:=hpl.below MR;obtain⟨_,_,x0,z0,_⟩:=hpl2.at (j:=0) rfl;obtain⟨_,_,x1,z1,_⟩:=hpl2.at (j:=1) rfl;obtain⟨_,_,x2,z2,_⟩:=hpl2.at (j:=2) rfl;obtain⟨_,_,x3,z3,_⟩:=hpl2.at (j:=3) rfl;obtain⟨_,_,x4,z4,_⟩:=hpl2.at (j:=4) rfl;simp only[Nat.add_zero] at x0 z0;have HE:Hid (∃ (g:Gr) (fp:Fp),xY g n∧mX w X _ p a len cap bs o g fp):=⟨_,jO,fH.out.set ⟨hS'.fit,hS'.i64,hS'.sz2⟩ (by have:=hS'.vb.row (by omega) 0;omega),M3⟩
    refine hK.out _ _ hu3 (fun aK=>?_)
    clear hK hHeld;have hHeld:=aK;try simp only[dw]
    unfold eG;unfold dZ;refine aS (i:=4) rfl ?_;refine lQ rfl fun K hK=>?_
    go_simp;refine hK.out _ _ ?_;clear hK hHeld hD c7 g7 hV Ia MR ZJ G1 hG hpl hpl2 M3 hS' hl hfm bF hu hu3 x0 x1 x2 x3 x4 z0 z1 z2 z3 z4;go_wp2_with fail
    go_meet
    case rel=>exact HE.out
   ·obtain⟨u,f,hu,hfz,how,hsub,hnB,hput⟩:=bF.out.iY.at (j:=1) (c:=qR g0.up) rfl
    simp only[Nat.zero_add] at hu hfz hput
    obtain⟨u0,R,hR⟩:∃ u0 R,g0.up=u0::R:=by
     cases e:g0.up with
     | nil=>have:=cO.out.ul;rw[e] at this;simp at this;omega
     | cons u0 R=>exact⟨u0,R,rfl⟩
    have zQ:R.length+1≤5:=by have:=fH.out.ul;rw[hR] at this;simpa using this
    rw[hR,sV] at how
    obtain⟨gg,go_,gc,rfl,hcap⟩:∃ gg go_ gc,u=.slice (some ⟨gg,go_,none⟩) (R.length+1) gc∧R.length+1≤gc:=by
     obtain⟨a1,c1,us,G1,f1,e,ho,_⟩:=how;rcases ho with ⟨h0,_⟩|⟨g2,off2,e2,ho,_⟩
     ·simp at h0
     ·exact⟨g2,off2,c1,by rw[e,e2];rfl,ho.le⟩
    have HD:Hid (∀ (u':Value) (f':Fp),aI.ow Y1 (dA 1 Dn R) u' f'→(∀ b,f' b→f b)→∃ (g:Gr) (fp:Fp),xY g n∧mX w X (Y1.setCell ⟨o,1,none⟩ u') p a len cap bs o g fp):=fun u' f' h1 h2=>by
     rw[← sV] at h1;obtain⟨_,_,k3,_⟩:=hput Y1 (qR R) u' f' (aO.refl _ _) h1 (fun b hb=>.inl (h2 b hb))
     obtain⟨jO,M3,_⟩:=bF.out.act (g':={ g0 with up:=R }) k3
     exact⟨{ g0 with up:=R },jO,⟨fH.out.mem,fH.out.aG,fH.out.ml,fH.out.n4,by simp only;omega,fH.out.at6,fH.out.ow.Cm rfl⟩,M3⟩
    have n1:(1:Int)≤((R.length+1:Nat):Int):=by omega
    have n2:(1:Int)≤(R.length:Int)+1:=by omega
    obtain⟨t1,t2⟩:=MQ Gh (by omega) how
    by_cases hc1:gc=1
    ·subst hc1
     obtain⟨k1,k2⟩:=t1 rfl;subst k2;have HE:Hid _:=HD.out _ _ k1 (fun b hb=>hb.elim)
     clear hput how t1 t2 HD k1 bF hR;go_wp2;go_meet
     case rel=>exact HE.out
    ·obtain⟨f',k1,k2⟩:=t2 (by omega)
     have HE:Hid _:=HD.out _ f' k1 k2;clear hput how t1 t2 HD k1 bF hR;go_wp2;go_meet
     case rel=>exact HE.out
   ·obtain⟨b,off,c,G0⟩:=Gw.start bF.out.iY hm0
    have hu:=G0.mem;obtain⟨um,fm,hu2,_,yA,_⟩:=bF.out.iY.at (j:=2) (c:=dA 10 gZ g0.aG) rfl;obtain⟨la,lc,_,_,_,rfl,_⟩:=yA;simp only[Nat.zero_add] at hu2;have hop:o≠p:=by have:=bF.out.hpo;have:=bF.out.ho;omega
    have PE:∀ {Y Y':World} {j:Nat} {v:Value},Y.grownBy Y' (some p)→Y.cell? ⟨o,j,none⟩=some v→Y'.cell? ⟨o,j,none⟩=some v:=fun hg h=>hg.cell h (by simp;exact fun e=>hop e)
    have hF3:=EF (-1) 6 (by omega) (by omega) (by omega) (bF.out.step (Same.drewN Y1 1).below).cc
    have aD8:=aj yM.out;clear G0;go_wp2_with fail
    refine jE (S:=fun X:World=>X.cell? ⟨o,2,none⟩=some (.slice la g0.aG.length lc)∧X.cell? ⟨o,0,none⟩=some (.slice (some ⟨b,off,none⟩) g0.mem.length c)) 15 bH ((⟨hu2,hu⟩)) fun hHeld=>?_
    refine aS (i:=0) rfl ?_;refine aY (i:=1) rfl hHeld ?_;refine aS (i:=2) rfl ?_;refine aS (i:=4) rfl ?_;refine aS (i:=6) rfl ?_;refine aS (i:=7) rfl ?_;refine aY (i:=8) rfl hHeld ?_;refine aS (i:=9) rfl ?_;refine dI (i:=3) rfl fun K hK=>?_
    go_simp
    go_at_call 62
    refine hF3.mono ?_;rintro e Y2 ⟨xf,rfl,hx1,hx2,c7,g7⟩;have M2:=(bF.out.step (Same.drewN Y1 1).below).drawn g7 c7;have v2:Y2.cell? ⟨o,2,none⟩=some (.slice la g0.aG.length lc):=PE g7 (show (Y1.drewN 1).cell? ⟨o,2,none⟩=_ from hu2)
    have v0:Y2.cell? ⟨o,0,none⟩=some (.slice (some ⟨b,off,none⟩) g0.mem.length c):=PE g7 (show (Y1.drewN 1).cell? ⟨o,0,none⟩=_ from hu)
    have hF5:=EF (-1) 6 (by omega) (by omega) (by omega) c7
    refine hK.out _ _ ⟨v2,v0⟩ (fun aK=>?_)
    clear hK hHeld;have hHeld:=aK;try simp only[dw]
    refine dI (i:=5) rfl fun K hK=>?_
    go_simp
    go_at_call 62
    refine hF5.mono ?_;rintro e Y3 ⟨xt,rfl,ht1,ht2,c8,g8⟩;have M3:=M2.drawn g8 c8;have y2:=PE g8 v2;have y0:=PE g8 v0;have au0:=zF g0.mem.length (g0.mem.length:Int) rfl (by have:=fH.out.n4;have:=yM.out;omega) c8
    refine hK.out _ _ ⟨y2,y0⟩ (fun aK=>?_)
    clear hK hHeld;have hHeld:=aK;try simp only[dw]
    refine dI (i:=10) rfl fun K hK=>?_
    go_simp
    go_at_call 63
    refine au0.mono ?_;rintro e Y4 ⟨Ar,r,fr,rfl,hr,hl,hlo,c9,g9⟩;obtain⟨V,hV,Ia,MR,ZJ⟩:=PD M3 g9 c9;obtain⟨b',off',c',G1⟩:=Gw.start hV.iY hm0;have eV:∀ j,V.cell? ⟨o,j,none⟩=Y3.cell? ⟨o,j,none⟩:=fun j=>World.cell?_of_block (ZJ o hop)
    have e1:=Option.some.inj (G1.mem.symm.trans ((eV 0).trans y0))
    cases e1
    obtain⟨u9,f9,f0,k1,k2,k3,k4,k5,k6,_,_,k8⟩:=G1.full;have e2:=Option.some.inj (k1.symm.trans ((eV 2).trans y2));subst e2;have hA:=Gw.Qk (x:=⟨xf,xt,r⟩) k3 k6 k8 MR hl (fun b hb=>by rw[Ia];exact hlo b hb) (by have:=cO.out.lX;omega)
    have z2:=PE g9 y2;have z0:=PE g9 y0;have hKm:∀ {Y:World},aO f9 V Y→Y.cell? ⟨o,0,none⟩=some (.slice (some ⟨b,off,none⟩) g0.mem.length c):=fun hw=>(World.cell?_of_block (hw.block o k5 k4)).trans G1.mem
    refine hK.out _ _ ⟨z2,z0⟩ (fun aK=>?_)
    clear hK hHeld;have hHeld:=aK;try simp only[dw]
    unfold bV;unfold bD;unfold xI at hA;refine aS (i:=11) rfl ?_;refine dI (i:=12) rfl fun K hK=>?_
    go_simp;refine hK.out _ _ ⟨((aF Y4 _).cell (World.block_lt_of_cell? _ _ z2)).trans z2,((aF Y4 _).cell (World.block_lt_of_cell? _ _ z0)).trans z0⟩ (fun aK=>?_)
    clear hK hHeld;have hHeld:=aK;try simp only[dw]
    refine dI (i:=13) rfl fun K hK=>?_
    refine gQ (by rfl) _ _ _ _ (by rfl) (.slice la g0.aG.length lc) _ (by rfl) (by rfl) hA ⟨rfl,rfl,rfl,rfl⟩ ?_
    rintro v9 w4 ⟨a9,c10,rfl,hw4,q1,q2,Bf⟩;refine hK.out _ _ ⟨q1,hKm hw4⟩ (fun aK=>?_)
    clear hK hHeld;have hHeld:=aK;try simp only[dw]
    refine aS (i:=14) rfl ?_;obtain⟨jO,M9,_⟩:=hV.act Bf.bU;have HE:Hid (∃ (g:Gr) (fp:Fp),xY g n∧mX w X (w4.setCell ⟨o,2,none⟩ (.slice a9 (g0.aG.length+1) c10)) p a len cap bs o g fp):=⟨_,jO,fH.out.push hr ⟨by omega,by omega⟩ ⟨by omega,by omega⟩ cO.out.lX,M9⟩
    refine lQ rfl fun K hK=>?_
    go_simp;refine hK.out _ _ ?_;clear hK hHeld hF3 hF5 au0 c7 c8 c9 g7 g8 g9 M2 M3 hV Ia MR ZJ G1 eV k1 k2 k3 k4 k5 k6 k8 hA hKm hw4 q1 q2 Bf M9 hr hl hlo bF hu hu2 v0 v2 y0 y2 z0 z2;go_wp2_with fail
    go_meet
    case rel=>exact HE.out
   ·obtain⟨b,off,c,G0⟩:=Gw.start bF.out.iY hm0
    have hu:=G0.mem;obtain⟨f9,hpl,hbk⟩:=G0.mb (k:=0) hm0;obtain⟨u,f,hu3,hfz,how,hsub,hnB,hput⟩:=hpl.at (j:=3) (c:=bQ (aN g0 0).au) rfl;have hba:=aF Y1 (.cells #[.int .i64 1] 2);have lF:aI.ow (Y1.alloc (.cells #[.int .i64 1] 2)) (bQ [1]) (.slice (some ⟨Y1.heap.size,0,none⟩) 1 1) (fun b=>some Y1.heap.size=some b):=fB.2 ⟨_,1,some Y1.heap.size,rfl,dR.of (YA Y1 1),fun b=>Iff.rfl⟩
    obtain⟨q1,q2,q3,_⟩:=hput (Y1.alloc (.cells #[.int .i64 1] 2)) (bQ [1]) (.slice (some ⟨Y1.heap.size,0,none⟩) 1 1) _ (aO.of_below hba) lF (fun b e=>.inr (by cases e;exact Nat.le_refl _))
    have hG:=hbk _ { aN g0 0 with au:=[1] } q3
    obtain⟨jO,M3,_⟩:=bF.out.act hG.bU;simp only[Nat.zero_mul,Nat.add_zero] at q1 q2 M3;have hmm:=fH.out.mem (aN g0 0) (wV hm0);have HE:Hid (∃ (g:Gr) (fp:Fp),xY g n∧mX w X _ p a len cap bs o g fp):=⟨_,jO,fH.out.set (m:={ aN g0 0 with au:=[1] }) ⟨⟨hmm.1.1,fun x hx=>by rw[List.mem_singleton.1 hx];omega⟩,hmm.2.1,by have:=hmm.2.2;unfold oU at this ⊢;simp only[List.length_singleton];have h5:=cO.out.mem 0 (by omega);have:=YB h5;omega⟩ (by have:=fH.out.ow 0 (by omega);exact this),M3⟩
    clear hput hG hbk how lF q3 M3 hmm bF hpl G0 hu3 hba;go_wp2;go_meet
    case rel=>exact HE.out
   ·obtain⟨b,off,c,G0⟩:=Gw.start bF.out.iY hm0
    have hu:=G0.mem;obtain⟨f9,hpl,hbk⟩:=G0.mb (k:=0) hm0;have ZK:=cO.out.mem 0 (by omega)
    have hr0:0<(aN g0 0).rows.length:=by rw[ZK.len];omega
    have hr1:(0:Int)<((aN g0 0).rows.length:Int):=by omega
    have EH:=ZK.ok 0 (by omega)
    obtain⟨rg,ro,rc,fr,hrw,hne,_,_,YC,QT⟩:=hpl.el (F:=eY) gI (by omega) (j:=2) (L:=(aN g0 0).rows) rfl (k:=0) (dW hr0)
    have HQ:Hid (kH { aN g0 0 with rows:=(aN g0 0).rows.set 0 { ah (aN g0 0).rows 0 with wed:=true,aB:=true,aA:=(ah (aN g0 0).rows 0).got },done:=true }∧BI { aN g0 0 with rows:=(aN g0 0).rows.set 0 { ah (aN g0 0).rows 0 with wed:=true,aB:=true,aA:=(ah (aN g0 0).rows 0).got },done:=true }∧oU { aN g0 0 with rows:=(aN g0 0).rows.set 0 { ah (aN g0 0).rows 0 with wed:=true,aB:=true,aA:=(ah (aN g0 0).rows 0).got },done:=true }≤100000):=aj7 ZK (by omega)
    have HV:Hid ((ah ((aN g0 0).rows.set 0 { ah (aN g0 0).rows 0 with wed:=true,aB:=true,aA:=(ah (aN g0 0).rows 0).got }) 0).ver≤400):=by
     rw[Hid,bZ hr0,if_pos rfl];exact fH.out.ow 0 (by omega)
    have hgf:=EH.fit.1;have hgl:(ah (aN g0 0).rows 0).got.length≤1000000:=by have:=EH.gl;omega
    generalize hrr:ah (aN g0 0).rows 0=r at *;generalize hmm:aN g0 0=m at *;simp only[Nat.zero_mul,Nat.add_zero] at hpl hbk hrw YC QT;obtain⟨w4,z4,B1⟩:=(bC.refl YC).put (j:=4) (x:=.bool r.wed) rfl (.bool true);obtain⟨w5,z5,B2⟩:=B1.put (j:=5) (x:=.bool r.aB) rfl (.bool true);generalize hYb:(Y1.setCell ⟨rg,ro+4,none⟩ (.bool true)).setCell ⟨rg,ro+5,none⟩ (.bool true)=Yb at *;obtain⟨u2,f2,w2,_,ow2,_⟩:=B2.at (j:=2) (c:=bQ r.got) rfl;obtain⟨ga,gc,rfl,KQ,_,_⟩:=jV (aI.tK ow2) hgf;obtain⟨u7,f7,w7,z7,ow7,ZL⟩:=B2.at (j:=7) (c:=bQ r.aA) rfl;have hba:=aF Yb (.cells #[] 2);have w2':=(hba.cell (World.block_lt_of_cell? _ _ w2)).trans w2;have hA:=rY (c:=gc) KQ hgl
    have wH:Hid (∀ (w9:World) (a9:Option Addr) (c9:Nat) (PI:Fp),aI.ow w9 (bQ r.got) (.slice a9 r.got.length c9) PI→(∀ b,PI b→Yb.heap.size≤b)→Below Yb.heap.size Yb w9→w9.cell? ⟨rg,ro+7,none⟩=some u7∧w9.frozen? ⟨rg,ro+7,none⟩=false∧∃ B9:bC Y1 (w9.setCell ⟨rg,ro+7,none⟩ (.slice a9 r.got.length c9)) b off (gW { m with rows:=m.rows.set 0 { r with wed:=true,aB:=true,aA:=r.got } }) f9,True):=fun w9 a9 c9 PI h1 h2 h3=>by
     obtain⟨q1,q2,q3,_⟩:=ZL w9 (bQ r.got) (.slice a9 r.got.length c9) PI (aO.of_below h3) h1 (fun b hb=>.inr (h2 b hb))
     exact⟨q1,q2,QT _ { r with wed:=true,aB:=true,aA:=r.got } q3,trivial⟩
    have SC:=aj hbk;clear ZL QT hbk hpl YC B1 B2 ow2 ow7 KQ G0 ZK EH hba hgf;go_upto_region 17 with (at_builtin;refine aZ (by rfl) _ _ _ _ (by rfl) _ _ (by rfl) (by rfl) hA ⟨rfl,rfl,rfl,rfl⟩ ?_;rintro v9 w9 ⟨a9,c9,PI,rfl,k1,k2,k3⟩;obtain⟨q1,q2,B9,_⟩:=wH.out w9 a9 c9 PI k1 k2 k3)
    generalize w9.setCell ⟨rg,ro+7,none⟩ (.slice a9 r.got.length c9)=W9 at *;have Bf:=SC.out _ _ B9;obtain⟨x4,y4,B10⟩:=B9.put (j:=4) (x:=.bool m.done) rfl (.bool true);have hu9:=Bf.mem;simp only[List.length_set] at hu9;have au1:=SC.out _ { m with rows:=m.rows.set 0 { r with wed:=true,aB:=true,aA:=r.got },done:=true } B10
    obtain⟨jO,M3,_⟩:=bF.out.act au1.bU;have HE:Hid (∃ (g:Gr) (fp:Fp),xY g n∧mX w X (W9.setCell ⟨b,off+4,none⟩ (.bool true)) p a len cap bs o g fp):=⟨_,jO,fH.out.set HQ.out HV.out,M3⟩;clear hA wH SC Bf B9 B10 au1 M3 bF k1 k2 k3 q1 q2 hu hrw w4 z4 w5 z5 w2 w2' w7 z7 hYb;go_wp2;go_meet
    case rel=>exact HE.out
 case rest =>
  obtain⟨g,fp,hO,hM⟩:=hcut;generalize wc=Y9 at *;have HM:=aj hM;have HO:Hid (DgA g):=⟨n,hO⟩;clear hM hO dJ fH;obtain⟨A9,⟨c0,c1,c2⟩,hown,hfin⟩:=HM.out.done;have HFin:=aj hfin;have EO:Hid (∀ b,fp b→X.heap.size≤b):=fun b hb=>by have:=HM.out.iq b hb;omega
  obtain⟨z0,z1,z2⟩:=Bx.g3 HM.out.res;obtain⟨f0,f1,f2⟩:=HM.out.res.f3;clear hown hfin HM;go_wp2;refine bodyPost_ret (v:=iO A9 g) (by simp[results,Tryz.results29,go_sem,iO,jF, *]) rfl ?_
  obtain⟨q1,q2,q3⟩:=HFin.out (.slice A9.ma g.mem.length A9.mc) (.slice A9.ua g.up.length A9.uc) (.slice A9.la g.aG.length A9.lc);exact⟨g,HO.out,A9,fp,rfl,q1,EO.out,q2,q3⟩
end
section
structure PG (w Y:World) (p:Nat) (a:Option Addr) (len cap:Nat) (bs:Nat→Int) (o:Nat) (A:Ga) (g:Gr):Prop where
 cc:Cc w Y p a len cap bs
 res:Bx Y w.heap.size 28 #[.slice none 0 0,.slice none 0 0,.slice none 0 0]
 own:Bx Y o 28 #[.slice A.ma g.mem.length A.mc,.slice A.ua g.up.length A.uc,.slice A.la g.aG.length A.lc]
 hp:w.heap.size<p
 ho:p<o
section
variable {w Y Y':World} {p:Nat} {a:Option Addr} {len cap:Nat} {bs:Nat→Int} {o:Nat} {A:Ga} {g:Gr}
theorem PG.drawn (h:PG w Y p a len cap bs o A g) (hg:Y.grownBy Y' (some p)) (hc:Cc w Y' p a len cap bs):PG w Y' p a len cap bs o A g:=by
 have h1:=h.hp;have h2:=h.ho;exact⟨hc,h.res.grown hg (by simp;omega),h.own.grown hg (by simp;omega),h1,h2⟩
theorem PG.step (h:PG w Y p a len cap bs o A g) (hb:Below Y.heap.size Y Y'):PG w Y' p a len cap bs o A g:=⟨h.cc.step hb,h.res.below hb,h.own.below hb,h.hp,h.ho⟩
theorem PG.put (h:PG w Y p a len cap bs o A g) (A':Ga) (g':Gr):PG w (((Y.setCell ⟨o,0,none⟩ (.slice A'.ma g'.mem.length A'.mc)).setCell ⟨o,1,none⟩ (.slice A'.ua g'.up.length A'.uc)).setCell ⟨o,2,none⟩ (.slice A'.la g'.aG.length A'.lc)) p a len cap bs o A' g':=by
 have h1:=h.hp;have h2:=h.ho;have h3:=h.cc.hp;have hw:=qp Y o (a:=.slice A'.ma g'.mem.length A'.mc) (b:=.slice A'.ua g'.up.length A'.uc) (c:=.slice A'.la g'.aG.length A'.lc);refine⟨h.cc.wrt hw (by omega) (fun b e=>by omega),h.res.wrt hw (by omega), ?_,h1,h2⟩
 have:=((h.own.iV 0 (.slice A'.ma g'.mem.length A'.mc)).iV 1 (.slice A'.ua g'.up.length A'.uc)).iV 2 (.slice A'.la g'.aG.length A'.lc);simpa using this
end
theorem PG.ans {w Y:World} {p:Nat} {a:Option Addr} {len cap:Nat} {bs:Nat→Int} {o:Nat} {A:Ga} {g:Gr} (h:PG w Y p a len cap bs o A g) {L:List Ac} {v:Value} {f:Fp} (hl:aI.ow Y (dA 4 vC L) v f) (hf:∀ b,f b→w.heap.size<b) (x0 x1 x2:Value) :
  It (((Y.setCell ⟨w.heap.size,0,none⟩ x0).setCell ⟨w.heap.size,1,none⟩ x1).setCell ⟨w.heap.size,2,none⟩ x2) [dA 4 vC L] [v] w.heap.size (((Y.setCell ⟨w.heap.size,0,none⟩ x0).setCell ⟨w.heap.size,1,none⟩ x1).setCell ⟨w.heap.size,2,none⟩ x2).heap.size∧Below w.heap.size w (((Y.setCell ⟨w.heap.size,0,none⟩ x0).setCell ⟨w.heap.size,1,none⟩ x1).setCell ⟨w.heap.size,2,none⟩ x2):=by
 have hw:=qp Y w.heap.size (a:=x0) (b:=x1) (c:=x2);exact⟨wP (FX.2 (aI.lU hl hw (fun b hb e=>by have:=hf b hb;omega))) (fun b hb=>by have:=hf b hb;omega),hw.below h.cc.below h.cc.below.size (fun b e=>by rw[e];exact Nat.le_refl _)⟩
theorem YD (n:Nat) (hn:n≤1048576) (w:World) :
  (Instr.makeSlice 29 (.int .i64 (n:Int)) (.int .i64 (n:Int))).run Tryz.prog w=.ok (.slice (some ⟨w.heap.size,0,none⟩) n n) (w.alloc (.cells (madeCells #[.int .i64 0,.int .i64 0,.int .i64 0,.string ⟨#[]⟩] (n*4)) 38)):=by
 obtain⟨i,hi,hz,hs,hb⟩:=nT Tryz.infoAc;have hr:=run_make (P:=Tryz.prog) w 29 38 i _ Tryz.underlying29 hi hz .i64 .i64 n n (by omega) (Int.le_refl _) (by rw[hb];omega) (by omega)
 simp only[Int.toNat_natCast,hs] at hr;exact hr
theorem YE (n:Nat):ou (List.replicate n uN)=(List.replicate n (#[Value.int .i64 0,.int .i64 0,.int .i64 0,.string ⟨#[]⟩]:Array Value).toList).flatten:=by
 have Gn:(⟨#[]⟩:ByteArray)=sv []:=by unfold sv;rfl
 induction n with
 | zero=>rfl
 | succ n ih =>
  rw[List.replicate_succ,List.replicate_succ,List.flatten_cons,← ih,Gn]
  rfl
theorem aj8 (w:World) (n:Nat) (hn:n≤1048576):dR (w.alloc (.cells (madeCells #[.int .i64 0,.int .i64 0,.int .i64 0,.string ⟨#[]⟩] (n*4)) 38)) 4 (some ⟨w.heap.size,0,none⟩) (List.replicate n uN).length n (ou (List.replicate n uN)) (some w.heap.size):=by
 rw[YE,List.length_replicate];exact dR.of (zn w #[.int .i64 0,.int .i64 0,.int .i64 0,.string ⟨#[]⟩] 4 n 38 rfl (by omega) (by unfold maxLen;omega))
def aw7 (w w':World) (e:Ending):Prop:=∃ (A:Ga) (g:Gr) (oa:Option Addr) (c:Nat) (L:List Ac),e=.returned (.tuple #[iO A g,.slice oa L.length c])∧It w' [dA 4 vC L] [.slice oa L.length c] w.heap.size w'.heap.size∧(1≤g.mem.length∧g.mem.length≤5)∧(∀ x∈L,vF x)∧L.length≤401∧Below w.heap.size w w'
attribute [local irreducible] sv
theorem QU (a:Option Addr) (len cap:Nat) (bs:Nat→Int) (w:World) (hv:kW w a len bs) (hl:len≤4096) :
  Calls Tryz.prog 7 #[.slice a len cap] w fun e w'=>aw7 w w' e:=by
 have hb0:=aF w (.cells #[.slice none 0 0,.slice none 0 0,.slice none 0 0] 28);have HR:Hid (Bx (w.alloc (.cells #[.slice none 0 0,.slice none 0 0,.slice none 0 0] 28)) w.heap.size 28 #[.slice none 0 0,.slice none 0 0,.slice none 0 0]):=Bx.new w _ _;have hN:=newC a len cap bs w _ hb0 hv hl;generalize hX0:w.alloc (.cells #[.slice none 0 0,.slice none 0 0,.slice none 0 0] 28)=X0 at *;clear hb0;go_enter Tryz.func7,Tryz.ntmps7
 go_wp2_with fail
 refine hN.mono ?_;rintro e X1 ⟨p,rfl,hp,c1,hb1⟩;have HR1:=aj (HR.out.below hb1);have hwp:w.heap.size<p:=by have:=HR.out.lt;omega
 have xM:=aj c1;clear hN c1 hb1 HR hX0 hv;go_wp2_with fail
 refine (fQ 5 5 rfl xM.out (by omega) (by omega)).mono ?_
 rintro e X2 ⟨y,rfl,hy,c2,g2⟩;obtain⟨n,hn⟩:∃ n:Nat,Hid (n=1+y):=⟨_,rfl⟩;have fG:1≤n∧n≤5:=by have:=hn.out;omega
 have en:(1:Int)+(y:Int)=(n:Int):=by have:=hn.out;omega
 have HC2:=aj c2;have HR2:Hid (Bx X2 w.heap.size 28 #[.slice none 0 0,.slice none 0 0,.slice none 0 0]):=HR1.out.grown g2 (by simp;omega)
 have hN:=Ed (n:Int) X2;clear c2 g2 HR1 xM;go_wp2_with fail
 rw[en] at *;clear en hy;refine hN.mono ?_;rintro e X3 ⟨A,rfl,BD,hlo,hf,hb3⟩;have hgl:=(zx fG).rW.ml
 have HM:Hid (PG w (X3.alloc (.cells #[.slice A.ma (dV (n:Int)).1.mem.length A.mc,.slice A.ua (dV (n:Int)).1.up.length A.uc,.slice A.la (dV (n:Int)).1.aG.length A.lc] 28)) p a len cap bs X3.heap.size A (dV (n:Int)).1):=by
  have hba:=aF X3 (.cells #[.slice A.ma (dV (n:Int)).1.mem.length A.mc,.slice A.ua (dV (n:Int)).1.up.length A.uc,.slice A.la (dV (n:Int)).1.aG.length A.lc] 28);exact⟨(HC2.out.step hb3).step hba,(HR2.out.below hb3).below hba,Bx.new X3 _ _,hwp,by have:=HC2.out.lt;have:=hb3.size;omega⟩
 have HG:Hid (∃ A g,PG w (X3.alloc (.cells #[.slice A.ma (dV (n:Int)).1.mem.length A.mc,.slice A.ua (dV (n:Int)).1.up.length A.uc,.slice A.la (dV (n:Int)).1.aG.length A.lc] 28)) p a len cap bs X3.heap.size A g∧g.mem.length=n):=⟨A,_,HM.out,hgl⟩;generalize (dV (n:Int)).2=bb at *;generalize (dV (n:Int)).1=g0 at *;unfold iO jF;have zX:=aj hgl;clear hlo hf hb3 hN HC2 HR2 hgl HG;go_upto_region 4 with fail
 generalize X3.alloc (.cells #[.slice A.ma g0.mem.length A.mc,.slice A.ua g0.up.length A.uc,.slice A.la g0.aG.length A.lc] 28)=X4 at *;generalize X3.heap.size=o at *;have hO:=pF 4 HM.out.cc (by omega)
 go_wp2_with fail
 refine hO.mono ?_;rintro e X5 ⟨t,rfl,c5,g5⟩;have dJ:=aj (HM.out.drawn g5 c5);clear hO c5 g5 HM
 go_upto_if 20 with fail
 go_cut [5] from 19 to 26 (fun v wx=>∃ (N:Nat) (A:Ga) (g:Gr),1≤N∧N≤5∧v=.int .i64 (N:Int)∧g.mem.length=N∧PG w wx p a len cap bs o A g)
 case first =>
  cases t with
  | false =>
   go_wp2;go_meet
   case rel=>exact⟨n,A,g0,fG.1,fG.2,rfl,zX.out,dJ.out⟩
  | true =>
   have hD:=QS dJ.out.cc;go_wp2_with fail
   refine hD.mono ?_;rintro e X6 ⟨g,⟨m,hS⟩,A2,fp,rfl,hlo,hf,c6,g6⟩;have M6:=dJ.out.drawn g6 c6;have lT:=aj (M6.put A2 g);have yM:Hid (1≤g.mem.length∧g.mem.length≤5):=by have:=hS.ml;have:=hS.n4;exact⟨by omega,by omega⟩
   obtain⟨z0,z1,z2⟩:=Bx.g3 M6.own;obtain⟨f0,f1,f2⟩:=M6.own.f3;unfold iO jF;clear hD hS hlo hf c6 g6 M6 dJ;go_upto_region 6 with fail
   generalize ((X6.setCell ⟨o,0,none⟩ (.slice A2.ma g.mem.length A2.mc)).setCell ⟨o,1,none⟩ (.slice A2.ua g.up.length A2.uc)).setCell ⟨o,2,none⟩ (.slice A2.la g.aG.length A2.lc)=X7 at *;clear z0 z1 z2 f0 f1 f2;obtain⟨z0,z1,z2⟩:=Bx.g3 lT.out.own;have hmx:=Aw 1 (g.mem.length:Int) X7;have emx:max (1:Int) (g.mem.length:Int)=(g.mem.length:Int):=by have:=yM.out.1;omega
   rw[emx] at hmx;clear emx;go_wp2_with (go_at_call 30;refine hmx.mono ?_;rintro e w' ⟨rfl,hw'⟩;rw[hw'];clear hw')
   go_meet
   case rel=>exact⟨g.mem.length,A2,g,yM.out.1,yM.out.2,rfl,rfl,lT.out⟩
 case rest =>
 obtain⟨N,A2,g,hN1,Oo,rfl,hgl,hM⟩:=hcut;generalize wc=X8 at *;have lG:=aj hM;have Ap:Hid (1≤g.mem.length∧g.mem.length≤5):=by rw[Hid,hgl];exact⟨hN1,Oo⟩
 clear hM dJ hgl zX;have hD:=Fv N (N:Int) rfl hN1 Oo lG.out.cc;go_wp2_with fail
 refine hD.mono ?_;rintro e X9 ⟨oa,c,G,L,rfl,hA,hLl⟩;have gu:=aj (lG.out.drawn hA.gr hA.cc);have HA9:=aj hA;have hbig:w.heap.size<X8.heap.size:=by have:=lG.out.own.lt;have:=lG.out.hp;have:=lG.out.ho;omega
 have hO:=pF 60 gu.out.cc (by omega)
 clear hA hD lG;go_wp2_with fail
 refine hO.mono ?_;rintro e Y1 ⟨t2,rfl,c7,g7⟩;have rZ:=aj (gu.out.drawn g7 c7);have MS:=aj (HA9.out.drawn g7 c7);clear hO c7 g7 gu HA9
 cases t2 with
 | false =>
  obtain⟨d0,d1,d2⟩:=Bx.g3 rZ.out.own;obtain⟨z0,z1,z2⟩:=Bx.g3 rZ.out.res;obtain⟨f0,f1,f2⟩:=rZ.out.res.f3;have HF:=rZ.out.ans (ZG MS.out) (fun b hb=>by have:=MS.out.lo b hb;omega)
  have DJ:=aj HF;have qV:=aj MS.out.ok;clear HF rZ MS;go_wp2;refine bodyPost_ret (v:=.tuple #[iO A2 g,.slice oa L.length c]) (by simp[results,Tryz.results7,go_sem,iO,jF, *]) rfl ?_
  exact⟨A2,g,oa,c,L,rfl,(DJ.out _ _ _).1,Ap.out,qV.out,by omega,(DJ.out _ _ _).2⟩
 | true =>
  have hB:=fQ 2 2 rfl rZ.out.cc (by omega) (by omega)
  clear MS;go_wp2_with fail
  refine hB.mono ?_;rintro e Y2 ⟨z,rfl,hz,c7,g7⟩;obtain⟨q,hq⟩:∃ q:Nat,Hid (q=400+z):=⟨_,rfl⟩;have hq4:q≤401:=by have:=hq.out;omega
  have eq:(400:Int)+(z:Int)=(q:Int):=by have:=hq.out;omega
  have M11:=rZ.out.drawn g7 c7;have hba:=aF Y2 (.cells (madeCells #[.int .i64 0,.int .i64 0,.int .i64 0,.string ⟨#[]⟩] (q*4)) 38);have MV:=aj (M11.step hba);have hmk:=YD q (by omega) Y2
  have hY2:w.heap.size<Y2.heap.size:=by have:=M11.res.lt;omega
  have HO:Hid (dR (Y2.alloc (.cells (madeCells #[.int .i64 0,.int .i64 0,.int .i64 0,.string ⟨#[]⟩] (q*4)) 38)) 4 (some ⟨Y2.heap.size,0,none⟩) (List.replicate q uN).length q (ou (List.replicate q uN)) (some Y2.heap.size)):=aj8 Y2 q (by omega)
  clear hB c7 g7 rZ M11 hba;go_upto_region 10 with fail
  generalize Y2.alloc (.cells (madeCells #[.int .i64 0,.int .i64 0,.int .i64 0,.string ⟨#[]⟩] (q*4)) 38)=Y3 at *;clear hmk eq;obtain⟨d0,d1,d2⟩:=Bx.g3 MV.out.own;obtain⟨z0,z1,z2⟩:=Bx.g3 MV.out.res;obtain⟨f0,f1,f2⟩:=MV.out.res.f3;have HF:=MV.out.ans (MJ HO.out) (fun b hb=>by have:=Option.some.inj hb;omega)
  have DJ:=aj HF
  have qV:Hid (∀ x∈List.replicate q uN,vF x):=fun x hx=>by
   rw[(List.mem_replicate.1 hx).2];exact xR ⟨by omega,by omega⟩ ⟨by omega,by omega⟩ ⟨by omega,by omega⟩ (by simp)
  clear HF MV HO;go_wp2;refine bodyPost_ret (v:=.tuple #[iO A2 g,.slice (some ⟨Y2.heap.size,0,none⟩) q q]) (by simp[results,Tryz.results7,go_sem,iO,jF, *]) rfl ?_
  exact⟨A2,g,some ⟨Y2.heap.size,0,none⟩,q,List.replicate q uN,by rw[List.length_replicate],(DJ.out _ _ _).1,Ap.out,qV.out,by rw[List.length_replicate];exact hq4,(DJ.out _ _ _).2⟩
end
section
section
variable {w Y Y':World} {p:Nat} {a:Option Addr} {len cap:Nat} {bs:Nat→Int} {o:Nat} {A:Ma} {m:Mb} {fp:Fp}
end
attribute [local irreducible] sv
end
section
attribute [local irreducible] sv
end
section
variable {w w':World} {o:Nat} {A:Ma} {m:Mb}
end
structure Gx (w:World) (o q:Nat) (A:Ga) (g:Gr):Prop where
 box:Bx w o 28 #[.slice A.ma g.mem.length A.mc,.slice A.ua g.up.length A.uc,.slice A.la g.aG.length A.lc]
 own:∃ f,bG w (dB g) (gq A g) f∧∀ b,f b→b≠q
section
variable {w w':World} {o q:Nat} {A:Ga} {g:Gr}
theorem Gx.below (h:Gx w o q A g) (hb:Below w.heap.size w w'):Gx w' o q A g:=⟨h.box.below hb,h.own.imp (fun f h=>⟨bM h.1 hb,h.2⟩)⟩
theorem Gx.grp (h:Gx w o q A g) (hf:Bc g) (h6:Wp g) (hs:BH g≤1048576):uO w A g:=⟨h.own.imp (fun _ h=>h.1),hf,h6,hs⟩
theorem Gx.ok (h:Gx w o q A g) {n:Nat} (ok:OkG g n):uO w A g:=h.grp ok.fit (Ud ok) (by have:=ok.small.2.2.2.2;omega)
theorem Gx.new {X:World} (h:iL X w (dB g) (gq A g)) (hq:q<X.heap.size):Gx (w.alloc (.cells #[.slice A.ma g.mem.length A.mc,.slice A.ua g.up.length A.uc,.slice A.la g.aG.length A.lc] 28)) w.heap.size q A g:=by
 obtain⟨f,h1,h2,_⟩:=h;exact⟨Bx.new _ _ _,f,bM h1 (aF w _),fun b hb=>by have:=h2 b hb;omega⟩
theorem Gx.new' {X:World} (h:iL X w (dB g) (gq A g)):Gx (w.alloc (.cells #[.slice A.ma g.mem.length A.mc,.slice A.ua g.up.length A.uc,.slice A.la g.aG.length A.lc] 28)) w.heap.size w.heap.size A g:=by
 obtain⟨f,h1,h2,_⟩:=h;have:=eX h1;exact⟨Bx.new _ _ _,f,bM h1 (aF w _),fun b hb=>by have:=this b hb;omega⟩
theorem Gx.put {ox:Nat} {A':Ga} {g':Gr} (h:Gx w o q A g) (hx:Gx w ox o A' g'):Gx (((w.setCell ⟨o,0,none⟩ (.slice A'.ma g'.mem.length A'.mc)).setCell ⟨o,1,none⟩ (.slice A'.ua g'.up.length A'.uc)).setCell ⟨o,2,none⟩ (.slice A'.la g'.aG.length A'.lc)) o o A' g':=by
 have hw:=qp w o (a:=.slice A'.ma g'.mem.length A'.mc) (b:=.slice A'.ua g'.up.length A'.uc) (c:=.slice A'.la g'.aG.length A'.lc);obtain⟨f,h1,h2⟩:=hx.own;refine⟨?_,f,bP h1 hw (fun b hb e=>h2 b hb e),h2⟩
 have:=((h.box.iV 0 (.slice A'.ma g'.mem.length A'.mc)).iV 1 (.slice A'.ua g'.up.length A'.uc)).iV 2 (.slice A'.la g'.aG.length A'.lc);simpa using this
end
theorem nS.sc {w:World} {A:Ma} {m:Mb} (h:nS w A m):m.au.length≤A.sc∧A.sc≤maxLen:=by
 obtain⟨f,hf⟩:=h.own;obtain⟨f1,f2,o1,o2,_,_⟩:=OA hf;obtain⟨a,c,e,_,h1,h2⟩:=jV (aI.tK o2) h.fit.2
 cases e
 exact⟨h1,h2⟩
theorem YF (a b:Option Addr) (ca cb:Nat) (xs ys:List Int) (w:World) (hx:Vec w a xs.length xs) (hy:Vec w b ys.length ys) (hyc:ys.length≤cb∧cb≤maxLen) (hl:xs.length≤ys.length) (he:∀ q,q<xs.length→el xs q=el ys q) :
  Calls Tryz.prog 16 #[.slice a xs.length ca,.slice b ys.length cb] w fun e w'=>e=.returned (.bool true)∧Below w.heap.size w w':=by
 obtain⟨hc1,hc2⟩:=hyc;unfold maxLen at hc2;have hle:((xs.length:Int)≤(ys.length:Int)):=by omega
 have hle2:((xs.length:Int)≤(cb:Int)):=by omega
 have hx0:(0:Int)≤(xs.length:Int):=by omega
 have hT:∀ (c:Nat),Vec w b xs.length xs→Calls Tryz.prog 24 #[.slice a xs.length ca,.slice b xs.length c] w fun e w'=>e=.returned (.bool true)∧∃ n,w'=w.drewN n:=fun c h=>by
  have:=U5 a b xs.length ca xs.length c xs xs w hx h (by unfold maxLen;omega)
  rw[PZ] at this;exact this
 rcases hy.2.2 with h0|⟨bb,bo,rfl,hc⟩
 ·have hy0:ys.length=0:=h0
  have aB8:xs=[]:=List.eq_nil_of_length_eq_zero (by omega)
  subst aB8;have hL:=hT cb ⟨rfl,fun x hx=>absurd hx List.not_mem_nil,.inl rfl⟩
  have hL0:∀ c,Calls Tryz.prog 24 #[.slice a 0 ca,.slice b 0 c] w fun e w'=>e=.returned (.bool true)∧∃ n,w'=w.drewN n:=fun c=>hT c ⟨rfl,fun x hx=>absurd hx List.not_mem_nil,.inl rfl⟩
  have hl0:(([]:List Int).length:Int)≤(ys.length:Int):=by simp
  clear hT hL hy hx he
  cases b with
  | none =>
   go_enter Tryz.func16,Tryz.ntmps16
   go_wp2_with (go_at_call 24;refine (hL0 _).mono ?_;rintro e w' ⟨rfl,n,rfl⟩)
   go_ret
   exact⟨rfl,bg (Below.refl _ _)⟩
  | some ad =>
   go_enter Tryz.func16,Tryz.ntmps16
   go_wp2_with (go_at_call 24;refine (hL0 _).mono ?_;rintro e w' ⟨rfl,n,rfl⟩)
   go_ret
   exact⟨rfl,bg (Below.refl _ _)⟩
 ·have hL := fun c => hT c ⟨rfl,hx.2.1,by
   by_cases h:xs.length=0
   ·exact .inl h
   ·exact .inr ⟨bb,bo,rfl,fun i hi=>by rw[hc i (by omega),he i hi]⟩⟩
  clear hT hy hx he hc;go_enter Tryz.func16,Tryz.ntmps16
  go_wp2_with (go_at_call 24;refine (hL _).mono ?_;rintro e w' ⟨rfl,n,rfl⟩)
  go_ret
  exact⟨rfl,bg (Below.refl _ _)⟩
section
attribute [local irreducible] sv
end
end Go.Proofs.YtafimeakbdmkjaaGreat