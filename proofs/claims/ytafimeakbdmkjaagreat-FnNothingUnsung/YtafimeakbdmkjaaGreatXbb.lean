/-
  Texts in one.
-/
import Derived.Test.YtafimeakbdmkjaaGreatXba
import Derived.Test.YtafimeakbdmkjaaGreatXae
import Derived.Test.YtafimeakbdmkjaaGreatXaw
import Derived.Test.YtafimeakbdmkjaaGreatXaa
namespace Go.Proofs.YtafimeakbdmkjaaGreat
open Bool renaming true->aB
open Go renaming Addr->dH,Calls->dF,Value->aJ,World->aI,maxLen->dD
open Go.Ending renaming returned->aK
open Go.IntKind renaming i64->aA
open Go.Obj renaming cells->aH
open Go.Proofs.Tryz renaming prog->dA
open Go.RowKit renaming Hid->aG,intOf->dG
open Go.RowKit.Below renaming refl->dw
open Go.Value renaming bool->aF,int->ah,slice->aj
open Nat renaming le_refl->cO,le_trans->bZ,zero_le->cZ
open Option renaming none->ak,some->au
set_option linter.unusedVariables false
set_option linter.unusedSimpArgs false
open Go.RowKit Go.Sort
set_option maxRecDepth 100000
set_option maxHeartbeats 12800000
variable {w:aI} {n:Nat}
section
theorem YA {w': aI} {cs ds: List dY} {us vs: List aJ} (h:kE w w' (cs++ds) (us++vs)) (hl:us.length=cs.length):kE w w' cs us:=by
 obtain⟨f,h1,h2,h3⟩:=h;obtain⟨us',vs',f1,f2,e,p1,_,_,p4⟩:=mP h1;have e2:=jO p1;obtain⟨rfl,_⟩:=List.append_inj e (by omega)
 exact⟨f1,p1,fun b hb=>h2 b ((p4 b).2 (.inl hb)),h3⟩
theorem YB (g:Gr) (k:Nat):(qW g k).Pairwise (·<·):=by
 unfold qW lN;rw[List.pairwise_map];exact (List.pairwise_lt_range.filter _).imp (fun h=>by omega)
theorem YC {z: Gr} (G:qO n z) {i: Nat} (hi:i<n) (hd:(eF z i).done=aB) {Z: List Int} (hZ:nX (dO (eF z i).rows i).dU Z):Z=(eF z i).dR/\∀ k,k<n->(eF z k).dR.length<=Z.length/\∀ q,q<(eF z k).dR.length->el (eF z k).dR q=el Z q:=by
 obtain⟨h,log,GI⟩:=G;have M:=GI.mem i hi;obtain⟨h1,h2,h3,h4⟩:=M.fin hd;have ok:=M.ok i hi;obtain⟨a1,a2,a3,a4,a5⟩:=ok.dV h1;have e:=Qk GI.n5 a4 (fun j hj=>ok.t h1 j hj) hZ
 have e2:Z=(eF z i).dR:=by rw[e,h4]
 exact⟨e2,fun k hk=>by rw[e2];exact GI.begins hi hk hd⟩
theorem aD5 {y: Nat} (hn:1<=n/\n<=5) (hy:y<n):wrap64 ((y:Int)+1)=(y:Int)+1/\((y:Int)+1).tmod (n:Int)=(((y+1)%n:Nat):Int)/\wrap64 ((((y+1)%n:Nat):Int))=(((y+1)%n:Nat):Int)/\(y+1)%n<n:=by
 have h1:(y+1)%n<n:=Nat.mod_lt _ (by omega)
 refine⟨by unfold wrap64;omega, ?_,by unfold wrap64;omega,h1⟩
 rw[Int.tmod_eq_emod_of_nonneg (by omega)]
 rfl
attribute [local irreducible] sv
theorem FI (hHp:GU) (hCm:MV) (ET:MW) (hSo:QE) (a:Option dH) (len cap:Nat) (bs:Nat->Int) (w:aI) (hv:nZ w a len bs) :
  dF dA 5 #[aj a len cap] w fun e w'=>e=aK (aF aB)/\Below w.heap.size w w':=by
 have gq:=iD;by_cases hbig:(4096:Int)<len
 ·have hB:=Q9 a len cap w
  rw[decide_eq_true hbig] at hB;go_enter Tryz.func5,Tryz.ntmps5
  go_wp2_with fail
  refine hB.mono ?_;rintro e w1 ⟨rfl,hw1⟩;have HW:=dP hw1;clear hw1;go_wp2;go_ret
  exact⟨rfl,by rw[HW.out];exact dw _ _⟩
 have hB:=Q9 a len cap w;rw[decide_eq_false hbig] at hB;have hl:len<=4096:=by omega
 have hD:=Ve a len cap bs w hv hl;have hes:sv []=⟨#[]⟩:=by unfold sv;rfl
 go_enter Tryz.func5,Tryz.ntmps5
 go_wp2_with fail
 refine hB.mono ?_;rintro e w0 ⟨rfl,hw0⟩;rw[hw0];clear hw0 hB hbig;go_wp2_with fail
 refine hD.mono ?_;rintro e w1 ⟨Av,gv,oa,c,L,rfl,hIt,hgl,hLS,hL4,hb1⟩;obtain⟨fl,hfl,hfb⟩:=hIt.ow1;have uT:=dP hLS;unfold gX iW;generalize hnn:gv.mem.length=n at *;have hba:=dX w1 (aH #[aj Av.ma n Av.mc,aj Av.ua gv.up.length Av.uc,aj Av.la gv.dS.length Av.lc] 28);have hbx:=Bx.new w1 28 #[aj Av.ma n Av.mc,aj Av.ua gv.up.length Av.uc,aj Av.la gv.dS.length Av.lc];have Vh:=dP hbx;have yX:=dP (dY.ig hfl hba);have HB1:=dP (eU hb1 hba);have HV:=dP hv;clear hD hIt hfl hfb hb1 hba hLS hnn hv hbx;go_upto_region 4 with fail
 generalize w1.alloc (aH #[aj Av.ma n Av.mc,aj Av.ua gv.up.length Av.uc,aj Av.la gv.dS.length Av.lc] 28)=W1 at *;generalize w1.heap.size=o3 at *;obtain⟨c0,c1,c2⟩:=Bx.g3 Vh.out;by_cases aO9:L.length<=120;rotate_left
 ·have g1:(120:Int)<L.length:=by omega
  have HE:=dP HB1.out;go_wp2;go_ret
  exact⟨rfl,HE.out⟩
 have g1:¬ ((120:Int)<L.length):=by omega
 obtain⟨hn1,jq⟩:=hgl;have g2:¬ ((n:Int)<1):=by omega
 have g3:¬ ((5:Int)<n):=by omega
 have hN:=Hq (n:Int) W1;go_wp2_with fail
 clear c0 c1 c2 g1 g2 g3;refine hN.mono ?_;rintro e w2 ⟨A,rfl,hNl⟩;have hb2:=hNl.choose_spec.2.2;have hG0:=Gx.new' hNl;have hba:=dX w2 (aH #[aj A.ma (jf (n:Int)).1.mem.length A.mc,aj A.ua (jf (n:Int)).1.up.length A.uc,aj A.la (jf (n:Int)).1.dS.length A.lc] 28);have FH:aG (qO n (jf (n:Int)).1):=Du ⟨hn1,jq⟩;have Qv:aG (kG (jf (n:Int)).1 n 0):=MN ⟨hn1,jq⟩;have nT:=dP hG0;have hb3:=eU hb2 hba;have HL2:=dP (dY.ig yX.out hb3);have aD6:=dP (Vh.out.below hb3);have HB2:=dP (eU HB1.out hb3);have Jt:aG (o3≠w2.heap.size):=by have:=Vh.out.lt;have:=hb2.size;show o3≠w2.heap.size;omega
 have LC:=dP (bZ HB1.out.size hb2.size);generalize (jf (n:Int)).2=bb at *;generalize (jf (n:Int)).1=g0 at *;unfold gX iW;clear hN hNl hb2 hG0 hba hb3 yX HB1 Vh;go_upto_region 7 with fail
 generalize w2.alloc (aH #[aj A.ma g0.mem.length A.mc,aj A.ua g0.up.length A.uc,aj A.la g0.dS.length A.lc] 28)=W2 at *;generalize w2.heap.size=o5 at *;have hPl:=ZM A g0 oa c L W2 (nT.out.ok FH.out.pR).Mc (dY.wF HL2.out) (by unfold dD;omega) (fun x hx=>by have:=(uT.out x hx).2;omega)
 have ePl:zx g0 L=(oU g0 L,xO g0 L):=if_pos ⟨oD.2 ⟨n,FH.out.pR⟩,by omega⟩
 rw[ePl] at hPl;have Ig:=dP (Rq L FH.out);have aD7:aG (kG (oU g0 L) n 200):=(kG.play L FH.out.pR Qv.out).mono (by omega)
 unfold aj0 at hPl;unfold gX iW at hPl;obtain⟨c0,c1,c2⟩:=Bx.g3 nT.out.box;generalize oU g0 L=g1 at *;generalize xO g0 L=cs at *;clear ePl FH Qv HL2 uT;go_wp2_with fail
 refine hPl.mono ?_;rintro e w3 ⟨A1,ca,cc,rfl,hN3⟩;have hb3:=hN3.choose_spec.2.2;have xR:=(nT.out.below hb3).box;obtain⟨z0,z1,z2⟩:=Bx.g3 xR;have z0':=xR.f 0;have z1':=xR.f 1;have z2':=xR.f 2;have hwt:=oK w3 o5 (a:=aj A1.ma g1.mem.length A1.mc) (b:=aj A1.ua g1.up.length A1.uc) (c:=aj A1.la g1.dS.length A1.lc);have mD:=dP (Gx.aD4 xR (YA hN3 rfl) nT.out.box.lt);have HB3:aG (Below w.heap.size w (((w3.setCell ⟨o5,0,ak⟩ (aj A1.ma g1.mem.length A1.mc)).setCell ⟨o5,1,ak⟩ (aj A1.ua g1.up.length A1.uc)).setCell ⟨o5,2,ak⟩ (aj A1.la g1.dS.length A1.lc))):=hwt.below (eU HB2.out hb3) (bZ HB2.out.size hb3.size) (fun b e=>by rw[e];exact LC.out)
 have aD8:aG (Bx (((w3.setCell ⟨o5,0,ak⟩ (aj A1.ma g1.mem.length A1.mc)).setCell ⟨o5,1,ak⟩ (aj A1.ua g1.up.length A1.uc)).setCell ⟨o5,2,ak⟩ (aj A1.la g1.dS.length A1.lc)) o3 28 #[aj Av.ma n Av.mc,aj Av.ua gv.up.length Av.uc,aj Av.la gv.dS.length Av.lc]):=(aD6.out.below hb3).wrt hwt (fun e=>Jt.out e)
 clear hPl hN3 hb3 xR hwt c0 c1 c2 nT HB2 aD6;go_upto_region 8 with fail
 generalize (((w3.setCell ⟨o5,0,ak⟩ (aj A1.ma g1.mem.length A1.mc)).setCell ⟨o5,1,ak⟩ (aj A1.ua g1.up.length A1.uc)).setCell ⟨o5,2,ak⟩ (aj A1.la g1.dS.length A1.lc))=W3 at *;clear z0 z1 z2 z0' z1' z2';have Ld:=pick_any a len cap bs 1 (n:Int) W3 (HV.out.below HB3.out (cO _)) hl (by omega) (by omega) (by omega) (by omega)
 obtain⟨c0,c1,c2⟩:=Bx.g3 aD8.out;go_wp2_with fail
 refine Ld.mono ?_;rintro e w4 ⟨y0,rfl,hy0,hy1,hw4⟩;rw[hw4];clear hw4 Ld;obtain⟨y,rfl⟩:∃ y:Nat,y0=(y:Int):=⟨y0.toNat,by omega⟩
 have hyn:y<n:=by omega
 obtain⟨wk1,wk2,wk3,hqn⟩:=aD5 ⟨hn1,jq⟩ hyn;obtain⟨q,hqe⟩:∃ q:Nat,aG ((y+1)%n=q):=⟨_,rfl⟩;rw[hqe.out] at wk2 wk3 hqn;have gn0:¬ ((n:Int)=0):=by omega
 have gq0:(0:Int)<=q:=by omega
 go_upto_region 10 with fail
 clear c0 c1 c2 wk1 wk2 wk3 aD8;obtain⟨c0,c1,c2⟩:=Bx.g3 mD.out.box;have QG:=hHp A1 g1 n ⟨5,(q:Int),(y:Int),[]⟩ W3 (mD.out.ok Ig.out.pR) Ig.out.pR (by constructor<;>(show _ ;simp only;omega)) (by constructor<;>(show _ ;simp only;omega)) (by simp) rfl
 have Kw:=fun X (hX:Below W3.heap.size W3 X)=>ZL A1 g1 ⟨5,(q:Int),(y:Int),[]⟩ X ((mD.out.below hX).ok Ig.out.pR).Mc (by simp)
 have eH:Hy g1 ⟨5,(q:Int),(y:Int),[]⟩=((gQ g1 ⟨5,(q:Int),(y:Int),[]⟩).1,DN (gQ g1 ⟨5,(q:Int),(y:Int),[]⟩).2):=if_pos (oD.2 ⟨n,Ig.out.pR⟩);rw[eH] at Kw;have FK:aG (qO n (gQ g1 ⟨5,(q:Int),(y:Int),[]⟩).1):=Oa Ig.out _;have BL:aG (kG (gQ g1 ⟨5,(q:Int),(y:Int),[]⟩).1 n 300):=(aD7.out.act Ig.out.pR _).mono (by omega)
 unfold Nh at QG Kw;unfold o8 rV gX iW at QG Kw;rw[hes] at QG Kw;generalize (gQ g1 ⟨5,(q:Int),(y:Int),[]⟩).1=x at *;generalize DN (gQ g1 ⟨5,(q:Int),(y:Int),[]⟩).2=kd at *;clear eH Ig aD7 hes hqe;go_wp2_with fail
 refine QG.mono ?_;rintro e w5 ⟨A5,rfl,Gs⟩;have hb5:=Gs.choose_spec.2.2;have hba:=dX w5 (aH #[aj A5.ma x.mem.length A5.mc,aj A5.ua x.up.length A5.uc,aj A5.la x.dS.length A5.lc] 28);have hb6:=eU hb5 hba;have HX9:=dP (Gx.new' Gs);have HG2:=dP (mD.out.below hb6);have oM:=dP (eU HB3.out hb6);have HBW:=dP hb6;have HNf:aG (o5≠w5.heap.size):=by have:=mD.out.box.lt;have:=hb5.size;show o5≠w5.heap.size;omega
 clear QG Gs hb5 hba hb6 mD HB3 c0 c1 c2;go_upto_region 11 with fail
 generalize w5.alloc (aH #[aj A5.ma x.mem.length A5.mc,aj A5.ua x.up.length A5.uc,aj A5.la x.dS.length A5.lc] 28)=W5 at *;generalize w5.heap.size=o9 at *;obtain⟨c0,c1,c2⟩:=Bx.g3 HG2.out.box;have aD9:=Kw W5 HBW.out;clear Kw;go_wp2_with fail
 refine aD9.mono ?_;rintro e w6 ⟨A6,rfl,hN6⟩;have hb5:=hN6.choose_spec.2.2;have hba:=dX w6 (aH #[aj A6.ma x.mem.length A6.mc,aj A6.ua x.up.length A6.uc,aj A6.la x.dS.length A6.lc] 28);have hb6:=eU hb5 hba;have ah5:=dP (Gx.new' hN6);have Ky:=dP (HX9.out.below hb6);have HG5:=dP (HG2.out.below hb6);have uS:=dP (eU oM.out hb6);clear aD9 hN6 hb5 hba hb6 HG2 HX9 oM HBW c0 c1 c2;go_upto_region 12 with fail
 generalize w6.alloc (aH #[aj A6.ma x.mem.length A6.mc,aj A6.ua x.up.length A6.uc,aj A6.la x.dS.length A6.lc] 28)=W6 at *;generalize w6.heap.size=Ua at *
 have KS:∀ X,Below W6.heap.size W6 X->(fun X:aI=>X.cell? ⟨o9,0,ak⟩=au (aj A5.ma x.mem.length A5.mc)/\X.cell? ⟨o9,1,ak⟩=au (aj A5.ua x.up.length A5.uc)/\X.cell? ⟨o9,2,ak⟩=au (aj A5.la x.dS.length A5.lc)/\X.cell? ⟨Ua,0,ak⟩=au (aj A6.ma x.mem.length A6.mc)/\X.cell? ⟨Ua,1,ak⟩=au (aj A6.ua x.up.length A6.uc)/\X.cell? ⟨Ua,2,ak⟩=au (aj A6.la x.dS.length A6.lc)) X:=fun X hX=>by
  obtain⟨c0,c1,c2⟩:=Bx.g3 (Ky.out.below hX).box;obtain⟨d0,d1,d2⟩:=Bx.g3 (ah5.out.below hX).box;exact⟨c0,c1,c2,d0,d1,d2⟩
 have uI:=dP FK.out.pR.small;have hLx:∀ X,Below W6.heap.size W6 X->dF dA 9 #[gX A5 x,gX A6 x] X fun e w'=>e=aK (aF aB)/\Below X.heap.size X w':=fun X hX=>JF A5 A6 x X ((Ky.out.below hX).ok FK.out.pR).Mc ((ah5.out.below hX).ok FK.out.pR).Mc ⟨by have:=uI.out.2.2.1;omega,by have:=uI.out.2.1;unfold Nk at this;omega,by have:=uI.out.2.2.2.1;omega⟩
 have eC:vG x=vC x:=if_pos (oD.2 ⟨n,FK.out.pR⟩)
 have hVC : ∀ k,OkG x k -> U6 x k := fun k ok => as9 (q := 300) ok (by
  have h2:n=k:=by rw[<- FK.out.pR.ml,ok.ml]
  rw[<- h2];exact BL.out) (by omega)
 have Ub:∀ X,Below W6.heap.size W6 X->dF dA 10 #[gX A5 x] X fun e w'=>AX X w' e (vG x):=fun X hX=>hCm A5 x X ((Ky.out.below hX).ok FK.out.pR) hVC
 have YD:∀ X,Below W6.heap.size W6 X->dF dA 11 #[gX A5 x] X fun e w'=>AX X w' e (vG x):=fun X hX=>ZK A5 x X ((Ky.out.below hX).ok FK.out.pR).Mc
 rw[eC] at Ub YD;have FM:=dP (al0 FK.out);have CX:=dP FM.out.pR.small;unfold AX at Ub YD;unfold gX iW at Ub YD hLx;generalize vC x=z at *;clear eC hVC BL uI;refine lU (S:=fun X:aI=>X.cell? ⟨o9,0,ak⟩=au (aj A5.ma x.mem.length A5.mc)/\X.cell? ⟨o9,1,ak⟩=au (aj A5.ua x.up.length A5.uc)/\X.cell? ⟨o9,2,ak⟩=au (aj A5.la x.dS.length A5.lc)/\X.cell? ⟨Ua,0,ak⟩=au (aj A6.ma x.mem.length A6.mc)/\X.cell? ⟨Ua,1,ak⟩=au (aj A6.ua x.up.length A6.uc)/\X.cell? ⟨Ua,2,ak⟩=au (aj A6.la x.dS.length A6.lc)) 17 gq ((KS _ (fO (n:=1) (dw _ _)))) fun hHeld=>?_
 refine fE (i:=0) rfl ?_;refine fE (i:=1) rfl ?_;refine fE (i:=2) rfl ?_;refine fE (i:=3) rfl ?_;refine ni (i:=4) rfl hHeld ?_;refine ni (i:=5) rfl hHeld ?_;refine iJ (i:=6) rfl fun K hK=>?_
 go_simp
 go_at_call 9
 refine (hLx W6.drew (fO (n:=1) (dw _ _))).mono ?_;rintro e w7 ⟨rfl,hb7⟩;have Vj:=(fO (n:=1) (dw _ _)).trans hb7;go_simp;refine hK.out _ _ (KS _ Vj) (fun eP=>?_)
 clear hK hHeld;have hHeld:=eP;try simp only[iC]
 refine fE (i:=7) rfl ?_;refine fE (i:=8) rfl ?_;refine fE (i:=9) rfl ?_;refine ni (i:=10) rfl hHeld ?_;refine ni (i:=12) rfl hHeld ?_;refine iJ (i:=11) rfl fun K hK=>?_
 go_simp
 go_at_call 10
 refine (Ub w7 Vj).mono ?_;rintro e w8 ⟨A8,rfl,f8,p1,p2,p3⟩;have hb8:Below W6.heap.size W6 w8:=eU Vj p3;go_simp;refine hK.out _ _ (KS _ hb8) (fun eP=>?_)
 clear hK hHeld;have hHeld:=eP;try simp only[iC]
 refine iJ (i:=13) rfl fun K hK=>?_
 go_simp
 go_at_call 11
 refine (YD w8 hb8).mono ?_;rintro e w9 ⟨A9,rfl,f9,q1,q2,q3⟩;have hb9:=eU hb8 q3;go_simp;refine hK.out _ _ (KS _ hb9) (fun eP=>?_)
 clear hK hHeld;have hHeld:=eP;try simp only[iC]
 have hLk:=JF A8 A9 z w9 (Ol (yj (gG p1 q3)) CX.out.1) (Ol (yj q1) CX.out.1) ⟨by have:=CX.out.2.2.1;omega,by have:=CX.out.2.1;unfold Nk at this;omega,by have:=CX.out.2.2.2.1;omega⟩
 unfold gX iW at hLk;refine iJ (i:=14) rfl fun K hK=>?_
 go_simp
 go_at_call 9
 refine hLk.mono ?_;rintro e wL ⟨rfl,hbL⟩;have hbX:=eU hb9 hbL;go_simp;refine hK.out _ _ (KS _ hbX) (fun eP=>?_)
 clear hK hHeld;have hHeld:=eP;try simp only[iC]
 refine fE (i:=15) rfl ?_;refine fE (i:=16) rfl ?_;refine uO (by kernel_rfl) ?_
 have aE0:=dP (Ky.out.below hbX);have ah6:=dP (HG5.out.below hbX);have HBL:=dP (eU uS.out hbX);have aE1:=Ub wL hbX;clear KS hLx Ub YD hLk hHeld p1 p2 p3 q1 q2 q3 hb7 Vj hb8 hb9 hbL hbX Ky ah5 HG5 uS CX;go_upto_region 14 with fail
 obtain⟨c0,c1,c2⟩:=Bx.g3 aE0.out.box;go_wp2_with fail
 refine aE1.mono ?_;rintro e w3 ⟨A3,rfl,hN3⟩;have hb3:=hN3.choose_spec.2.2;have xR:=(ah6.out.below hb3).box;obtain⟨z0,z1,z2⟩:=Bx.g3 xR;have z0':=xR.f 0;have z1':=xR.f 1;have z2':=xR.f 2;have hwt:=oK w3 o5 (a:=aj A3.ma z.mem.length A3.mc) (b:=aj A3.ua z.up.length A3.uc) (c:=aj A3.la z.dS.length A3.lc);have La:=dP (Gx.aD4 xR hN3 ah6.out.box.lt);have Bg:aG (Below w.heap.size w (((w3.setCell ⟨o5,0,ak⟩ (aj A3.ma z.mem.length A3.mc)).setCell ⟨o5,1,ak⟩ (aj A3.ua z.up.length A3.uc)).setCell ⟨o5,2,ak⟩ (aj A3.la z.dS.length A3.lc))):=hwt.below (eU HBL.out hb3) (bZ HBL.out.size hb3.size) (fun b e=>by rw[e];exact LC.out)
 clear aE1 hN3 hb3 xR hwt c0 c1 c2 ah6 aE0 HBL;go_upto_region 15 with fail
 generalize (((w3.setCell ⟨o5,0,ak⟩ (aj A3.ma z.mem.length A3.mc)).setCell ⟨o5,1,ak⟩ (aj A3.ua z.up.length A3.uc)).setCell ⟨o5,2,ak⟩ (aj A3.la z.dS.length A3.lc))=W9 at *;clear z0 z1 z2 z0' z1' z2';have hE:=ET A3 z W9 (La.out.ok FM.out.pR)
 have eD:QF z=qW z n:=by
  have e1:QF z=qW z z.mem.length:=if_pos (oD.2 ⟨n,FM.out.pR⟩);rw[e1,FM.out.pR.ml]
 rw[eD] at hE;unfold EO at hE;unfold gX iW at hE;obtain⟨c0,c1,c2⟩:=Bx.g3 La.out.box;clear eD;go_wp2_with fail
 refine hE.mono ?_;rintro e wa ⟨da,dc,rfl,hNd⟩;obtain⟨fd,hfd,_,hba⟩:=hNd;have hfit:Fits (qW z n):=wo (n:=n) (fun k hk=>List.mem_range.1 (List.mem_filter.1 hk).1) (by omega)
 obtain⟨da',dc',ed,EU,_,_⟩:=l7 (dY.wF hfd) hfit
 cases ed
 have HDv:=dP EU;have HAt:aG (∀ j,j<(qW z n).length->∃ i:Nat,el (qW z n) j=(i:Int)/\i<n/\(eF z i).done=aB):=fun j hj=>aD3 hj
 have HRi:=dP (YB z n);have hdl:=TY z n;have SX:=dP (La.out.below hba);have mZ:=dP (eU Bg.out hba);have wR:=dP FM.out.pR.ml;have HGr:=dP (SX.out.ok FM.out.pR);clear hE hfd hba hfit EU c0 c1 c2 La Bg;generalize qW z n=D at *;go_upto_region 17 with fail
 go_loopw [14] (fun v wr=>∃ i:Nat,i<=D.length/\v=ah aA (i:Int)/\Below wa.heap.size wa wr) (fun v _=>D.length-(dG v).toNat)
 case atStart=>exact⟨0,cZ _,rfl,dw _ _⟩
 case round =>
  obtain⟨i,hi,rfl,hbr⟩:=hrel;have CU:=dP hbr;clear hbr;by_cases hlt:i<D.length
  ·have k1:(i:Int)<D.length:=by omega
   have k0:(0:Int)<=i:=by omega
   obtain⟨ii,hii⟩:∃ ii:Nat,aG (i+1=ii):=⟨_,rfl⟩;have wk:wrap64 ((i:Int)+1)=(ii:Int):=by rw[<- hii.out];unfold wrap64;omega
   obtain⟨j,ej,hj,hdj⟩:=HAt.out i hlt;have j0:(0:Int)<=j:=by omega
   have j1:(j:Int)<z.mem.length:=by rw[wR.out];omega
   obtain⟨b1,q1,M1,e1,⟨m0,m1,m2,m3,m4⟩,hm⟩:=(HGr.out.below CU.out).member (k:=j) (by rw[wR.out];exact hj)
   have SG:=FM.out.pR.mem j hj;have hr1:j<(eF z j).rows.length:=by rw[SG.len];exact hj
   have j2:(j:Int)<((eF z j).rows.length:Int):=by omega
   obtain⟨g2,f2,R1,ea,⟨⟨d0,d1,d2,d3⟩,d4,d5,d6,d7⟩,hrs⟩:=hm.row hr1;obtain⟨x0,x1,x2⟩:=Bx.g3 (SX.out.below CU.out).box;rw[e1] at x0;rw[ea] at m2;have hvd:=HDv.out.below CU.out (cO _)
   obtain⟨db,ah7,hda,hdc⟩:∃ b o,da=au ⟨b,o,ak⟩/\∀ i,i<D.length->wr.cell? ⟨b,o+i,ak⟩=au (ah aA (el D i)):=by
    rcases hvd.2.2 with h|h
    ·omega
    ·exact h
   subst hda;have dk:=hdc i hlt;rw[ej] at dk;have HDS:aG (∀ Z,nX (dO (eF z j).rows j).dU Z->Z=(eF z j).dR/\∀ k,k<n->(eF z k).dR.length<=Z.length/\∀ q,q<(eF z k).dR.length->el (eF z k).dR q=el Z q):=fun Z hZ=>YC FM.out hj hdj hZ
   have GR:aG (Vec wr R1.ma (dO (eF z j).rows j).dU.length (dO (eF z j).rows j).dU/\(dO (eF z j).rows j).dU.length<=R1.mc/\R1.mc<=dD):=⟨hrs.dU.vec,hrs.dU.le,hrs.dU.mx⟩;have HMv:aG (Vec wr M1.sa (eF z j).dR.length (eF z j).dR/\(eF z j).dR.length<=M1.sc/\M1.sc<=dD):=⟨hm.Js.dR,tY.sc hm⟩;generalize (dO (eF z j).rows j).dU=QH at *;generalize (eF z j).rows.length=rl at *;have T:∀ {x v},wr.cell? x=au v->∀ X,Below wr.heap.size wr X->X.cell? x=au v:=fun h X hX=>gy hX h
   have KS:∀ X,Below wr.heap.size wr X->(fun X:aI=>X.cell? ⟨o5,0,ak⟩=au (aj (au ⟨b1,q1,ak⟩) z.mem.length A3.mc)/\X.cell? ⟨db,ah7+i,ak⟩=au (ah aA (j:Int))/\X.cell? ⟨b1,q1+j*5+2,ak⟩=au (aj (au ⟨g2,f2,ak⟩) rl M1.rc)/\X.cell? ⟨g2,f2+j*8+7,ak⟩=au (aj R1.ma QH.length R1.mc)/\X.cell? ⟨b1,q1+j*5+3,ak⟩=au (aj M1.sa (eF z j).dR.length M1.sc)) X:=by
    intro X hX;exact⟨T x0 X hX,T dk X hX,T m2 X hX,T d7 X hX,T m3 X hX⟩
   clear e1 ea hm hrs SG hr1 hvd hdc T m0 m1 m2 m3 m4 d0 d1 d2 d3 d4 d5 d6 d7 x0 x1 x2 dk hdj;generalize (eF z j).dR=SJ at *;go_upto_region 19 with fail
   refine lU (S:=fun X:aI=>X.cell? ⟨o5,0,ak⟩=au (aj (au ⟨b1,q1,ak⟩) z.mem.length A3.mc)/\X.cell? ⟨db,ah7+i,ak⟩=au (ah aA (j:Int))/\X.cell? ⟨b1,q1+j*5+2,ak⟩=au (aj (au ⟨g2,f2,ak⟩) rl M1.rc)/\X.cell? ⟨g2,f2+j*8+7,ak⟩=au (aj R1.ma QH.length R1.mc)/\X.cell? ⟨b1,q1+j*5+3,ak⟩=au (aj M1.sa SJ.length M1.sc)) 17 gq ((KS _ (fO (n:=1) (dw _ _)))) fun hHeld=>?_
   refine fE (i:=0) rfl ?_;refine ni (i:=1) rfl hHeld ?_;refine fE (i:=2) rfl ?_;refine fE (i:=3) rfl ?_;refine fE (i:=4) rfl ?_;refine ni (i:=5) rfl hHeld ?_;refine fE (i:=6) rfl ?_;refine fE (i:=7) rfl ?_;refine ni (i:=8) rfl hHeld ?_;refine fE (i:=9) rfl ?_;refine fE (i:=10) rfl ?_;refine fE (i:=11) rfl ?_;refine ni (i:=12) rfl hHeld ?_;refine fE (i:=13) rfl ?_;refine fE (i:=14) rfl ?_;refine ni (i:=15) rfl hHeld ?_;refine fE (i:=16) rfl ?_;refine uO (by kernel_rfl) ?_
   have ah8:aG (Below wr.heap.size wr wr.drew):=fO (n:=1) (dw _ _);clear hHeld;generalize wr.drew=WD at *;have hS:=hSo R1.ma QH.length R1.mc QH WD (GR.out.1.below ah8.out (cO _)) GR.out.2.1 GR.out.2.2;go_wp2_with fail
   refine hS.mono ?_;rintro e w4 ⟨Z,hZ,sg,so,sc,rfl,hsg,hOI,hb4⟩;obtain⟨eZ,hbe⟩:=HDS.out Z hZ;subst eZ;have zN:=Q8 hZ;have HB4:=dP (eU ah8.out hb4);have PU:=dP (hOI.vec zN.2);have HZc:aG (Z.length<=sc/\sc<=dD):=⟨hOI.le,hOI.max⟩;have WG:=dP hbe;have HZm:aG (Z.length<=dD):=by have:=zN.1;unfold dD;show _<=_;omega
   clear hS hZ hOI hb4 hbe zN HDS GR;go_upto_region 21 with fail
   have hLi:∀ X,Below w4.heap.size w4 X->dF dA 24 #[aj (au ⟨sg,so,ak⟩) Z.length sc,aj M1.sa Z.length M1.sc] X fun e w'=>e=aK (aF aB)/\∃ n,w'=X.drewN n:=fun X hX=>by
    have:=Di (au ⟨sg,so,ak⟩) M1.sa Z.length sc Z.length M1.sc Z Z X (PU.out.below hX (cO _)) (HMv.out.1.below (eU HB4.out hX) (cO _)) HZm.out;rw[Dh] at this;exact this
   refine lU (S:=fun X:aI=>X.cell? ⟨o5,0,ak⟩=au (aj (au ⟨b1,q1,ak⟩) z.mem.length A3.mc)/\X.cell? ⟨db,ah7+i,ak⟩=au (ah aA (j:Int))/\X.cell? ⟨b1,q1+j*5+2,ak⟩=au (aj (au ⟨g2,f2,ak⟩) rl M1.rc)/\X.cell? ⟨g2,f2+j*8+7,ak⟩=au (aj R1.ma QH.length R1.mc)/\X.cell? ⟨b1,q1+j*5+3,ak⟩=au (aj M1.sa Z.length M1.sc)) 35 gq ((KS _ (HB4.out.trans ((fO (n:=1) (dw _ _)).mono HB4.out.size)))) fun hHeld=>?_
   refine fE (i:=0) rfl ?_;refine fE (i:=1) rfl ?_;refine ni (i:=2) rfl hHeld ?_;refine fE (i:=3) rfl ?_;refine fE (i:=4) rfl ?_;refine fE (i:=5) rfl ?_;refine ni (i:=6) rfl hHeld ?_;refine fE (i:=7) rfl ?_;refine fE (i:=8) rfl ?_;refine ni (i:=9) rfl hHeld ?_;refine iJ (i:=10) rfl fun K hK=>?_
   go_simp
   go_at_call 24
   refine (hLi w4.drew (fO (n:=1) (dw _ _))).mono ?_;rintro e w5 ⟨rfl,nl,hw5⟩;have hb5:Below w4.heap.size w4 w5:=by rw[hw5];exact (fO (n:=1) (dw _ _)).trans (fO (dw _ _))
   clear hw5;have ah9:=eU HB4.out hb5;go_simp;refine hK.out _ _ (KS _ ah9) (fun eP=>?_)
   clear hK hHeld;have hHeld:=eP;try simp only[iC]
   refine fE (i:=11) rfl ?_;refine uO (by kernel_rfl) ?_
   have oM:=dP (eU CU.out ah9);have aE2:=dP (PU.out.below hb5 (cO _));clear KS hLi hHeld hb5 ah9 PU HMv HB4 ah8 HZm CU;clear ej j0 j1 j2 eP hsg;go_upto_region 24 with fail
   go_loopw [17] (fun v wx=>∃ k:Nat,k<=n/\v=ah aA (k:Int)/\Below w5.heap.size w5 wx) (fun v _=>n-(dG v).toNat)
   case atStart=>exact⟨0,cZ _,rfl,dw _ _⟩
   case round =>
    obtain⟨k,hk,rfl,hbx⟩:=hrel;have rW:=dP hbx;have hbw:=eU oM.out hbx;obtain⟨x0,x1,x2⟩:=Bx.g3 (SX.out.below hbw).box;by_cases hkn:k<n
    ·have i1:(k:Int)<n:=by omega
     have i2:(k:Int)<z.mem.length:=by rw[wR.out];exact i1
     have i0:(0:Int)<=k:=by omega
     obtain⟨kk,hkk⟩:∃ kk:Nat,aG (k+1=kk):=⟨_,rfl⟩;have wk:wrap64 ((k:Int)+1)=(kk:Int):=by rw[<- hkk.out];unfold wrap64;omega
     obtain⟨b2,q2,M2,e2,⟨m0,m1,m2,m3,m4⟩,hm⟩:=(HGr.out.below hbw).member (k:=k) (by rw[wR.out];exact hkn)
     have hbg:=WG.out k hkn;have hBg:=ah1 M2.sa (au ⟨sg,so,ak⟩) M2.sc sc (eF z k).dR Z wr hm.Js.dR (aE2.out.below hbx (cO _)) HZc.out hbg.1 hbg.2;rw[e2] at x0;clear e2 hm hbg hbx hbw m0 m1 m2 m4 x1 x2;generalize (eF z k).dR.length=sk at *;go_wp2_with fail
     refine hBg.mono ?_;rintro e w7 ⟨rfl,hb7⟩;have HE:=dP (eU rW.out hb7);clear hBg hb7 x0 m3 WG HZc aE2 oM hdl HAt HRi HDv k1 k0;go_wp2;go_roundw
     case rel=>exact⟨k+1,by omega,by go_num,HE.out⟩
     case measure=>simp[dG];omega
    ·have i1:¬ ((k:Int)<n):=by omega
     have i2:¬ ((k:Int)<z.mem.length):=by rw[wR.out];exact i1
     have HE:=dP hbw;clear hbx hbw;go_wp2;go_roundw
     case rel=>exact⟨i+1,by omega,by go_num,HE.out⟩
     case measure=>simp[dG];omega
  ·have k1:¬ ((i:Int)<D.length):=by omega
   have hR:=Q5 da dc D wr (HDv.out.below CU.out (cO _)) (by omega) HRi.out
   have HE:=dP (eU mZ.out CU.out);go_wp2_with fail
   refine hR.mono ?_;rintro e w7 ⟨rfl,hb7⟩;have HF:=dP (eU HE.out hb7);clear hR hb7;go_wp2;go_ret
   exact⟨rfl,HF.out⟩
end
section
open Go.RowKit
theorem Ue.yO {a: Option dH} {len cap: Nat} {zs: List Int} (h:Ue .u8 w a len cap zs):nZ w a len (fun i=>zs.getD i 0):=by
 rcases h with ⟨rfl,rfl,rfl,rfl⟩|⟨x,rfl,hl,hm,hz,hcell,hwz⟩
 ·exact⟨fun i hi=>absurd hi (Nat.not_lt_zero _),.inl rfl⟩
 ·refine⟨fun i hi=>?_, ?_⟩
  ·have := bounds_u8 (hwz (zs.getD i 0) (by
    have hi':i<zs.length:=by omega
    simp[hi']))
   omega
  ·by_cases h0:len=0
   ·exact .inl h0
   ·obtain⟨b,off,spot⟩:=x
    have hc:=hcell 0 (by omega)
    have hspot:spot=ak:=by simpa[Addr.add] using World.cell?_spot hc
    subst hspot;refine .inr ⟨b,off,rfl,fun i hi=>?_⟩
    have:=hcell i (by omega)
    by_cases hi0:i=0
    ·subst hi0;simpa[Addr.add] using this
    ·simpa[Addr.add,hi0] using this
end
end Go.Proofs.YtafimeakbdmkjaaGreat