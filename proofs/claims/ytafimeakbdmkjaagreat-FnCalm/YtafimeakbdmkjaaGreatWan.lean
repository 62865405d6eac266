/-
  Texts in one.
-/
import Derived.Test.YtafimeakbdmkjaaGreatWam
import Derived.Test.YtafimeakbdmkjaaGreatWac
import Derived.Test.YtafimeakbdmkjaaGreatWaa
import Derived.Test.YtafimeakbdmkjaaGreatWaj
namespace Go.Proofs.YtafimeakbdmkjaaGreat
open Bool renaming false->aC,true->aB
open Go renaming World->aI
open Go.IntKind renaming i64->aA
open Go.Obj renaming cells->aH
open Go.Proofs.Tryz renaming prog->aZ8
open Go.RowKit renaming Hid->aG,intOf->ba4
open Go.RowKit.Below renaming refl->aZ5
open Go.Value renaming bool->aF,int->ah,slice->aj
open Go.World renaming size_alloc->aU1
open Nat renaming le_refl->aZ0,le_trans->aY2,zero_le->aZ1
open Option renaming none->ak,some->au
set_option linter.unusedVariables false
set_option linter.unusedSimpArgs false
open Go.RowKit Go.Sort
set_option maxRecDepth 100000
set_option maxHeartbeats 12800000
variable {n:Nat} {z:Gr} {m:Mb}
section
theorem Zb {q: Nat} (h:q<n):(cnts n z).take q++[((dO (dY z q).rows q).txt.length:Int)]=(cnts n z).take (q+1):=by
 have e:(cnts n z)[q]?=au ((dO (dY z q).rows q).txt.length:Int):=by
  unfold cnts;rw[List.getElem?_map,List.getElem?_range h]
  rfl
 rw[List.take_add_one,e]
 rfl
theorem Zc (G:OkG z n):Fits (cnts n z):=fun x hx=>by
 unfold cnts at hx;obtain⟨i,hi,rfl⟩:=List.mem_map.1 hx;have hi:=List.mem_range.1 hi;have:=((G.mem i hi).ok i hi).tl;unfold iD
 constructor<;>omega
theorem ay6 {i: Nat} (G:yK n z) (hi:i<n):(Ip (dY z i)).length=(dY z i).dR.length:=by
 have M:=G.qP.mem i hi;obtain⟨h,log,GI⟩:=G;have hk:(dY z i).k=n:=by unfold Mb.k;rw[M.hn];exact Int.toNat_natCast n
 have hall:(dY z i).dR.all (hadB (dY z i).rows (dY z i).k)=aB:=by
  rw[List.all_eq_true];intro x hx;obtain⟨q,rfl,hq⟩:=GI.had hi hx;rw[hk];unfold hadB;exact decide_eq_true hq
 rw[Ip,if_pos (lH.2 ⟨i,n,M⟩),Vh,if_pos hall,List.length_map]
theorem ay7 (G:OkG z n):lX (cnts n z)=aB:=by
 have hl:(cnts n z).length=n:=by simp[cnts]
 have h:∀ j,j<n->0<=el (cnts n z) j/\el (cnts n z) j<=20:=fun j hj=>by
  rw[Uu hj];have:=((G.mem j hj).ok j hj).tl;unfold iD;omega
 have jy:=G.n5;refine Ky (xY (by omega) (by omega) (fun j hj=>?_)) (fun j hj=>?_)
 ·have:=h j (by omega)
  exact iQ.2 (by omega)
 ·have:=h j (by omega)
  omega
theorem Gx.aI3 {X w3: aI} {o: Nat} {x0 x1 x2: Value} {A': Ga} {g': Gr} (hbx:Bx w3 o 28 #[x0,x1,x2]) (h:kW X w3 (fK g') (jC A' g')) (ho:o<X.heap.size) :
  Gx (((w3.setCell ⟨o,0,ak⟩ (aj A'.ma g'.mem.length A'.mc)).setCell ⟨o,1,ak⟩ (aj A'.ua g'.up.length A'.uc)).setCell ⟨o,2,ak⟩ (aj A'.la g'.dS.length A'.lc)) o o A' g':=by
 have hw:=qF w3 o (a:=aj A'.ma g'.mem.length A'.mc) (b:=aj A'.ua g'.up.length A'.uc) (c:=aj A'.la g'.dS.length A'.lc);obtain⟨f,h1,h2,_⟩:=h;refine⟨?_,f,gU h1 hw (fun b hb e=>by have:=h2 b hb;omega),fun b hb=>by have:=h2 b hb;omega⟩
 have:=((hbx.lW 0 (aj A'.ma g'.mem.length A'.mc)).lW 1 (aj A'.ua g'.up.length A'.uc)).lW 2 (aj A'.la g'.dS.length A'.lc);simpa using this
attribute [local irreducible] sv
theorem Zd (hHp:Hq) (hCm:Nz) (IQ:MK) (a:Option Addr) (len cap:Nat) (bs:Nat->Int) (w:aI) (hv:oC w a len bs) :
  Calls aZ8 3 #[aj a len cap] w fun e w'=>e=.returned (aF aB)/\Below w.heap.size w w':=by
 have fU:=iq;by_cases hbig:(4096:Int)<len
 ·have hB:=Rz a len cap w
  rw[decide_eq_true hbig] at hB;go_enter Tryz.func3,Tryz.ntmps3
  go_wp2_with fail
  refine hB.mono ?_;rintro e w1 ⟨rfl,hw1⟩;have HW:=dP hw1;clear hw1;go_wp2;go_ret
  exact⟨rfl,by rw[HW.out];exact aZ5 _ _⟩
 have hB:=Rz a len cap w;rw[decide_eq_false hbig] at hB;have hl:len<=4096:=by omega
 have hD:=VI a len cap bs w hv hl;go_enter Tryz.func3,Tryz.ntmps3
 go_wp2_with fail
 refine hB.mono ?_;rintro e w0 ⟨rfl,hw0⟩;rw[hw0];clear hw0 hB hbig;go_wp2_with fail
 refine hD.mono ?_;rintro e w1 ⟨Av,gv,oa,c,L,rfl,hIt,hgl,hLS,hL4,hb1⟩;obtain⟨fl,hfl,hfb⟩:=hIt.ow1;have wo:=dP hLS;unfold jc jH;generalize hnn:gv.mem.length=n at *;have hba:=dX w1 (aH #[aj Av.ma n Av.mc,aj Av.ua gv.up.length Av.uc,aj Av.la gv.dS.length Av.lc] 28);have hbx:=Bx.new w1 28 #[aj Av.ma n Av.mc,aj Av.ua gv.up.length Av.uc,aj Av.la gv.dS.length Av.lc];have aI4:=dP hbx;have zl:=dP (eF.gK hfl hba);have HB1:=dP (eP hb1 hba);have hC:=VH a len cap bs _ (hv.below HB1.out (aZ0 _)) hl;clear hD hIt hfl hfb hb1 hba hLS hnn hv hbx;go_upto_region 4 with fail
 generalize w1.alloc (aH #[aj Av.ma n Av.mc,aj Av.ua gv.up.length Av.uc,aj Av.la gv.dS.length Av.lc] 28)=W1 at *;generalize w1.heap.size=o1 at *;go_wp2_with fail
 refine hC.mono ?_;rintro e w2 ⟨Ac,gc,rfl,⟨fc,hc1,hc2⟩,⟨nc,hDg⟩,hb2⟩;have hG0:Gx (w2.alloc (aH #[aj Ac.ma gc.mem.length Ac.mc,aj Ac.ua gc.up.length Ac.uc,aj Ac.la gc.dS.length Ac.lc] 28)) w2.heap.size w2.heap.size Ac gc:=Gx.new' (X:=W1) ⟨fc,hc1,fun b hb=>(hc2 b hb).1,hb2⟩
 have hba:=dX w2 (aH #[aj Ac.ma gc.mem.length Ac.mc,aj Ac.ua gc.up.length Ac.uc,aj Ac.la gc.dS.length Ac.lc] 28);have hb3:=eP hb2 hba;have HC:=dP hG0;have Uw:=dP hDg;have aI5:=dP (aI4.out.below hb3);have HL2:=dP (eF.gK zl.out hb3);have HB2:=dP (eP HB1.out hb3);clear hC hc1 hc2 hDg hb2 hG0 hba hb3 aI4 zl HB1;unfold jc jH;go_upto_region 5 with fail
 generalize w2.alloc (aH #[aj Ac.ma gc.mem.length Ac.mc,aj Ac.ua gc.up.length Ac.uc,aj Ac.la gc.dS.length Ac.lc] 28)=W2 at *;generalize w2.heap.size=o5 at *;have KS:∀ X,Below W2.heap.size W2 X->X.cell? ⟨o5,0,ak⟩=au (aj Ac.ma gc.mem.length Ac.mc)/\X.cell? ⟨o5,1,ak⟩=au (aj Ac.ua gc.up.length Ac.uc)/\X.cell? ⟨o5,2,ak⟩=au (aj Ac.la gc.dS.length Ac.lc):=fun X hX=>Bx.g3 (HC.out.below hX).box
 have hP:=HC.out.grp Uw.out.fit Uw.out.g64 Uw.out.sz
 have hVC:∀ k,OkG gc k->Vz gc k:=fun k ok=>by
  have h1:=Uw.out.ow;have h2:nc=k:=by rw[<- Uw.out.ml,ok.ml]
  rw[h2] at h1;exact Uj (q:=400) ok h1 (by omega)
 have hIc:∀ X,Below W2.heap.size W2 X->Calls aZ8 10 #[jc Ac gc] X fun e w'=>zH X w' e (qH gc):=fun X hX=>hCm Ac gc X (hP.below hX) hVC
 have hSc:∀ X,Below W2.heap.size W2 X->Calls aZ8 11 #[jc Ac gc] X fun e w'=>zH X w' e (qH gc):=fun X hX=>aa8 Ac gc X (hP.below hX).grs
 have C9:=dP (Rk gc);unfold zH at hIc hSc;unfold jc jH at hIc hSc;generalize qH gc=z at *;clear hP hVC
 go_cut [27] from 22 to 27 (fun v X=>v=aF aC/\Below W2.heap.size W2 X)
 case first =>
  refine lG (S:=fun X:aI=>X.cell? ⟨o5,0,ak⟩=au (aj Ac.ma gc.mem.length Ac.mc)/\X.cell? ⟨o5,1,ak⟩=au (aj Ac.ua gc.up.length Ac.uc)/\X.cell? ⟨o5,2,ak⟩=au (aj Ac.la gc.dS.length Ac.lc)) 6 fU ((KS _ (fO (n:=1) (aZ5 _ _)))) fun hHeld=>?_
  refine nC (i:=0) rfl hHeld ?_;refine nC (i:=2) rfl hHeld ?_;refine iy (i:=1) rfl fun K hK=>?_
  go_simp
  go_at_call 10
  refine (hIc W2.drew (fO (n:=1) (aZ5 _ _))).mono ?_;rintro e w3 ⟨A3,rfl,f3,p1,p2,p3⟩;have hb3:=(fO (n:=1) (aZ5 _ _)).trans p3;go_simp;refine hK.out _ _ (KS _ hb3) (fun eG=>?_)
  clear hK hHeld;have hHeld:=eG;try simp only[gW]
  refine iy (i:=3) rfl fun K hK=>?_
  go_simp
  go_at_call 11
  refine (hSc w3 hb3).mono ?_;rintro e w4 ⟨A4,rfl,f4,q1,q2,q3⟩;have hb4:Below W2.heap.size W2 w4:=eP hb3 q3;go_simp;refine hK.out _ _ (KS _ hb4) (fun eG=>?_)
  clear hK hHeld;have hHeld:=eG;try simp only[gW]
  have hLk:=VL A3 A4 z w4 (OH (yC (gy p1 q3)) C9.out.1) (OH (yC q1) C9.out.1) ⟨by have:=C9.out.2.2.1;omega,by have:=C9.out.2.1;unfold NR at this;omega,by have:=C9.out.2.2.2.1;omega⟩
  unfold jc jH at hLk;refine iy (i:=4) rfl fun K hK=>?_
  go_simp
  go_at_call 9
  refine hLk.mono ?_;rintro e w5 ⟨rfl,hb5⟩;have hb6:=eP hb4 hb5;go_simp;refine hK.out _ _ (KS _ hb6) (fun eG=>?_)
  clear hK hHeld;have hHeld:=eG;try simp only[gW]
  refine fE (i:=5) rfl ?_;refine uT (by kernel_rfl) ?_
  try go_wp2_with fail
  go_meet
  case rel=>exact⟨rfl,hb6⟩
 case rest =>
 obtain⟨rfl,hbc⟩:=hcut;have aI6:=dP (aI5.out.below hbc);have JR:=dP (eF.gK HL2.out hbc);have HB3:=dP (eP HB2.out hbc);clear hbc KS hIc hSc C9 HC Uw aI5 HL2 HB2;generalize wc=W3 at *;go_upto_region 7 with fail
 obtain⟨c0,c1,c2⟩:=Bx.g3 aI6.out;by_cases aT4:L.length<=120;rotate_left
 ·have g1:(120:Int)<L.length:=by omega
  have HE:=dP HB3.out;go_wp2;go_ret
  exact⟨rfl,HE.out⟩
 have g1:¬ ((120:Int)<L.length):=by omega
 obtain⟨hn1,jy⟩:=hgl;have g2:¬ ((n:Int)<1):=by omega
 have g3:¬ ((5:Int)<n):=by omega
 have hN:=Ig (n:Int) W3;go_wp2_with fail
 clear c0 c1 c2 g1 g2 g3;refine hN.mono ?_;rintro e w2 ⟨A,rfl,hNl⟩;have hb2:=hNl.choose_spec.2.2;have hG0:=Gx.new' hNl;have hba:=dX w2 (aH #[aj A.ma (jg (n:Int)).1.mem.length A.mc,aj A.ua (jg (n:Int)).1.up.length A.uc,aj A.la (jg (n:Int)).1.dS.length A.lc] 28);have aI7:aG (ND n 0 (jg (n:Int)).1):=ND.new ⟨hn1,jy⟩;have oN:=dP hG0;have hb3:=eP hb2 hba;have FV:=dP (eF.gK JR.out hb3);have HB4:=dP (eP HB3.out hb3);have Jf:aG (∀ b,fl b->b≠w2.heap.size):=fun b hb=>by have:=eF.lg JR.out b hb;have:=hb2.size;omega
 have L6:=dP (aY2 HB3.out.size hb2.size);generalize (jg (n:Int)).2=bb at *;generalize (jg (n:Int)).1=g0 at *;unfold jc jH;clear hN hNl hb2 hG0 hba hb3 JR HB3 aI6;go_upto_region 12 with fail
 generalize w2.alloc (aH #[aj A.ma g0.mem.length A.mc,aj A.ua g0.up.length A.uc,aj A.la g0.dS.length A.lc] 28)=W4 at *;generalize w2.heap.size=o7 at *;go_wp2_with fail
 go_loopw [9] (fun v wr=>∃ (k:Nat) (A:Ga) (g:Gr),k<=L.length/\v=ah aA (k:Int)/\ND n k g/\Gx wr o7 o7 A g/\eF.ow wr (iF 4 CV L) (aj oa L.length c) fl/\Below w.heap.size w wr) (fun v _=>L.length-(ba4 v).toNat)
 case atStart=>exact⟨0,A,g0,aZ1 _,rfl,aI7.out,oN.out,FV.out,HB4.out⟩
 case round =>
  obtain⟨k,A1,g,hk,rfl,hnd,hG,hL,hB⟩:=hrel;have JY:=dP hnd;have HG:=dP hG;have HL:=dP hL;have mZ:=dP hB;have hG4:=hG.ok hnd.G.qP;clear hnd hG hL hB aI7 oN FV HB4;by_cases hlt:k<L.length
  ·have k1:(k:Int)<L.length:=by omega
   have k0:(0:Int)<=k:=by omega
   have wk:wrap64 ((k:Int)+1)=(k:Int)+1:=by unfold wrap64;omega
   obtain⟨lb,lo,hoa,d0,d1,d2,d3⟩:=XK (eF.xZ HL.out) hlt;subst hoa;by_cases h5:(sQ L k).kind=5\/(sQ L k).kind=6
   ·have HE:aG (ND n (k+1) g):=JY.out.more (by omega)
    clear d1 d2 d3 hG4;rcases h5 with h5|h5
    ·rw[h5] at d0
     clear h5;go_wp2;go_roundw
     case rel=>exact⟨k+1,A1,g,by omega,by go_num,HE.out,HG.out,HL.out,mZ.out⟩
     case measure=>simp[ba4];omega
    ·rw[h5] at d0
     clear h5;go_wp2;go_roundw
     case rel=>exact⟨k+1,A1,g,by omega,by go_num,HE.out,HG.out,HL.out,mZ.out⟩
     case measure=>simp[ba4];omega
   have hxs:=wo.out (sQ L k) (List.mem_of_getElem? (P6 hlt));have VN:=fun X (hX:Below wr.heap.size wr X)=>hHp A1 g n (sQ L k) X (hG4.below hX) JY.out.G.qP hxs.1.2.1 hxs.1.2.2 (by have:=hxs.2;omega) (ay1 JY.out.G.qP JY.out.owV (by omega) _) ⟨fun e=>h5 (.inl e),fun e=>h5 (.inr e)⟩
   have h56:(sQ L k).kind≠5/\(sQ L k).kind≠6:=⟨fun e=>h5 (.inl e),fun e=>h5 (.inr e)⟩
   have lM:aG (ND n (k+1) (iY g (sQ L k)).1):=JY.out.act (by omega) _ h56.1 h56.2
   obtain⟨g5,g6⟩:=h56;unfold Ve at VN;unfold su uM jc jH at VN;generalize (iY g (sQ L k)).1=x at *;generalize FU (iY g (sQ L k)).2=kd at *;generalize (sQ L k).kind=xk at *;generalize (sQ L k).a=xa at *;generalize (sQ L k).b=xb at *;generalize (sQ L k).txt=xt at *;clear hxs h5
   have KS:∀ X,Below wr.heap.size wr X->(fun X:aI=>X.cell? ⟨o7,0,ak⟩=au (aj A1.ma g.mem.length A1.mc)/\X.cell? ⟨o7,1,ak⟩=au (aj A1.ua g.up.length A1.uc)/\X.cell? ⟨o7,2,ak⟩=au (aj A1.la g.dS.length A1.lc)/\X.cell? ⟨lb,lo+k*4,ak⟩=au (ah aA xk)/\X.cell? ⟨lb,lo+k*4+1,ak⟩=au (ah aA xa)/\X.cell? ⟨lb,lo+k*4+2,ak⟩=au (ah aA xb)/\X.cell? ⟨lb,lo+k*4+3,ak⟩=au (.string (sv xt))) X:=fun X hX=>by
    obtain⟨c0,c1,c2⟩:=Bx.g3 (HG.out.below hX).box;exact⟨c0,c1,c2,(fM hX d0),(fM hX d1),(fM hX d2),(fM hX d3)⟩
   have b5:(xk != 5)=aB:=by simpa using g5
   have b6:(xk != 6)=aB:=by simpa using g6
   go_upto_region 15 with fail
   clear d0 d1 d2 d3 hG4;refine lG (S:=fun X:aI=>X.cell? ⟨o7,0,ak⟩=au (aj A1.ma g.mem.length A1.mc)/\X.cell? ⟨o7,1,ak⟩=au (aj A1.ua g.up.length A1.uc)/\X.cell? ⟨o7,2,ak⟩=au (aj A1.la g.dS.length A1.lc)/\X.cell? ⟨lb,lo+k*4,ak⟩=au (ah aA xk)/\X.cell? ⟨lb,lo+k*4+1,ak⟩=au (ah aA xa)/\X.cell? ⟨lb,lo+k*4+2,ak⟩=au (ah aA xb)/\X.cell? ⟨lb,lo+k*4+3,ak⟩=au (.string (sv xt))) 9 fU ((KS _ (fO (n:=1) (aZ5 _ _)))) fun hHeld=>?_
   refine fC (i:=0) rfl hHeld ?_;refine fE (i:=1) rfl ?_;refine fE (i:=2) rfl ?_;refine fE (i:=3) rfl ?_;refine fC (i:=4) rfl hHeld ?_;refine iy (i:=5) rfl fun K hK=>?_
   go_simp
   go_at_call 13
   refine (VN wr.drew (fO (n:=1) (aZ5 _ _))).mono ?_;rintro e w3 ⟨A2,rfl,hNx⟩;have hb3:=(fO (n:=1) (aZ5 _ _)).trans hNx.choose_spec.2.2;go_simp;refine hK.out _ _ (KS _ hb3) (fun eG=>?_)
   clear hK hHeld;have hHeld:=eG;try simp only[gW]
   refine fE (i:=6) rfl ?_;refine fE (i:=7) rfl ?_;refine fE (i:=8) rfl ?_;have KU:=(HG.out.below hb3).box;obtain⟨z0,z1,z2⟩:=Bx.g3 KU;have z0':=KU.f 0;have z1':=KU.f 1;have z2':=KU.f 2;refine oH rfl fun K hK=>?_
   go_simp;refine hK.out _ _ ?_;clear hK z0 z1 z2 z0' z1' z2';have hwt:=qF w3 o7 (a:=aj A2.ma x.mem.length A2.mc) (b:=aj A2.ua x.up.length A2.uc) (c:=aj A2.la x.dS.length A2.lc)
   have HP:aG (Gx (((w3.setCell ⟨o7,0,ak⟩ (aj A2.ma x.mem.length A2.mc)).setCell ⟨o7,1,ak⟩ (aj A2.ua x.up.length A2.uc)).setCell ⟨o7,2,ak⟩ (aj A2.la x.dS.length A2.lc)) o7 o7 A2 x/\eF.ow (((w3.setCell ⟨o7,0,ak⟩ (aj A2.ma x.mem.length A2.mc)).setCell ⟨o7,1,ak⟩ (aj A2.ua x.up.length A2.uc)).setCell ⟨o7,2,ak⟩ (aj A2.la x.dS.length A2.lc)) (iF 4 CV L) (aj (au ⟨lb,lo,ak⟩) L.length c) fl/\Below w.heap.size w (((w3.setCell ⟨o7,0,ak⟩ (aj A2.ma x.mem.length A2.mc)).setCell ⟨o7,1,ak⟩ (aj A2.ua x.up.length A2.uc)).setCell ⟨o7,2,ak⟩ (aj A2.la x.dS.length A2.lc))) :=
    ⟨Gx.aI3 KU hNx HG.out.box.lt,eF.lC (eF.gK HL.out hb3) hwt (fun b hb e=>Jf.out b hb e),hwt.below (eP mZ.out hb3) (aY2 mZ.out.size hb3.size) (fun b e=>by rw[e];exact L6.out)⟩
   clear hwt KU hNx hb3 KS VN HG HL mZ;generalize ((w3.setCell ⟨o7,0,ak⟩ (aj A2.ma x.mem.length A2.mc)).setCell ⟨o7,1,ak⟩ (aj A2.ua x.up.length A2.uc)).setCell ⟨o7,2,ak⟩ (aj A2.la x.dS.length A2.lc)=W9 at *;go_wp2;go_roundw
   case rel=>exact⟨k+1,A2,x,by omega,by go_num,lM.out,HP.out.1,HP.out.2.1,HP.out.2.2⟩
   case measure=>simp[ba4];omega
  ·have k1:¬ ((k:Int)<L.length):=by omega
   have Ze := hCm A1 g wr hG4 (fun q ok => Uj (q := (k : Int)) ok (by
    have h2:n=q:=by rw[<- JY.out.G.qP.ml,ok.ml]
    rw[<- h2];exact JY.out.owV) (by omega))
   have hok:jQ g=aB:=xM.2 ⟨n,JY.out.G.qP⟩;have e1:qH g=oV g:=by unfold qH;exact if_pos hok
   rw[e1] at Ze;have hall:=al3 JY.out (by omega)
   have QY:=dP hall.1;have jK:=dP hall.2.1;have Cj:=dP hall.2.2.2;unfold zH at Ze;unfold jc jH at Ze;obtain⟨c0,c1,c2⟩:=Bx.g3 HG.out.box;generalize oV g=z at *;clear hall hok e1 hG4 HL;go_wp2_with fail
   refine Ze.mono ?_;rintro e w5 ⟨A5,rfl,G6⟩;have hb5:=G6.choose_spec.2.2;have KW:=(HG.out.below hb5).box;obtain⟨z0,z1,z2⟩:=Bx.g3 KW;have z0':=KW.f 0;have z1':=KW.f 1;have z2':=KW.f 2;have hwt:=qF w5 o7 (a:=aj A5.ma z.mem.length A5.mc) (b:=aj A5.ua z.up.length A5.uc) (c:=aj A5.la z.dS.length A5.lc);have V8:=dP (Gx.aI3 KW G6 HG.out.box.lt);have qZ:aG (Below w.heap.size w (((w5.setCell ⟨o7,0,ak⟩ (aj A5.ma z.mem.length A5.mc)).setCell ⟨o7,1,ak⟩ (aj A5.ua z.up.length A5.uc)).setCell ⟨o7,2,ak⟩ (aj A5.la z.dS.length A5.lc))):=hwt.below (eP mZ.out hb5) (aY2 mZ.out.size hb5.size) (fun b e=>by rw[e];exact L6.out)
   clear Ze G6 hb5 KW hwt c0 c1 c2 HG mZ;go_upto_region 17 with fail
   generalize ((w5.setCell ⟨o7,0,ak⟩ (aj A5.ma z.mem.length A5.mc)).setCell ⟨o7,1,ak⟩ (aj A5.ua z.up.length A5.uc)).setCell ⟨o7,2,ak⟩ (aj A5.la z.dS.length A5.lc)=W5 at *;clear z0 z1 z2 z0' z1' z2';have hb0:=dX W5 (aH #[] 2);have jD:aG (eF.ow (W5.alloc (aH #[] 2)) (gQ []) (aj (au ⟨W5.heap.size,0,ak⟩) 0 0) (fun _=>False)):=jv.2 ⟨_,0,ak,rfl,iV.nil _ _ (kV _ _),fun b=>by simp⟩
   have uJ:=dP hb0;have vY:=dP QY.out.G.qP.ml;have zk:=dP (V8.out.ok QY.out.G.qP);obtain⟨c0,c1,c2⟩:=Bx.g3 (V8.out.below hb0).box;clear hb0;go_upto_region 19 with fail
   clear c0 c1 c2
   go_loopw [10,11] (fun v i wr=>∃ (k:Nat) (a:Option Addr) (cc:Nat) (Z:List Int) (fz:Fp),k<=n/\i=ah aA (k:Int)/\v=aj a Z.length cc/\aG (Z=(cnts n z).take k)/\eF.ow wr (gQ Z) (aj a Z.length cc) fz/\(∀ b,fz b->W5.heap.size<=b)/\Below W5.heap.size W5 wr) (fun _ i _=>n-(ba4 i).toNat)
   case atStart=>exact⟨0,some ⟨W5.heap.size,0,none⟩,0,[],_,aZ1 _,rfl,rfl,rfl,jD.out,fun b h=>h.elim,uJ.out⟩
   case round =>
    obtain⟨q,a2,cc,Z,fz,hq,rfl,rfl,hZ,hO,hfz,hgr⟩:=hrel;have hcl:(cnts n z).length=n:=by simp[cnts]
    have HZL:aG (Z.length=q):=by rw[aG,hZ.out,List.length_take,hcl];omega
    clear hcl;have hgs:=hgr.size;obtain⟨c0,c1,c2⟩:=Bx.g3 (V8.out.below hgr).box;have SL:=dP hgr;have HO:=dP hO;have HZ:=dP hZ;by_cases hqn:q<n
    ·have k1:(q:Int)<n:=by omega
     have k2:(q:Int)<z.mem.length:=by rw[vY.out];exact k1
     have k0:(0:Int)<=q:=by omega
     have wk:wrap64 ((q:Int)+1)=(q:Int)+1:=by unfold wrap64;omega
     obtain⟨b1,q1,M1,e1,⟨m0,m1,m2,m3,m4⟩,hm⟩:=(zk.out.below hgr).member (k:=q) (by rw[vY.out];exact hqn)
     have ok1:=QY.out.G.qP.mem q hqn;have hr1:q<(dY z q).rows.length:=by rw[ok1.len];exact hqn
     obtain⟨g1,f1,R1,ea,⟨⟨d0,d1,d2,d3⟩,d4,d5,d6,d7⟩,hrs⟩:=hm.row hr1;have k3:(q:Int)<((dY z q).rows.length:Int):=by omega
     have HE:aG (Z++[((dO (dY z q).rows q).txt.length:Int)]=(cnts n z).take (q+1)):=by
      rw[aG,HZ.out];exact Zb hqn
     rw[e1] at c0;rw[ea] at m2;obtain⟨a',c',ec,hA⟩:=pO ((dO (dY z q).rows q).txt.length:Int) HO.out (by rw[HZL.out];omega)
     cases ec
     clear e1 ea hm hrs hZ hO hgr d0 d2 d3 d4 d5 d6 d7 m0 m1 m3 m4 ok1 hr1;generalize (dO (dY z q).rows q).txt.length=T at *;go_wp2_with (at_builtin;refine fJ (by rfl) _ _ _ _ (by rfl) _ _ (by rfl) (by rfl) hA ⟨rfl,rfl,rfl,rfl⟩ ?_;rintro v9 w9 ⟨a9,e9,f9,rfl,p1,p2,p3⟩;have tY:aG (eF.ow w9 (gQ (Z++[(T:Int)])) (aj a9 (Z.length+1) e9) f9):=p1;have Ap:aG (∀ b,f9 b->fz b\/wr.heap.size<=b):=p2;have Aq:aG (eU fz wr w9):=p3;clear p1 p2 p3 hA)
     have HL:aG ((Z++[(T:Int)]).length=Z.length+1):=by rw[aG,List.length_append];rfl
     go_roundw
     case rel=>exact⟨q+1,a9,e9,Z++[(T:Int)],f9,by omega,by go_num,by rw[HL.out],HE,by rw[HL.out];exact tY.out,fun b hb=>(Ap.out b hb).elim (hfz b) (fun h=>by omega),Aq.out.below SL.out hgs (fun b hb=>hfz b hb)⟩
     case measure=>simp[ba4];omega
    ·have k1:¬ ((q:Int)<n):=by omega
     have k2:¬ ((q:Int)<z.mem.length):=by rw[vY.out];exact k1
     have hqe:q=n:=by omega
     have HZ2:aG (Z=cnts n z):=by rw[aG,HZ.out,hqe,List.take_of_length_le (by simp[cnts])]
     clear HZ hZ hO;have hvi:=nI (eF.xZ HO.out) (by rw[HZ2.out];exact Zc QY.out.G.qP)
     obtain⟨a3,c3,e3,Az,hcc,hcm⟩:=hvi
     cases e3
     have aR0:aG (∀ X,Below wr.heap.size wr X->Vec X a2 Z.length Z):=fun X hX=>Az.below hX (aZ0 _)
     have HZm:aG (Z.length<=maxLen):=by rw[aG,HZL.out];unfold maxLen;omega
     have Qe:=dP (eP qZ.out SL.out);have aR1:=dP (zk.out.below SL.out);have HG7:=dP (V8.out.below SL.out);clear Az hcc hcm;obtain⟨WV,hWV⟩:∃ X:aI,X=wr:=⟨wr,rfl⟩;subst hWV;go_upto_region 23 with fail
     clear c0 c1 c2
     go_loopw [12] (fun v wx=>∃ i:Nat,i<=n/\v=ah aA (i:Int)/\Below WV.heap.size WV wx) (fun v _=>n-(ba4 v).toNat)
     case atStart=>exact⟨0,aZ1 _,rfl,aZ5 _ _⟩
     case round =>
      obtain⟨i,hi,rfl,hbx⟩:=hrel;have qU:=dP hbx;obtain⟨c0,c1,c2⟩:=Bx.g3 (HG7.out.below hbx).box;by_cases hin:i<n
      ·have k1:(i:Int)<n:=by omega
       have k2:(i:Int)<z.mem.length:=by rw[vY.out];exact k1
       have k0:(0:Int)<=i:=by omega
       have wk:wrap64 ((i:Int)+1)=(i:Int)+1:=by unfold wrap64;omega
       obtain⟨b1,q1,M1,e1,⟨m0,m1,m2,m3,m4⟩,hm⟩:=(aR1.out.below hbx).member (k:=i) (by rw[vY.out];exact hin)
       have hvl:=ay6 QY.out.G hin;have hdn:=QY.out.dn i hin
       have hrd:rY Z=((dY z i).dR.length:Int):=by
        rw[HZ2.out];exact Yw (ay7 QY.out.G.qP) (Cj.out i hin)
       rw[e1] at c0;rw[hdn] at m4;have hV:=fun X (hX:Below wr.heap.size wr X)=>IQ M1 (dY z i) X (hm.below hX)
       have hR:=fun X (hX:Below wr.heap.size wr X)=>U8 a2 Z.length cc Z X (aR0.out X (eP hbx hX)) HZm.out
       unfold am4 at hV;simp only[hvl] at hV;rw[hrd] at hR;unfold iL ig at hV;rw[hdn] at hV;have T:∀ {x v},wr.cell? x=au v->∀ X,Below wr.heap.size wr X->X.cell? x=au v:=fun h X hX=>fM hX h
       have KS:∀ X,Below wr.heap.size wr X->(fun X:aI=>X.cell? ⟨o7,0,ak⟩=au (aj (au ⟨b1,q1,ak⟩) z.mem.length A5.mc)/\X.cell? ⟨b1,q1+i*5,ak⟩=au (ah aA (dY z i).id)/\X.cell? ⟨b1,q1+i*5+1,ak⟩=au (ah aA (dY z i).n)/\X.cell? ⟨b1,q1+i*5+2,ak⟩=au (aj M1.ra (dY z i).rows.length M1.rc)/\X.cell? ⟨b1,q1+i*5+3,ak⟩=au (aj M1.sa (dY z i).dR.length M1.sc)/\X.cell? ⟨b1,q1+i*5+4,ak⟩=au (aF aC)) X:=by
        intro X hX;exact⟨T c0 X hX,T m0 X hX,T m1 X hX,T m2 X hX,T m3 X hX,T m4 X hX⟩
       clear hrd hdn hvl hm e1 T hbx c1 c2;generalize dY z i=m at *;go_upto_region 25 with fail
       refine lG (S:=fun X:aI=>X.cell? ⟨o7,0,ak⟩=au (aj (au ⟨b1,q1,ak⟩) z.mem.length A5.mc)/\X.cell? ⟨b1,q1+i*5,ak⟩=au (ah aA m.id)/\X.cell? ⟨b1,q1+i*5+1,ak⟩=au (ah aA m.n)/\X.cell? ⟨b1,q1+i*5+2,ak⟩=au (aj M1.ra m.rows.length M1.rc)/\X.cell? ⟨b1,q1+i*5+3,ak⟩=au (aj M1.sa m.dR.length M1.sc)/\X.cell? ⟨b1,q1+i*5+4,ak⟩=au (aF aC)) 35 fU ((KS _ (fO (n:=1) (aZ5 _ _)))) fun hHeld=>?_
       refine fE (i:=0) rfl ?_;refine nC (i:=1) rfl hHeld ?_;refine fE (i:=2) rfl ?_;refine fE (i:=3) rfl ?_;refine fE (i:=4) rfl ?_;refine nC (i:=5) rfl hHeld ?_;refine fE (i:=6) rfl ?_;refine fE (i:=7) rfl ?_;refine iy (i:=8) rfl fun K hK=>?_
       go_simp
       go_at_call 14
       refine fV (hR wr.drew (fO (n:=1) (aZ5 _ _))) ?_;go_simp;refine hK.out _ _ (KS _ (fO (n:=1) (aZ5 _ _))) (fun eG=>?_)
       clear hK hHeld;have hHeld:=eG;try simp only[gW]
       refine fE (i:=9) rfl ?_;refine fE (i:=10) rfl ?_;refine fE (i:=11) rfl ?_;refine nC (i:=12) rfl hHeld ?_;refine fE (i:=13) rfl ?_;refine fE (i:=14) rfl ?_;refine fE (i:=15) rfl ?_;refine nC (i:=16) rfl hHeld ?_;refine fE (i:=17) rfl ?_;refine fE (i:=18) rfl ?_;refine fE (i:=19) rfl ?_;refine nC (i:=20) rfl hHeld ?_;refine fE (i:=21) rfl ?_;refine fE (i:=22) rfl ?_;refine nC (i:=23) rfl hHeld ?_;refine fE (i:=26) rfl ?_;refine nC (i:=27) rfl hHeld ?_;refine fE (i:=28) rfl ?_;refine fE (i:=29) rfl ?_;refine fE (i:=30) rfl ?_;refine nC (i:=31) rfl hHeld ?_;refine fE (i:=32) rfl ?_;refine iy (i:=24) rfl fun K hK=>?_
       go_simp
       go_at_call 15
       refine (hV wr.drew (fO (n:=1) (aZ5 _ _))).mono ?_;rintro e w9 ⟨a9,c9,rfl,f9,p1,p2,p3⟩;have hb9:=(fO (n:=1) (aZ5 _ _)).trans p3;go_simp;refine hK.out _ _ (KS _ hb9) (fun eG=>?_)
       clear hK hHeld;have hHeld:=eG;try simp only[gW]
       refine fE (i:=25) rfl ?_;refine fE (i:=33) rfl ?_;refine fE (i:=34) rfl ?_;refine uT (by kernel_rfl) ?_
       have HE:=dP (eP qU.out hb9);clear KS hV hR hb9 p1 p2 p3 hHeld m0 m1 m2 m3 m4 c0 qU;go_wp2;go_roundw
       case rel=>exact⟨i+1,by omega,by go_num,HE.out⟩
       case measure=>simp[ba4];omega
      ·have k1:¬ ((i:Int)<n):=by omega
       have k2:¬ ((i:Int)<z.mem.length):=by rw[vY.out];exact k1
       have HE:=dP (eP Qe.out qU.out);rw[jK.out] at c2;go_wp2;go_ret
       exact⟨rfl,HE.out⟩
end
section
open Go.RowKit
theorem Uz.yU {w: aI} {a: Option Addr} {len cap: Nat} {zs: List Int} (h:Uz .u8 w a len cap zs):oC w a len (fun i=>zs.getD i 0):=by
 rcases h with ⟨rfl,rfl,rfl,rfl⟩|⟨x,rfl,hl,hm,hz,hcell,hwz⟩
 ·exact⟨fun i hi=>absurd hi (Nat.not_lt_zero _),.inl rfl⟩
 ·refine⟨fun i hi=>?_, ?_⟩
  ·have := bounds_u8 (hwz (zs.getD i 0) (by
    have hi':i<zs.length:=by omega
    simp[hi']))
   omega
  ·by_cases h0:len=0
   ·exact .inl h0
   ·obtain⟨b,off,spot⟩:=x
    have hc:=hcell 0 (by omega)
    have hspot:spot=ak:=by simpa[Addr.add] using World.cell?_spot hc
    subst hspot;refine .inr ⟨b,off,rfl,fun i hi=>?_⟩
    have:=hcell i (by omega)
    by_cases hi0:i=0
    ·subst hi0;simpa[Addr.add] using this
    ·simpa[Addr.add,hi0] using this
end
section
attribute [local irreducible] sv
def VoQ (m:Mb) (w0 X0:aI) (b1 b2:Nat) (b:Bool) (w':aI):Prop:=(b=aB->(gZ m=aB/\m.dR.all (hadB m.rows m.k)=aB)/\∃ a c f,w'.cell? ⟨b1,0,ak⟩=au (aj a (m.dR.map (nH m.rows m.k)).length c)/\eF.ow w' (ny (m.dR.map (nH m.rows m.k))) (aj a (m.dR.map (nH m.rows m.k)).length c) f/\∀ b,f b->w0.heap.size<=b/\b≠b1/\b≠b2)/\(b=aC->¬ (gZ m=aB/\m.dR.all (hadB m.rows m.k)=aB))/\eU (fun x=>x=b1) X0 w'
theorem ay8 (h:gZ m=aB/\m.dR.all (hadB m.rows m.k)=aB):Ip m=(m.dR.map (nH m.rows m.k)):=by rw[Ip,if_pos h.1,Vh,if_pos h.2]
theorem aI8 (h:¬ (gZ m=aB/\m.dR.all (hadB m.rows m.k)=aB)):Ip m=[]:=by
 unfold Ip Vh
 split
 ·rename_i h1
  rw[if_neg (fun h2=>h ⟨h1,h2⟩)]
 ·rfl
theorem Zf:MK:=by
 intro A m w hv;have hmf:∀ (fn:Fn) (first cap:Array Value) (w:aI),(Instr.makeFunc fn first cap).run aZ8 w=.ok (.func fn first cap) w:=fun _ _ _ _=>rfl
 have a1:=dX w (aH #[ah aA m.id,ah aA m.n,aj A.ra m.rows.length A.rc,aj A.sa m.dR.length A.sc,aF m.done] 47);have a2:=dX (w.alloc (aH #[ah aA m.id,ah aA m.n,aj A.ra m.rows.length A.rc,aj A.sa m.dR.length A.sc,aF m.done] 47)) (aH #[] 9);have a3:=dX ((w.alloc (aH #[ah aA m.id,ah aA m.n,aj A.ra m.rows.length A.rc,aj A.sa m.dR.length A.sc,aF m.done] 47)).alloc (aH #[] 9)) (aH #[aj (au ⟨w.heap.size+1,0,ak⟩) 0 0] 42);have hb1:=a1;have hb2:=eP hb1 a2;have hb3:=eP hb2 a3;have hx0:Bx (((w.alloc (aH #[ah aA m.id,ah aA m.n,aj A.ra m.rows.length A.rc,aj A.sa m.dR.length A.sc,aF m.done] 47)).alloc (aH #[] 9)).alloc (aH #[aj (au ⟨w.heap.size+1,0,ak⟩) 0 0] 42)) w.heap.size 47 #[ah aA m.id,ah aA m.n,aj A.ra m.rows.length A.rc,aj A.sa m.dR.length A.sc,aF m.done]:=((Bx.new w 47 #[ah aA m.id,ah aA m.n,aj A.ra m.rows.length A.rc,aj A.sa m.dR.length A.sc,aF m.done]).alloc (aH #[] 9)).alloc (aH #[aj (au ⟨w.heap.size+1,0,ak⟩) 0 0] 42)
 have hx1:Bx (((w.alloc (aH #[ah aA m.id,ah aA m.n,aj A.ra m.rows.length A.rc,aj A.sa m.dR.length A.sc,aF m.done] 47)).alloc (aH #[] 9)).alloc (aH #[aj (au ⟨w.heap.size+1,0,ak⟩) 0 0] 42)) (w.heap.size+1+1) 42 #[aj (au ⟨w.heap.size+1,0,ak⟩) 0 0]:=by
  have:=Bx.new ((w.alloc (aH #[ah aA m.id,ah aA m.n,aj A.ra m.rows.length A.rc,aj A.sa m.dR.length A.sc,aF m.done] 47)).alloc (aH #[] 9)) 42 #[aj (au ⟨w.heap.size+1,0,ak⟩) 0 0];simp only[aU1] at this;exact this
 have hsz:(((w.alloc (aH #[ah aA m.id,ah aA m.n,aj A.ra m.rows.length A.rc,aj A.sa m.dR.length A.sc,aF m.done] 47)).alloc (aH #[] 9)).alloc (aH #[aj (au ⟨w.heap.size+1,0,ak⟩) 0 0] 42)).heap.size=w.heap.size+1+1+1:=by simp only[aU1]
 have a4:=dX (((w.alloc (aH #[ah aA m.id,ah aA m.n,aj A.ra m.rows.length A.rc,aj A.sa m.dR.length A.sc,aF m.done] 47)).alloc (aH #[] 9)).alloc (aH #[aj (au ⟨w.heap.size+1,0,ak⟩) 0 0] 42)) (aH #[aF aC] 4);have hb4:=eP hb3 a4;have hO0:eF.ow ((((w.alloc (aH #[ah aA m.id,ah aA m.n,aj A.ra m.rows.length A.rc,aj A.sa m.dR.length A.sc,aF m.done] 47)).alloc (aH #[] 9)).alloc (aH #[aj (au ⟨w.heap.size+1,0,ak⟩) 0 0] 42)).alloc (aH #[aF aC] 4)) (ny []) (aj (au ⟨w.heap.size+1,0,ak⟩) 0 0) (fun _=>False):=qI.2 ⟨_,0,ak,rfl,iV.nil _ _ (kV _ _),fun b=>by simp⟩
 have hT:=Iq 47 #[] #[.pointer (au ⟨w.heap.size,0,ak⟩),.pointer (au ⟨w.heap.size+1+1,0,ak⟩)] (((w.alloc (aH #[ah aA m.id,ah aA m.n,aj A.ra m.rows.length A.rc,aj A.sa m.dR.length A.sc,aF m.done] 47)).alloc (aH #[] 9)).alloc (aH #[aj (au ⟨w.heap.size+1,0,ak⟩) 0 0] 42)) (fun b X=>VoQ m w ((((w.alloc (aH #[ah aA m.id,ah aA m.n,aj A.ra m.rows.length A.rc,aj A.sa m.dR.length A.sc,aF m.done] 47)).alloc (aH #[] 9)).alloc (aH #[aj (au ⟨w.heap.size+1,0,ak⟩) 0 0] 42)).alloc (aH #[aF aC] 4)) (w.heap.size+1+1) (((w.alloc (aH #[ah aA m.id,ah aA m.n,aj A.ra m.rows.length A.rc,aj A.sa m.dR.length A.sc,aF m.done] 47)).alloc (aH #[] 9)).alloc (aH #[aj (au ⟨w.heap.size+1,0,ak⟩) 0 0] 42)).heap.size b X) (fun _ _=>enters_of Tryz.func47 (by kernel_rfl) rfl _ _)
  ((ag5 A m w.heap.size (w.heap.size + 1 + 1) (((w.alloc (aH #[ah aA m.id,ah aA m.n,aj A.ra m.rows.length A.rc,aj A.sa m.dR.length A.sc,aF m.done] 47)).alloc (aH #[] 9)).alloc (aH #[aj (au ⟨w.heap.size + 1,0,ak⟩) 0 0] 42)).heap.size (au ⟨w.heap.size + 1,0,ak⟩) 0 (fun _ => False) w _ hv hb4 (hx0.below a4) (hx1.below a4) hO0 (fun b h => h.elim) (by omega) (by omega) (fun h => h) (Bx.new (((w.alloc (aH #[ah aA m.id,ah aA m.n,aj A.ra m.rows.length A.rc,aj A.sa m.dR.length A.sc,aF m.done] 47)).alloc (aH #[] 9)).alloc (aH #[aj (au ⟨w.heap.size + 1,0,ak⟩) 0 0] 42)) 4 #[aF aC]).lt).mono (fun e w' ⟨h1,h2⟩ => by
   have h2':eU (fun x=>x=w.heap.size+1+1) ((((w.alloc (aH #[ah aA m.id,ah aA m.n,aj A.ra m.rows.length A.rc,aj A.sa m.dR.length A.sc,aF m.done] 47)).alloc (aH #[] 9)).alloc (aH #[aj (au ⟨w.heap.size+1,0,ak⟩) 0 0] 42)).alloc (aH #[aF aC] 4)) w':=h2.mono (fun b _ h=>h.elim id False.elim)
   rcases h1 with ⟨q1,q2,q3,q4⟩|⟨q1,q2⟩
   ·exact .inl ⟨q3,fun _=>⟨⟨q1,q2⟩,q4⟩,(fun h=>by cases h),h2'⟩
   ·exact .inr ⟨q2,(fun h=>by cases h),fun _=>q1,h2'⟩)) (fun b X h=>(Bx.new (((w.alloc (aH #[ah aA m.id,ah aA m.n,aj A.ra m.rows.length A.rc,aj A.sa m.dR.length A.sc,aF m.done] 47)).alloc (aH #[] 9)).alloc (aH #[aj (au ⟨w.heap.size+1,0,ak⟩) 0 0] 42)) 4 #[aF aC]).wrt h.2.2 (fun k=>by omega))
 have HB4:=dP hb4;have zy:=dP hsz;clear a1 a2 a3 a4 hb1 hb2 hb3 hx0 hx1 hb4 hO0 hv hsz;unfold iL ig;go_enter Tryz.func15,Tryz.ntmps15
 go_wp2_with fail
 generalize (((w.alloc (aH #[ah aA m.id,ah aA m.n,aj A.ra m.rows.length A.rc,aj A.sa m.dR.length A.sc,aF m.done] 47)).alloc (aH #[] 9)).alloc (aH #[aj (au ⟨w.heap.size+1,0,ak⟩) 0 0] 42))=W0 at *;refine hT.mono ?_;rintro e Y ⟨b,X,rfl,⟨hQ1,hQ2,TJ⟩,Hf⟩;have hs:=zy.out;have Cm:Below w.heap.size w X:=TJ.below HB4.out HB4.out.size (fun x e=>by omega)
 have Yi:Below w.heap.size w Y:=Hf.below Cm Cm.size (fun x e=>by omega)
 have MR:=dP Yi;clear hT TJ Cm Yi
 cases b with
 | true =>
  obtain⟨hy,a,c,f,hc,hO,hf⟩:=hQ1 rfl;have HZ:=dP (ay8 hy);have hbl:=World.block_lt_of_cell? _ _ hc;have hc2:Y.cell? ⟨w.heap.size+1+1,0,ak⟩=au (aj a (m.dR.map (nH m.rows m.k)).length c):=(World.cell?_of_block (Hf.block _ hbl (by show ¬ (w.heap.size+1+1=W0.heap.size);omega))).trans hc
  have HO:aG (eF.ow Y (ny (m.dR.map (nH m.rows m.k))) (aj a (m.dR.map (nH m.rows m.k)).length c) f):=eF.lC hO Hf (fun b hb e=>(hf b hb).2.2 e)
  have HF:aG (∀ b,f b->w.heap.size<=b):=fun b hb=>(hf b hb).1
  clear hQ1 hQ2 hc hO hf hy Hf;generalize (m.dR.map (nH m.rows m.k))=TT at *;go_wp2;go_ret
  rw[HZ.out];exact⟨a,c,rfl,f,HO.out,HF.out,MR.out⟩
 | false =>
  have HZ:=dP (aI8 (hQ2 rfl));clear hQ1 hQ2 Hf;go_wp2;go_ret
  rw[HZ.out];exact⟨au ⟨Y.heap.size,0,ak⟩,0,rfl,fun _=>False,qI.2 ⟨_,0,ak,rfl,iV.nil _ _ (kV _ _),fun b=>by simp⟩,fun b h=>h.elim,MR.out.trans ((dX Y _).mono MR.out.size)⟩
end
end Go.Proofs.YtafimeakbdmkjaaGreat