/-
  Texts in one.
-/
import Derived.Test.YtafimeakbdmkjaaGreatZak
import Derived.Test.YtafimeakbdmkjaaGreatZaj
import Derived.Test.YtafimeakbdmkjaaGreatZai
import Derived.Test.YtafimeakbdmkjaaGreatZal
import Derived.Test.YtafimeakbdmkjaaGreatZah
import Derived.Test.YtafimeakbdmkjaaGreatZag
import Derived.Test.YtafimeakbdmkjaaGreatZaf
import Derived.Test.YtafimeakbdmkjaaGreatZae
import Derived.Test.YtafimeakbdmkjaaGreatZac
import Derived.Test.YtafimeakbdmkjaaGreatZab
import Derived.Test.YtafimeakbdmkjaaGreatZad
import Derived.Test.YtafimeakbdmkjaaGreatZaa
import Derived.Deep.CutRange
import Derived.Deep.LoopGhost
import Derived.BigQuiet
import Derived.Deep.RegionHeld3
namespace Go.Proofs.YtafimeakbdmkjaaGreat
set_option linter.unusedVariables false
set_option linter.unusedSimpArgs false
open Go.RowKit Go.Sort
set_option maxRecDepth 100000
set_option maxHeartbeats 12800000
theorem Mw.call {w X:World} {B o:Nat} {m:Mb} {fp:Fp} {g off c:Nat} (h:Mw w X B o m fp g off c):∃ dD,dN X B o (gW m) dD∧(∀ b,dD b→fp b∨w.heap.size≤b)∧∀ (Y:World) (m':Mb),m'.rows.length=m.rows.length→Mk X Y B o m' dD→Mw w Y B o m' fp g off c:=by
 obtain⟨dD,hp,hf1,hgo⟩:=h.bU.next;exact⟨dD,hp,hf1,fun Y m' hl hk=>⟨hgo Y _ rfl hk.bU,by rw[hk.rws,h.rws,hl]⟩⟩
theorem dL.sz {r:Rw} {n:Nat} (h:dL r n):iy r≤1048576:=by
 have h5:=h.n5;have h1:=h.gl;have h2:=h.sl;have h3:=h.ml;have h4:=h.tl;have h6:yt r.txt r.txt.length≤r.txt.length*20:=yQ (fun i hi=>h.ts _ (by rw[List.getD_eq_getElem?_getD,List.getElem?_eq_getElem hi];exact List.getElem_mem hi)) _ (Nat.le_refl _)
 unfold iy;omega
theorem Ih (B o:Nat) (m:Mb) (i n:Nat) (fp:Fp) (w:World) (h:dN w B o (gW m) fp) (ok:dO m i n) :
  Calls Tryz.prog 77 #[.pointer (some ⟨B,o,none⟩)] w fun e w'=>e=.returned (.tuple #[])∧bC w w' B o (gW (bJ m)) fp:=by
 have bH:=dH;have hil:i<m.rows.length:=by rw[ok.len];exact ok.lt
 obtain⟨g,off,c,M0⟩:=Mw.start h (by omega)
 obtain⟨c0,c1,c4⟩:=M0.id';have c2:=M0.rws;rw[ok.hid] at c0;have i0:(0:Int)≤(i:Int):=by omega
 have i1:(i:Int)<(m.rows.length:Int):=by omega
 have p0:∀ q:Bk w,q.w.cell? ⟨B,o,none⟩=_:=fun q=>(q.h.cell (World.block_lt_of_cell? _ _ c0)).trans c0
 have p2:∀ q:Bk w,q.w.cell? ⟨B,o+2,none⟩=_:=fun q=>(q.h.cell (World.block_lt_of_cell? _ _ c2)).trans c2
 have ig:=aj M0;clear c0 c1 c4 c2 M0 h;go_enter Tryz.func77,Tryz.ntmps77
 go_wp2_with fail
 refine eU ?_;repeat (go_big_quiet_step ((first|rfl)))
 refine wpQuiet_nil (dK fun wE aJ=>?_)
 clear p0 p2;have bF:=aj (ig.out.step aJ);obtain⟨c0,c1,c4⟩:=bF.out.id';obtain⟨Ak,⟨⟨d0,d1,d2,d3⟩,d4,d5,d6,d7⟩,hrs⟩:=bF.out.row ok.fit hil;have hr:=ok.ok i ok.lt;have jA:Hid (m.done=true∨(ah m.rows i).ver=1000000→bJ m=m):=fun h=>by rw[bJ,if_pos (by rw[ok.own];exact h)]
 have uU:Hid (¬ (m.done=true∨(ah m.rows i).ver=1000000)→bJ m={ m with rows:=m.rows.set i (iD m),au:=if gK m=true then gG (dX m) (aV m).aA else dX m,done:=gK m }):=fun h=>by rw[bJ,if_neg (by rw[ok.own];exact h),ok.i]
 cases hdn:m.done with
 | true =>
  have HZ:=aj (jA.out (.inl hdn));rw[hdn] at c4;clear jA uU hrs d0 d1 d2 d3 d4 d5 d6 d7 c0 c1 hdn;go_wp2
  (try simp only[Exit.inBlock,Exit.then])
  refine bodyPost_ret (results_none rfl _ _ _) rfl ?_;rw[HZ.out];exact⟨rfl,bF.out.bU⟩
 | false =>
 rw[hdn] at c4;by_cases gU:(ah m.rows i).ver=1000000
 ·have HZ:Hid (bJ m=m):=jA.out (.inr gU)
  have ev:((ah m.rows i).ver==1000000)=true:=by rw[gU];rfl
  clear jA uU hrs d1 d2 d3 d4 d5 d6 d7 c0 c1 hdn gU;go_wp2
  (try simp only[Exit.inBlock,Exit.then])
  refine bodyPost_ret (results_none rfl _ _ _) rfl ?_;rw[HZ.out];exact⟨rfl,bF.out.bU⟩
 have ev:((ah m.rows i).ver==1000000)=false:=by simpa using gU
 have G:=zG ok hdn;have HZ:Hid (bJ m=_):=uU.out (by rw[hdn];simp;exact gU)
 have Za:=aj gU;have HDN:=aj hdn;have hC:=Ba Ak (ah m.rows i) wE hrs hr.ln.1 hr.ln.2.1 hr.ln.2.2.1 hr.ln.2.2.2;unfold bV bD at hC;clear jA uU gU hdn;go_wp2_with fail
 refine hC.mono ?_;rintro e w1 ⟨Ao,rfl,hN⟩;have yH:=aj hN;clear hN hC hrs d0 d1 d2 d3 d4 d5 d6 d7 c0 c1 c4;unfold bV bD;go_wp2_with fail
 have hb1:Below wE.heap.size wE w1:=by obtain⟨_,_,_,hb⟩:=yH.out;exact hb
 have hb5:Below wE.heap.size wE (w1.alloc (.cells #[.int .i64 (ah m.rows i).ver,.slice Ao.ta (ah m.rows i).txt.length Ao.tc,.slice Ao.ga (ah m.rows i).got.length Ao.gc,.slice Ao.sa (ah m.rows i).ak.length Ao.sc,.bool (ah m.rows i).wed,.bool (ah m.rows i).aB,.int .i64 (ah m.rows i).aC,.slice Ao.ma (ah m.rows i).aA.length Ao.mc] 44)):=hb1.trans ((aF w1 _).mono hb1.size);have hx5:Bx (w1.alloc (.cells #[.int .i64 (ah m.rows i).ver,.slice Ao.ta (ah m.rows i).txt.length Ao.tc,.slice Ao.ga (ah m.rows i).got.length Ao.gc,.slice Ao.sa (ah m.rows i).ak.length Ao.sc,.bool (ah m.rows i).wed,.bool (ah m.rows i).aB,.int .i64 (ah m.rows i).aC,.slice Ao.ma (ah m.rows i).aA.length Ao.mc] 44)) w1.heap.size 44 #[.int .i64 (ah m.rows i).ver,.slice Ao.ta (ah m.rows i).txt.length Ao.tc,.slice Ao.ga (ah m.rows i).got.length Ao.gc,.slice Ao.sa (ah m.rows i).ak.length Ao.sc,.bool (ah m.rows i).wed,.bool (ah m.rows i).aB,.int .i64 (ah m.rows i).aC,.slice Ao.ma (ah m.rows i).aA.length Ao.mc]:=Bx.new w1 _ _;have hi5:It (w1.alloc (.cells #[.int .i64 (ah m.rows i).ver,.slice Ao.ta (ah m.rows i).txt.length Ao.tc,.slice Ao.ga (ah m.rows i).got.length Ao.gc,.slice Ao.sa (ah m.rows i).ak.length Ao.sc,.bool (ah m.rows i).wed,.bool (ah m.rows i).aB,.int .i64 (ah m.rows i).aC,.slice Ao.ma (ah m.rows i).aA.length Ao.mc] 44)) (fM (ah m.rows i)) (fC Ao (ah m.rows i)) wE.heap.size w1.heap.size:=(It.aj9 yH.out).below (aF w1 _);generalize w1.alloc (.cells #[.int .i64 (ah m.rows i).ver,.slice Ao.ta (ah m.rows i).txt.length Ao.tc,.slice Ao.ga (ah m.rows i).got.length Ao.gc,.slice Ao.sa (ah m.rows i).ak.length Ao.sc,.bool (ah m.rows i).wed,.bool (ah m.rows i).aB,.int .i64 (ah m.rows i).aC,.slice Ao.ma (ah m.rows i).aA.length Ao.mc] 44)=W5 at *;obtain⟨gy,f1,f2,f3,M5,f5⟩:=bF.out.sub hb5;have ao7:Hid (∀ (Y:World) (m':Mb),Mw W5 Y B o m' gy g off c→Mw w Y B o m' fp g off c):=f5;have ao8:Hid (∀ (Y:World) (m':Mb),Mw W5 Y B o m' gy g off c→Bx Y w1.heap.size 44 #[.int .i64 (ah m.rows i).ver,.slice Ao.ta (ah m.rows i).txt.length Ao.tc,.slice Ao.ga (ah m.rows i).got.length Ao.gc,.slice Ao.sa (ah m.rows i).ak.length Ao.sc,.bool (ah m.rows i).wed,.bool (ah m.rows i).aB,.int .i64 (ah m.rows i).aC,.slice Ao.ma (ah m.rows i).aA.length Ao.mc]∧nJ Y Ao (ah m.rows i)):=fun Y m' hY=>⟨hY.bx hx5 (fun h=>by have:=f1 _ h;have:=hb1.size;omega) (by have:=hb1.size;omega),Jv (hi5.wrt hY.bU.wrt (fun b hb=>.inl (by rcases hb with hb|hb;exact f1 b hb;rw[hb];exact f2))) hr.fit hr.sz⟩
 obtain⟨fq,hpq,_,wQ⟩:=M5.call;have hL:=SB B o m i n fq W5 hpq ok;rw[← G.e1] at hL;refine hL.mono ?_;rintro e X1 ⟨rfl,hk1⟩;have gJ:=aj (wQ X1 _ (jD _) hk1);have HVR:Hid (0≤(ah m.rows i).ver∧(ah m.rows i).ver<1000000):=by have h1:=hr.ver;have h2:=Za.out;rw[Hid];omega
 have fG:=ok.n5;generalize w1.heap.size=ob at *;clear hL hk1 hpq wQ M5 f5 f1 f2 f3 hb5 hx5 hi5 hb1 yH bF ig aJ hr Za ev;have hls:∀ r:Rw,(m.rows.set i r).length=m.rows.length:=fun r=>List.length_set
 have hs:∀ r:Rw,ah (m.rows.set i r) i=r:=fun r=>dM hil
 have qV:=aj hls;have HSL:=aj hs;clear hls hs;obtain⟨_,_,w4,_,⟨rfl,_⟩,_⟩:=gJ.out.at (k:=i) (by simp only[qV.out];exact hil) (j:=4) (cl:=.v (.bool (aT m).wed)) (by simp only[HSL.out];rfl)
 obtain⟨b1,hb1⟩:∃ b:Bool,Hid ((aT m).wed=b):=⟨_,rfl⟩;rw[hb1.out] at w4
 go_upto_if 36 with fail
 clear w4
 go_cut [4] from 37 to 69 (fun _ wx=>Mw W5 wx B o { m with rows:=m.rows.set i (bY m),au:=dX m } gy g off c)
 case first =>
  cases b1 with
  | true =>
   obtain⟨e2,eS⟩:=G.wd hb1.out;have HE:Hid (Mw W5 X1 B o { m with rows:=m.rows.set i (bY m),au:=dX m } gy g off c):=by rw[Hid,e2,eS];exact gJ.out
   clear e2 eS;go_wp2;go_meet
   case rel=>exact HE.out
  | false =>
   obtain⟨e2,az6,eS⟩:=G.uw hb1.out;have HE2:=aj e2;have HES:=aj eS;have hgl:(aT m).got.length=n:=by have:=(G.ok1.ok i ok.lt).gl;simp only[HSL.out] at this;exact this
   have YJ:Hid (∀ (j:Nat) (r:Rw),r.txt=(aT m).txt→(ah (m.rows.set i r) j).txt=(ah m.rows j).txt):=fun j r hr=>by
    rw[bZ hil]
    split
    ·rename_i h;rw[h,hr,G.e1];exact (mO _ _ _ _).txt
    ·rfl
   have HGB:Hid (∀ j,j<n→0≤el (aT m).got j∧el (aT m).got j≤12):=fun j hj=>by have:=(G.ok1.ok i ok.lt).g j hj;simp only[HSL.out] at this;exact this
   have HTB:Hid (∀ j,j<n→(ah m.rows j).txt.length≤12):=fun j hj=>(ok.ok j hj).tl
   clear e2 eS;go_wp2_with fail
   go_loopw [4] (fun k wr=>∃ j:Nat,j≤n∧k=.int .i64 (j:Int)∧Mw W5 wr B o { m with rows:=m.rows.set i { aT m with got:=gV m.rows (aT m) n j } } gy g off c) (fun k _=>n-(intOf k).toNat)
   case atStart=>exact⟨0,Nat.zero_le _,rfl,by rw[Ic hgl];exact gJ.out⟩
   case round =>
    obtain⟨j,hj,rfl,M⟩:=hrel;have HM:=aj M;obtain⟨c0,c1,c4⟩:=M.id';simp only at c1
    rw[ok.hn] at c1;by_cases hlt:j<n
    ·have j1:(j:Int)<(n:Int):=by omega
     have j0:(0:Int)≤(j:Int):=by omega
     have j2:(j:Int)<(m.rows.length:Int):=by rw[ok.len];exact j1
     have hjl:j<m.rows.length:=by rw[ok.len];exact hlt
     have c2:=M.rws;simp only[qV.out] at c2;obtain⟨_,_,hu1,_,ao9,_⟩:=M.at (k:=j) (by simp only[qV.out];exact hjl) (j:=1) (cl:=lM (ah (m.rows.set i { aT m with got:=gV m.rows (aT m) n j }) j).txt) rfl
     obtain⟨ta,tc,_,rfl,_⟩:=oJ.1 ao9;rw[YJ.out j { aT m with got:=gV m.rows (aT m) n j } rfl] at hu1
     have DF:j<(gV m.rows (aT m) n j).length:=by rw[nD];exact hlt
     obtain⟨_,_,hu2,_,yA,_⟩:=M.at (k:=i) (by simp only[qV.out];exact hil) (j:=2) (cl:=bQ (gV m.rows (aT m) n j)) (by simp only[HSL.out];rfl)
     obtain⟨gb,go,gc,rfl,_,hge,_,_⟩:=jh yA DF;rw[nD] at hu2;rw[Ou hlt,if_neg (Nat.lt_irrefl _)] at hge;have CM:∀ q:Bk wr,Calls Tryz.prog 30 #[.int .i64 (el (aT m).got j),.int .i64 ((ah m.rows j).txt.length:Int)] q.w fun e w'=>e=.returned (.int .i64 (max (el (aT m).got j) ((ah m.rows j).txt.length:Int)))∧Below q.w.heap.size q.w w':=fun q=>(Aw _ _ q.w).mono (fun e w' h=>⟨h.1,by rw[h.2];exact Below.refl _ _⟩)
     have T:∀ {x v},wr.cell? x=some v→∀ q:Bk wr,q.w.cell? x=some v:=fun h q=>(q.h.cell (World.block_lt_of_cell? _ _ h)).trans h
     have p2:=T c2;have q1:=T hu1;have q2:=T hu2;have q3:=T hge;have HGP:Hid ((gV m.rows (aT m) n j).set j (max (el (aT m).got j) ((ah m.rows j).txt.length:Int))=gV m.rows (aT m) n (j+1)):=Ie hlt;have wj:wrap64 ((j:Int)+1)=(j:Int)+1:=by unfold wrap64;omega
     clear c0 c4 c2 hu1 ao9 hu2 yA hge T M;generalize hmx:max (el (aT m).got j) ((ah m.rows j).txt.length:Int)=mx at *;generalize el (aT m).got j=x at *;go_wp2_with fail
     clear c1;refine bK (C:=fun w'=>∃ p:Bk wr,w'=p.w) 23 bH (by kernel_rfl) ⟨⟨wr.drewN 1,bg (Below.refl _ _)⟩,rfl⟩ ?_
     simp only[List.take_succ_cons,List.take_zero]
     repeat (go_big_quiet_step ((first|(go_at_call 30;exact aQ _ (CM _))|rfl)))
     refine wpQuiet_nil (dK fun wE aJ=>?_)
     simp only[List.drop_succ_cons,List.drop_zero]
     have hu3:=q2 ⟨wE,aJ⟩;simp only at hu3
     have M3:=HM.out.step aJ;obtain⟨u,f3,hu,hfz,how,hlt3,hset⟩:=M3.at (k:=i) (by simp only[qV.out];exact hil) (j:=2) (cl:=bQ (gV m.rows (aT m) n j)) (by simp only[HSL.out];rfl)
     obtain rfl:=Option.some.inj (hu.symm.trans hu3);obtain⟨gb',go',gc',e4,Qm,hge,hgz,hgs⟩:=jh how DF;rw[nD] at e4
     cases e4
     obtain⟨k1,k2⟩:=hgs mx;obtain⟨_,_,_,sH⟩:=hset _ (bQ ((gV m.rows (aT m) n j).set j mx)) _ f3 { aT m with got:=(gV m.rows (aT m) n j).set j mx } (by simp only[HSL.out];rfl) k2 k1 (fun b hb=>.inl hb)
     have iR:Hid (Mw W5 (wE.setCell ⟨gb,go+j,none⟩ (.int .i64 mx)) B o { m with rows:=m.rows.set i { aT m with got:=gV m.rows (aT m) n (j+1) } } gy g off c):=by
      have:=sH rfl;simp only[List.set_set] at this;rw[HGP.out] at this;exact this
     clear sH hgs k1 k2 hset M3 how hu hu3 hfz p2 q1 q2 q3 hlt3 CM;go_wp2;go_roundw
     case rel=>exact⟨j+1,by omega,by go_num,iR.out⟩
     case measure=>simp[intOf];omega
    ·have j1:¬ ((j:Int)<(n:Int)):=by omega
     obtain rfl:j=n:=by omega
     have M2:Mw W5 wr B o { m with rows:=m.rows.set i (bY m) } gy g off c:=by
      have:=HM.out;rw[KW,← HE2.out] at this;exact this
     obtain⟨fq,hpq,_,wQ⟩:=M2.call;have hS:=SG B o _ i j fq wr hpq az6;clear M c0 c4;go_wp2_with fail
     refine hS.mono ?_;rintro e X2 ⟨rfl,hk2⟩
     have HE:Hid (Mw W5 X2 B o { m with rows:=m.rows.set i (bY m),au:=dX m } gy g off c):=by
      have:=wQ X2 _ rfl hk2;rw[← HES.out] at this;exact this
     clear hS hk2 hpq wQ M2;go_wp2;go_meet
     case rel=>exact HE.out
 case rest =>
  have lT:=aj hcut;clear hcut gJ;generalize wc=X2 at *;have Zb:=Ht W5 B o _ i n gy g off c X2 lT.out G.ok2;simp only[HSL.out] at Zb;rw[← G.eL] at Zb;go_wp2_with fail
  refine Zb.mono ?_;rintro e X3 ⟨la,lc,rfl,fl,hl1,hl2,hbl⟩;obtain⟨zY,g1,g2,g3,M7,g5⟩:=lT.out.sub hbl;have ap0:=aj g5;have ap1:=aj (aI.iT hl1);have zU:Hid (∀ b,fl b→¬ zY b∧b≠B):=fun b hb=>⟨fun k=>by have:=g1 b k;have:=hl2 b hb;omega,fun k=>by have:=hl2 b hb;omega⟩
  rw[eP] at hl1 ⊢;have Qx:Hid (∀ (Y:World) (m':Mb),Mw X3 Y B o m' zY g off c→aI.ow Y (bQ (lN (fV m))) (.slice la (fV m).length lc) fl):=fun Y m' hY=>hY.Ob hl1 zU.out
  obtain⟨hL0,hLh,Fe,hLm⟩:=Ig G.mem;have Qy:∀ k∈fV m,k<n:=fun k hk=>by rw[G.eL] at hk;exact (dY.1 hk).1
  have hLn:(fV m).length≤n:=by rw[G.eL];exact oP _ _
  have HL0:Hid (∀ (Y:World) (m':Mb),Mw X3 Y B o m' zY g off c→∃ lb lo,la=some ⟨lb,lo,none⟩∧Y.cell? ⟨lb,lo,none⟩=some (.int .i64 (((fV m).getD 0 0:Nat):Int))):=fun Y m' hY=>by
   have hv:=jo (by rw[eP];exact Qx.out Y m' hY) (sW Qy (by omega))
   rcases hv.2.2 with hz|⟨lb,lo,rfl,hlc⟩
   ·rw[eP] at hz;omega
   have hlk:=hlc 0 (by rw[eP];exact hL0)
   rw[rX hL0] at hlk;exact⟨lb,lo,rfl,hlk⟩
  have HE3:=G.e3;have Fg:=G.e4;rw[Fe] at Fg;have Zc:Hid (dF m=if (bY m).wed=true∧n<2*(fV m).length∧(fV m).getD 0 0=i then lead (m.rows.set i (bY m)) i (bY m) (fV m) else bY m):=by rw[Hid,HE3];simp only[hLh]
  have HH4:Hid (aV m=if (dF m).wed=true∧(fV m).getD 0 0≠i then adopt (m.rows.set i (dF m)) i (dF m) ((fV m).getD 0 0) else dF m):=by rw[Hid,Fg];simp only[ne_eq,hLh]
  have HLm:=aj (Qy _ hLm);have HeE:=aj G.eE;have ap2:=aj Qy;have HLp:=aj hL0;have zV:=aj M7;clear HE3 Fg hLh Fe hLm Qy hl1 hl2 hbl M7 g5 g1 g2 g3 Zb lT;obtain⟨lb,lo,rfl,_⟩:=HL0.out X3 _ zV.out
  have uI:Hid (∀ (Y:World) (m':Mb),Mw X3 Y B o m' zY g off c→Y.cell? ⟨lb,lo,none⟩=some (.int .i64 (((fV m).getD 0 0:Nat):Int))):=fun Y m' hY=>by
   obtain⟨lb',lo',e,hc⟩:=HL0.out Y m' hY
   cases e
   exact hc
  have hw2:wrap64 (2*((fV m).length:Int))=2*((fV m).length:Int):=by unfold wrap64;omega
  have i0L:(0:Int)<((fV m).length:Int):=by omega
  clear HL0;generalize Dq:fV m=L at *;generalize hF:L.getD 0 0=F at *;have HFe:=aj hF;clear hF hL0 Dq
  -- the first of those left leads
  obtain⟨_,_,w4,_,⟨rfl,_⟩,_⟩:=zV.out.at (k:=i) (by simp only[qV.out];exact hil) (j:=4) (cl:=.v (.bool (bY m).wed)) (by simp only[HSL.out];rfl)
  obtain⟨c0,c1,c4⟩:=zV.out.id';simp only at c0 c1
  rw[ok.hid] at c0;rw[ok.hn] at c1;obtain⟨b2,hb2⟩:∃ b:Bool,Hid ((bY m).wed=b):=⟨_,rfl⟩;rw[hb2.out] at w4;go_upto_region 11 with fail
  go_cut [85] from 72 to 85 (fun v wx=>v=.bool (b2&&decide ((n:Int)<2*(L.length:Int)))∧wx=X3)
  case first =>
   cases b2 with
   | true =>
    go_wp2_with fail
    go_meet
    case rel=>exact⟨by simp,rfl⟩
   | false =>
    go_wp2_with fail
    go_meet
    case rel=>exact⟨by simp,rfl⟩
  case rest =>
  obtain⟨rfl,hwx⟩:=hcut;obtain rfl:=hwx.symm;clear w4 hwx;generalize hd1:(b2&&decide ((n:Int)<2*(L.length:Int)))=d1 at *;have HD1:Hid ((bY m).wed=true∧n<2*L.length↔d1=true):=by rw[Hid,hb2.out,← hd1,Bool.and_eq_true,decide_eq_true_eq];constructor<;>rintro⟨h1,h2⟩<;>exact⟨h1,by omega⟩
  clear hd1
  go_upto_if 85 with fail
  go_cut [5] from 86 to 96 (fun v wx=>v=.slice (some ⟨lb,lo,none⟩) L.length lc∧Mw X3 wx B o { m with rows:=m.rows.set i (dF m),au:=dX m } zY g off c)
  case first =>
   cases d1 with
   | false =>
    have HE:Hid (dF m=bY m):=by
     rw[Hid,Zc.out,if_neg];rintro⟨h1,h2,_⟩;exact absurd (HD1.out.1 ⟨h1,h2⟩) (by simp)
    clear c0 c1 c4;go_wp2;go_meet
    case rel=>exact⟨rfl,by rw[HE.out];exact zV.out⟩
   | true =>
    obtain⟨hw,hn2⟩:=HD1.out.2 rfl;have l0:=uI.out X3 _ zV.out;have T:∀ {x v},X3.cell? x=some v→∀ q:Bk X3,q.w.cell? x=some v:=fun h q=>(q.h.cell (World.block_lt_of_cell? _ _ h)).trans h
    have p0:=T c0;have pl:=T l0;have HW:=aj hw;by_cases yO:F=i
    ·have e1:((F:Int)==(i:Int))=true:=by simp[yO]
     have HE:Hid (dF m=lead (m.rows.set i (bY m)) i (bY m) L):=by rw[Hid,Zc.out,if_pos ⟨hw,hn2,yO⟩]
     clear c0 c1 c4 l0 T hw hn2 yO;go_wp2_with fail
     refine eU ?_;repeat (go_big_quiet_step ((first|rfl)))
     refine wpQuiet_nil (dK fun wE aJ=>?_)
     have M8:=zV.out.step aJ;obtain⟨fq,hpq,Ov,wQ⟩:=M8.call
     have Fe := SS B o _ i n L (some ⟨lb,lo,none⟩) lc fl fq wE hpq G.ok2 (by simp only [HSL.out];exact HW.out) (Qx.out wE _ M8) (fun b hb => ⟨fun k => by
      rcases Ov b k with k|k
      ·exact (zU.out b hb).1 k
      ·have:=ap1.out b hb;omega,(zU.out b hb).2⟩) ap2.out HLp.out hLn
     clear p0 pl aJ M8 hpq Ov;go_wp2_with fail
     refine Fe.mono ?_;rintro e X4 ⟨rfl,hk⟩
     have Fg:Hid (Mw X3 X4 B o { m with rows:=m.rows.set i (dF m),au:=dX m } zY g off c):=by
      have:=wQ X4 _ (by simp only[qV.out,List.length_set]) hk
      simp only[HSL.out,List.set_set] at this;rw[← HE.out] at this;exact this
     clear Fe hk wQ;go_wp2;go_meet
     case rel=>exact⟨rfl,Fg.out⟩
    ·have e1:((F:Int)==(i:Int))=false:=by simp;omega
     have HE:Hid (dF m=bY m):=by rw[Hid,Zc.out,if_neg (fun h=>yO h.2.2)]
     clear c0 c1 c4 l0 T hw hn2 yO;go_wp2_with fail
     refine eU ?_;repeat (go_big_quiet_step ((first|rfl)))
     refine wpQuiet_nil (dK fun wE aJ=>?_)
     have Fg:Hid (Mw X3 wE B o { m with rows:=m.rows.set i (dF m),au:=dX m } zY g off c):=by rw[Hid,HE.out];exact zV.out.step aJ
     clear p0 pl aJ;go_wp2;go_meet
     case rel=>exact⟨rfl,Fg.out⟩
  case rest =>
  obtain⟨rfl,hcut⟩:=hcut;have Tv:=aj hcut;clear hcut zV c0 c1 c4 HD1;generalize wc=X4 at *
  -- another one leads
  obtain⟨_,_,w4,_,⟨rfl,_⟩,_⟩:=Tv.out.at (k:=i) (by simp only[qV.out];exact hil) (j:=4) (cl:=.v (.bool (dF m).wed)) (by simp only[HSL.out];rfl)
  obtain⟨c0,c1,c4⟩:=Tv.out.id';simp only at c0
  rw[ok.hid] at c0;have l0:=uI.out X4 _ Tv.out;obtain⟨b3,hb3⟩:∃ b:Bool,Hid ((dF m).wed=b):=⟨_,rfl⟩;rw[hb3.out] at w4;have T:∀ {x v},X4.cell? x=some v→∀ q:Bk X4,q.w.cell? x=some v:=fun h q=>(q.h.cell (World.block_lt_of_cell? _ _ h)).trans h
  have p0:=T c0;have pl:=T l0;have p4:=T w4;clear c0 c1 c4 l0 w4 T;go_upto_region 14 with fail
  go_cut [110] from 97 to 110 (fun v wx=>v=.bool (b3&&((F:Int) != (i:Int)))∧Below X4.heap.size X4 wx)
  case first =>
   cases b3 with
   | true =>
    refine eU ?_;repeat (go_big_quiet_step ((first|rfl)))
    refine wpQuiet_nil (dK fun wE aJ=>?_)
    try go_wp2_with fail
    go_meet
    case rel=>exact⟨by simp,aJ⟩
   | false =>
    refine eU ?_;repeat (go_big_quiet_step ((first|rfl)))
    refine wpQuiet_nil (dK fun wE aJ=>?_)
    try go_wp2_with fail
    go_meet
    case rel=>exact⟨by simp,aJ⟩
  case rest =>
  obtain⟨rfl,hbc⟩:=hcut;have Zd:=aj (Tv.out.step hbc);clear hbc Tv p0 pl p4;generalize wc=X5 at *;generalize hd2:(b3&&((F:Int) != (i:Int)))=d2 at *;have HD2:Hid ((dF m).wed=true∧F≠i↔d2=true):=by rw[Hid,hb3.out,← hd2,Bool.and_eq_true,bne_iff_ne];constructor<;>rintro⟨h1,h2⟩<;>exact⟨h1,by omega⟩
  clear hd2
  go_upto_if 110 with fail
  go_cut [5] from 111 to 115 (fun v wx=>v=.slice (some ⟨lb,lo,none⟩) L.length lc∧Mw X3 wx B o { m with rows:=m.rows.set i (aV m),au:=dX m } zY g off c)
  case first =>
   cases d2 with
   | false =>
    have HE:Hid (aV m=dF m):=by
     rw[Hid,HH4.out,if_neg];intro h;exact absurd (HD2.out.1 h) (by simp)
    go_wp2;go_meet
    case rel=>exact⟨rfl,by rw[HE.out];exact Zd.out⟩
   | true =>
    obtain⟨hw,yO⟩:=HD2.out.2 rfl;have HE:Hid (aV m=adopt (m.rows.set i (dF m)) i (dF m) F):=by rw[Hid,HH4.out,if_pos ⟨hw,yO⟩]
    have l0:=uI.out X5 _ Zd.out;obtain⟨fq,hpq,Ov,wQ⟩:=Zd.out.call;have hAd:=SH B o _ i n F fq X5 hpq G.Dl HLm.out yO;clear hpq Ov hw yO;go_wp2_with fail
    refine hAd.mono ?_;rintro e X6 ⟨rfl,hk⟩
    have Fg:Hid (Mw X3 X6 B o { m with rows:=m.rows.set i (aV m),au:=dX m } zY g off c):=by
     have:=wQ X6 _ (by simp only[qV.out,List.length_set]) hk
     simp only[HSL.out,List.set_set] at this;rw[← HE.out] at this;exact this
    clear hAd hk wQ l0;go_wp2;go_meet
    case rel=>exact⟨rfl,Fg.out⟩
  case rest =>
  obtain⟨rfl,hcut⟩:=hcut;have Ox:=aj hcut;clear hcut Zd HD2;generalize wc=X6 at *
  -- the end
  obtain⟨_,_,w5,_,⟨rfl,_⟩,_⟩:=Ox.out.at (k:=i) (by simp only[qV.out];exact hil) (j:=5) (cl:=.v (.bool (aV m).aB)) (by simp only[HSL.out];rfl)
  obtain⟨c0,c1,c4⟩:=Ox.out.id';simp only at c1
  rw[ok.hn] at c1;obtain⟨b4,hb4⟩:∃ b:Bool,Hid ((aV m).aB=b):=⟨_,rfl⟩;rw[hb4.out] at w5;clear c0 c4;go_upto_region 16 with fail
  go_cut [129] from 116 to 129 (fun v wx=>v=.bool (b4&&decide ((n:Int)<2*(L.length:Int)))∧wx=X6)
  case first =>
   cases b4 with
   | true =>
    go_wp2_with fail
    go_meet
    case rel=>exact⟨by simp,rfl⟩
   | false =>
    go_wp2_with fail
    go_meet
    case rel=>exact⟨by simp,rfl⟩
  case rest =>
  obtain⟨rfl,hwx⟩:=hcut;obtain rfl:=hwx.symm;clear w5 hwx c1;generalize hd3:(b4&&decide ((n:Int)<2*(L.length:Int)))=d3 at *
  have HD3:Hid (gK m=(d3&&ends (m.rows.set i (aV m)) i (aV m) L)):=by
   rw[Hid,HeE.out,hb4.out,← hd3];simp only[Bool.and_assoc]
   congr 2
   rw[decide_eq_decide];omega
  have HD4:Hid (d3=true→(aV m).aB=true):=fun h=>by rw[← hd3,Bool.and_eq_true] at h;rw[hb4.out];exact h.1
  clear hd3
  go_upto_if 129 with fail
  go_cut [5] from 130 to 132 (fun _ wx=>Mw X3 wx B o { m with rows:=m.rows.set i (aV m),au:=if gK m=true then gG (dX m) (aV m).aA else dX m,done:=gK m } zY g off c)
  case first =>
   cases d3 with
   | false =>
    have HE:Hid (Mw X3 X6 B o { m with rows:=m.rows.set i (aV m),au:=if gK m=true then gG (dX m) (aV m).aA else dX m,done:=gK m } zY g off c):=by
     have hE:gK m=false:=by rw[HD3.out];rfl
     have:=Ox.out;rw[HDN.out] at this;rw[Hid,hE,if_neg (by simp)]
     exact this
    go_wp2;go_meet
    case rel=>exact HE.out
   | true =>
    obtain⟨fq,hpq,Ov,wQ⟩:=Ox.out.call;have hEd:=S9 B o _ i n L (some ⟨lb,lo,none⟩) lc fl fq X6 hpq G.lW (by simp only[HSL.out];exact HD4.out rfl) (Qx.out X6 _ Ox.out) ap2.out hLn
    clear hpq Ov;go_wp2_with fail
    refine hEd.mono ?_;rintro e X7 ⟨rfl,hk⟩
    have HE:Hid (Mw X3 X7 B o { m with rows:=m.rows.set i (aV m),au:=if gK m=true then gG (dX m) (aV m).aA else dX m,done:=gK m } zY g off c):=by
     have hE:gK m=ends (m.rows.set i (aV m)) i (aV m) L:=by rw[HD3.out];rfl
     unfold E8 at hk;simp only[HSL.out] at hk;rw[← hE] at hk
     cases he:gK m with
     | true =>
      rw[he,if_pos rfl] at hk;rw[Hid,if_pos rfl];exact wQ X7 _ rfl hk
     | false =>
      rw[he,if_neg (by simp)] at hk
      have:=wQ X7 _ rfl hk;rw[HDN.out] at this;rw[Hid,if_neg (by simp)]
      exact this
    clear hEd hk wQ;go_wp2;go_meet
    case rel=>exact HE.out
  case rest =>
  have gu:=aj (ap0.out _ _ hcut);clear hcut Ox HD3 HD4 ap0 ap1 zU Qx uI Zc HH4;generalize wc=X7 at *;obtain⟨hxo,hro⟩:=ao8.out X7 _ gu.out;have hfit:kH { m with rows:=m.rows.set i (aV m),au:=if gK m=true then gG (dX m) (aV m).aA else dX m,done:=gK m }:=⟨G.lW.fit.1,by have:=(stepM ok).ok.fit.2;rw[HZ.out] at this;exact this⟩
  obtain⟨A9,⟨⟨d0,d1',d2',d3'⟩,d4,d5,d6,d7⟩,hrs⟩:=gu.out.row hfit (k:=i) (by simp only[qV.out];exact hil)
  simp only[HSL.out] at d0 d1' d2' d3' d4 d5 d6 d7 hrs;obtain⟨⟨x0,x1,x2,x3⟩,x4,x5,x6,x7⟩:=Bx.r8 hxo;obtain⟨sb,hsb⟩:∃ b:Bool,Hid (jI (ah m.rows i) (aV m)=b):=⟨_,rfl⟩
  have CS:∀ q:Bk X7,Calls Tryz.prog 122 #[bV Ao (ah m.rows i),bV A9 (aV m)] q.w fun e w'=>e=.returned (.bool sb)∧Below q.w.heap.size q.w w':=fun q=>by
   have:=VO Ao A9 (ah m.rows i) (aV m) q.w (hro.below q.h) (hrs.below q.h);rw[hsb.out] at this;exact this
  unfold bV bD at CS;have T:∀ {x v},X7.cell? x=some v→∀ q:Bk X7,q.w.cell? x=some v:=fun h q=>(q.h.cell (World.block_lt_of_cell? _ _ h)).trans h
  have y0:=T x0;have y1:=T x1;have y2:=T x2;have y3:=T x3;have y4:=T x4;have y5:=T x5;have y6:=T x6;have y7:=T x7;have z0:=T d0;have z1:=T d1';have z2:=T d2';have z3:=T d3';have z4:=T d4;have z5:=T d5;have z6:=T d6;have z7:=T d7;clear x0 x1 x2 x3 x4 x5 x6 x7 d0 d1' d2' d3' d4 d5 d6 d7 T hxo hro hrs hfit;go_wp2_with fail
  refine eU ?_;repeat (go_big_quiet_step ((first|(go_at_call 122;exact aQ _ (CS _))|rfl)))
  refine wpQuiet_nil (dK fun wE aJ=>?_)
  have HMf:=aj (gu.out.step aJ);clear y0 y1 y2 y3 y4 y5 y6 y7 z0 z1 z2 z3 z4 z5 z6 z7 CS aJ gu ao8;have Oy:=G.e5;rw[hsb.out] at Oy
  cases sb with
  | true =>
   have HE:Hid (bJ m={ m with rows:=m.rows.set i (aV m),au:=if gK m=true then gG (dX m) (aV m).aA else dX m,done:=gK m }):=by rw[Hid,HZ.out,Oy,if_pos rfl]
   clear Oy;go_wp2;go_end0;rw[HE.out];exact⟨rfl,(ao7.out _ _ HMf.out).bU⟩
  | false =>
   rw[if_neg (by simp)] at Oy
   obtain⟨v1,v2,jY⟩:=HMf.out.put (k:=i) (by simp only[qV.out];exact hil) (j:=0) (x:=.int .i64 (aV m).ver) (y:=.int .i64 ((aV m).ver+1)) (r':={ aV m with ver:=(aV m).ver+1 }) (by simp only[HSL.out];rfl) (by simp only[HSL.out];rfl)
   simp only[Nat.add_zero,List.set_set] at v1 v2 jY;have hwv:wrap64 ((aV m).ver+1)=(aV m).ver+1:=by rw[G.ver];have:=HVR.out;unfold wrap64;omega
   have HE:Hid (bC w (wE.setCell ⟨g,off+i*8,none⟩ (.int .i64 ((aV m).ver+1))) B o (gW (bJ m)) fp):=by
    rw[Hid,HZ.out,Oy];exact (ao7.out _ _ jY).bU
   clear jY Oy HMf;go_wp2;go_end0;exact⟨rfl,HE.out⟩
section
def pR (x:Ac):Array Value:=#[.int .i64 x.kind,.int .i64 x.a,.int .i64 x.b,.string (sv x.txt)]
def nZ (x:Ac):Value:=.agg (pR x)
theorem Bx.a4 {w:World} {B:Nat} {T:TypeId} {x0 x1 x2 x3:Value} (h:Bx w B T #[x0,x1,x2,x3]):w.cell? ⟨B,0,none⟩=some x0∧w.cell? ⟨B,1,none⟩=some x1∧w.cell? ⟨B,2,none⟩=some x2∧w.cell? ⟨B,3,none⟩=some x3 :=
 ⟨h.at 0 rfl,h.at 1 rfl,h.at 2 rfl,h.at 3 rfl⟩
def mQ (x:Ac) (y:Ml):Bool:=decide (y.fr=x.a∧y.to=x.b)
theorem KX {g:Gr} {x:Ac} (hk:x.kind=3):dQ g x=if jw g x=true then (match g.aG.findIdx? (mQ x) with|some i=>(iU g i,true)|none=>(g,false)) else (g,false):=by
 unfold dQ;rw[if_pos hk]
 rfl
theorem KY {g:Gr} {x:Ac} (hk:x.kind≠3) (h:inB x.a 0 ((g.mem.length:Int)-1)=false∨nM g x.a.toNat=false):dQ g x=(g,false):=by
 unfold dQ;rw[if_neg hk,if_pos h]
theorem uM {g:Gr} {x:Ac} (hk:x.kind≠3) (h1:inB x.a 0 ((g.mem.length:Int)-1)=true) (h2:nM g x.a.toNat=true):dQ g x =
  if x.kind=1 then (g.set x.a.toNat (bW (aN g x.a.toNat) x.txt).1,(bW (aN g x.a.toNat) x.txt).2)
  else if x.kind=2 then (if jw g x=true then (fZ g x.a x.b,true) else (g,false))
  else if x.kind=4 then (g.set x.a.toNat (bJ (aN g x.a.toNat)),true)
  else if x.kind=5 then (if jw g x=true then (g.set x.a.toNat (aW (aN g x.a.toNat) x.b).1,(aW (aN g x.a.toNat) x.b).2) else (g,false))
  else if x.kind=6 then ({ g with up:=g.up.set x.a.toNat false },true)
  else if x.kind=7 then (rO g x.a,true)
  else (g,false):=by
 unfold dQ;rw[if_neg hk,if_neg];rintro (h|h)
 ·rw[h1] at h;cases h
 ·rw[h2] at h;cases h
theorem Fh {g:Gr} {x:Ac} {k:Nat} (hk:k<g.aG.length) (h:∀ j,j<k→mQ x (aU g j)=false) (hy:mQ x (aU g k)=true):g.aG.findIdx? (mQ x)=some k:=by
 rw[List.findIdx?_eq_some_iff_getElem];refine⟨hk, ?_,fun j hj=>?_⟩
 ·have:=hy
  simpa[aU,List.getD,hk] using this
 ·have:=h j hj
  have hj2:j<g.aG.length:=by omega
  simpa[aU,List.getD,hj2] using this
theorem Ii {g:Gr} {x:Ac} (h:∀ j,j<g.aG.length→mQ x (aU g j)=false):g.aG.findIdx? (mQ x)=none:=by
 rw[List.findIdx?_eq_none_iff];intro y hy;obtain⟨j,hj,rfl⟩:=List.mem_iff_getElem.1 hy;have:=h j hj;simpa[aU,List.getD,hj] using this
attribute [local irreducible] sv
theorem Tz (B o:Nat) (g:Gr) (n:Nat) (x:Ac) (fp:Fp) (w:World) (h:dN w B o (dB g) fp) (ok:OkG g n) (ht:x.txt.length≤1000000000) :
  Calls Tryz.prog 55 #[.pointer (some ⟨B,o,none⟩),nZ x] w fun e w'=>e=.returned (.bool (dQ g x).2)∧bC w w' B o (dB (dQ g x).1) fp:=by
 have bH:=dH;have fG:=ok.n5;have Bd:=ok.lX;obtain⟨bb,off,c,G00⟩:=Gw.start h (by rw[ok.ml];omega)
 obtain⟨kd,xa,xb,tx⟩:=x;have hB0:=aF w (.cells #[.int .i64 kd,.int .i64 xa,.int .i64 xb,.string (sv tx)] 38);have hx:=Bx.new w 38 #[.int .i64 kd,.int .i64 xa,.int .i64 xb,.string (sv tx)];have G0:=G00.step hB0;unfold nZ pR;simp only
 generalize hW:w.alloc (.cells #[.int .i64 kd,.int .i64 xa,.int .i64 xb,.string (sv tx)] 38)=W at *;have HX:=aj hx;have HG:=aj G0;have cO:=aj ok;have c0:=G0.mem;rw[ok.ml] at c0;have yM:=aj ok.ml;have TA:=aj ok.ul
 have HFG : Hid (Bc g) := ⟨fun m hm => by
  obtain⟨j,hj,rfl⟩:=List.mem_iff_getElem.1 hm;have:=(ok.mem j (by rw[← ok.ml];exact hj)).fit
  simpa[aN,List.getD,hj] using this,fun y hy=>by obtain⟨_,_,_,_,_,_,_,R⟩:=ok.iP y hy;exact R.fit⟩
 obtain⟨x0,x1,x2,x3⟩:=Bx.a4 hx;have wn:wrap64 ((n:Int)-1)=(n:Int)-1:=by unfold wrap64;omega
 have Ze:Hid (jw g ⟨kd,xa,xb,tx⟩=(inB xa 0 ((n:Int)-1)&&(inB xb 0 ((n:Int)-1)&&decide (xa≠xb)))):=by rw[Hid,jw,ok.ml]
 have HTx:=aj ht;clear h hx hB0 G00 G0 ok;go_enter Tryz.func55,Tryz.ntmps55
 go_upto_region 2 with fail
 generalize htw:jw g ⟨kd,xa,xb,tx⟩=tw at *
 go_cut [6] from 13 to 31 (fun v wx=>v=.bool tw∧wx=W)
 case first =>
  cases e1:inB xa 0 ((n:Int)-1) with
  | false =>
   have HZ:Hid (tw=false):=by rw[Hid,Ze.out,e1];rfl
   go_wp2_with (go_at_call 40;refine (dS _ _ _ _).mono ?_;rintro e w' ⟨rfl,hw'⟩;rw[hw'];clear hw')
   go_meet
   case rel=>exact⟨by rw[HZ.out],rfl⟩
  | true =>
  cases e2:inB xb 0 ((n:Int)-1) with
  | false =>
   have HZ:Hid (tw=false):=by rw[Hid,Ze.out,e2];simp
   go_wp2_with (go_at_call 40;refine (dS _ _ _ _).mono ?_;rintro e w' ⟨rfl,hw'⟩;rw[hw'];clear hw')
   go_meet
   case rel=>exact⟨by rw[HZ.out],rfl⟩
  | true =>
   have HZ:Hid (tw=(xa != xb)):=by
    rw[Hid,Ze.out,e1,e2];by_cases h:xa=xb<;>simp[h]
   go_wp2_with (go_at_call 40;refine (dS _ _ _ _).mono ?_;rintro e w' ⟨rfl,hw'⟩;rw[hw'];clear hw')
   go_meet
   case rel=>exact⟨by rw[HZ.out],rfl⟩
 case rest =>
 obtain⟨rfl,hwx⟩:=hcut;obtain rfl:=hwx.symm;clear hwx;by_cases hk3:kd=3
 ·have g3:(kd==3)=true:=by simpa using hk3
  have HA:=KX (g:=g) (x:=⟨kd,xa,xb,tx⟩) hk3;rw[htw] at HA;have BG:=aj HA;clear HA hk3 htw;obtain⟨ua,uc,la,lc,cu,cl,hgs⟩:=HG.out.rd HFG.out;have HGS:=aj hgs;clear hgs
  cases tw with
  | false =>
   have HZ:Hid (dQ g ⟨kd,xa,xb,tx⟩=(g,false)):=by rw[Hid,BG.out];rfl
   go_wp2_with fail
   go_loopw [7] (fun i wr=>i=.int .i64 0∧wr=W) (fun _ _=>0)
   case atStart=>exact⟨rfl,rfl⟩
   case round =>
    obtain⟨rfl,hwr⟩:=hrel;obtain rfl:=hwr.symm;clear hwr;obtain⟨zz,hzz⟩:∃ z:Bool,Hid (decide ((0:Int)<(g.aG.length:Int))=z):=⟨_,rfl⟩
    cases zz with
    | false =>
     have z1:¬ ((0:Int)<(g.aG.length:Int)):=by have:=hzz.out;simpa using this
     go_wp2;go_ret
     exact⟨aH (by rw[HZ.out]),by rw[HZ.out];exact HG.out.bU⟩
    | true =>
     have z1:(0:Int)<(g.aG.length:Int):=by have:=hzz.out;simpa using this
     go_wp2;go_ret
     exact⟨aH (by rw[HZ.out]),by rw[HZ.out];exact HG.out.bU⟩
  | true =>
   have Zf:Hid (dQ g ⟨kd,xa,xb,tx⟩=(match g.aG.findIdx? (mQ ⟨kd,xa,xb,tx⟩) with|some i=>(iU g i,true)|none=>(g,false))):=by rw[Hid,BG.out];rfl
   clear BG;go_wp2_with fail
   go_loopw [7] (fun i wr=>∃ k q:Nat,k≤g.aG.length∧i=.int .i64 (k:Int)∧wr=W.drewN q∧∀ j,j<k→mQ ⟨kd,xa,xb,tx⟩ (aU g j)=false) (fun i _=>g.aG.length-(intOf i).toNat)
   case atStart=>exact⟨0,0,Nat.zero_le _,rfl,rfl,fun j hj=>by omega⟩
   case round =>
    obtain⟨k,q,hk,rfl,rfl,hall⟩:=hrel;have HA:=aj hall;clear hall;by_cases hlt:k<g.aG.length
    ·have k1:(k:Int)<(g.aG.length:Int):=by omega
     have k0:(0:Int)≤(k:Int):=by omega
     obtain⟨lb,lo,Ak,hla,d0,d1,_,_⟩:=HGS.out.letter hlt;simp only at hla
     subst hla;have DJ:Hid (mQ ⟨kd,xa,xb,tx⟩ (aU g k)=true→g.aG.findIdx? (mQ ⟨kd,xa,xb,tx⟩)=some k):=fun h=>Fh hlt HA.out h
     have xJ:Hid (mQ ⟨kd,xa,xb,tx⟩ (aU g k)=false→∀ j,j<k+1→mQ ⟨kd,xa,xb,tx⟩ (aU g j)=false):=fun h1 j hj=>by
      rcases Nat.lt_succ_iff_lt_or_eq.1 hj with h|h
      ·exact HA.out j h
      ·rw[h];exact h1
     have H7:Hid (mQ ⟨kd,xa,xb,tx⟩ (aU g k)=decide ((aU g k).fr=xa∧(aU g k).to=xb)):=rfl
     have Fe:∀ p,Calls Tryz.prog 79 #[.pointer (some ⟨B,o,none⟩),.int .i64 (k:Int)] (W.drewN p) fun e w'=>e=.returned (.tuple #[])∧bC w w' B o (dB (iU g k)) fp:=fun p=>by
      obtain⟨dD,hp,_,hgo⟩:=(HG.out.step (bg (n:=p) (Below.refl _ _))).bU.next;exact (Sv B o g n k dD _ hp cO.out hlt).mono (fun e w' ⟨e1,e2⟩=>⟨e1,hgo _ _ rfl e2⟩)
     generalize mQ ⟨kd,xa,xb,tx⟩ (aU g k)=mb at *;generalize (aU g k).fr=mf at *;generalize (aU g k).to=mt at *;by_cases h1:mf=xa
     ·have e1:(mf==xa)=true:=by simpa using h1
      by_cases h2:mt=xb
      ·have e2:(mt==xb)=true:=by simpa using h2
       have HZ:Hid (dQ g ⟨kd,xa,xb,tx⟩=(iU g k,true)):=by
        have:=DJ.out (by rw[H7.out];simp[h1,h2])
        rw[Hid,Zf.out,this]
       clear h1 h2 DJ xJ H7 HA;go_wp2_with fail
       go_quiet (fail)
       go_wp2_with (go_at_call 79;refine (Fe _).mono ?_;rintro e w5 ⟨rfl,hb5⟩;have nO:Hid (bC w w5 B o (dB (iU g k)) fp):=hb5;clear hb5)
       go_ret
       exact⟨aH (by rw[HZ.out]),by rw[HZ.out];exact nO.out⟩
      ·have e2:(mt==xb)=false:=by simpa using h2
       have HN:=xJ.out (by rw[H7.out];simp[h2])
       have KZ:=aj HN;clear h1 h2 DJ xJ H7 HA Fe HN;go_wp2_with fail
       go_quiet (fail)
       go_wp2;go_roundw
       case rel=>exact⟨k+1,_,by omega,by go_num,rfl,KZ.out⟩
       case measure=>simp[intOf];omega
     ·have e1:(mf==xa)=false:=by simpa using h1
      have HN:=xJ.out (by rw[H7.out];simp[h1])
      have KZ:=aj HN;clear h1 DJ xJ H7 HA Fe HN;go_wp2_with fail
      go_quiet (fail)
      go_wp2;go_roundw
      case rel=>exact⟨k+1,_,by omega,by go_num,rfl,KZ.out⟩
      case measure=>simp[intOf];omega
    ·have k1:¬ ((k:Int)<(g.aG.length:Int)):=by omega
     have HZ:Hid (dQ g ⟨kd,xa,xb,tx⟩=(g,false)):=by
      have:=Ii (g:=g) (x:=⟨kd,xa,xb,tx⟩) (fun j hj=>HA.out j (by omega))
      rw[Hid,Zf.out,this]
     clear HA;go_wp2;go_ret
     exact⟨aH (by rw[HZ.out]),by rw[HZ.out];exact (HG.out.step (bg (Below.refl _ _))).bU⟩
 have gk3:(kd==3)=false:=by simpa using hk3
 obtain⟨ua,uc,la,lc,cu,cl,hgs⟩:=HG.out.rd HFG.out;rw[TA.out] at cu;have T:∀ {x v},W.cell? x=some v→∀ q:Bk W,q.w.cell? x=some v:=fun h q=>(q.h.cell (World.block_lt_of_cell? _ _ h)).trans h
 have C1:∀ q:Bk W,Calls Tryz.prog 40 #[.int .i64 xa,.int .i64 0,.int .i64 ((n:Int)-1)] q.w fun e w'=>e=.returned (.bool (inB xa 0 ((n:Int)-1)))∧Below q.w.heap.size q.w w':=fun q=>(dS _ _ _ _).mono (fun e w' h=>⟨h.1,by rw[h.2];exact Below.refl _ _⟩)
 have y1:=T x1;have yu:=T cu;go_upto_region 11 with fail
 cases e1:inB xa 0 ((n:Int)-1) with
 | false =>
  have HZ:Hid (dQ g ⟨kd,xa,xb,tx⟩=(g,false)):=KY hk3 (.inl (by simp only;rw[yM.out];exact e1))
  rw[e1] at C1;clear x0 x1 x2 x3 c0 cu cl T hgs;refine eU ?_;repeat (go_big_quiet_step ((first|(go_at_call 40;exact aQ _ (C1 _))|rfl)))
  refine wpQuiet_nil (dK fun wE aJ=>?_)
  have uK:=aj (HG.out.step aJ);clear y1 yu C1 aJ;go_wp2;go_ret
  exact⟨aH (by rw[HZ.out]),by rw[HZ.out];exact uK.out.bU⟩
 | true =>
 have hxa:=dP.1 e1;obtain⟨a,rfl⟩:∃ a:Nat,xa=(a:Int):=⟨xa.toNat,by omega⟩
 have han:a<n:=by omega
 have ham:a<g.mem.length:=by rw[yM.out];exact han
 have hau:a<g.up.length:=by rw[TA.out];exact han
 have a0:(0:Int)≤(a:Int):=by omega
 have a1:(a:Int)<(n:Int):=by omega
 rw[e1] at C1;obtain⟨ub,uo,uc',Zg,cb,_,_⟩:=HG.out.bit (k:=a) hau;rw[TA.out] at Zg;have eu:=Option.some.inj (cu.symm.trans Zg)
 cases eu
 have yb:=T cb
 cases hup:nM g a with
 | false =>
  have HZ:Hid (dQ g ⟨kd,(a:Int),xb,tx⟩=(g,false)):=KY hk3 (.inr hup);rw[hup] at yb;clear x0 x1 x2 x3 c0 cu cl T hgs cb Zg hup;refine eU ?_;repeat (go_big_quiet_step ((first|(go_at_call 40;exact aQ _ (C1 _))|rfl)))
  refine wpQuiet_nil (dK fun wE aJ=>?_)
  have uK:=aj (HG.out.step aJ);clear y1 yu yb C1 aJ;go_wp2;go_ret
  exact⟨aH (by rw[HZ.out]),by rw[HZ.out];exact uK.out.bU⟩
 | true =>
 have BG:=uM (g:=g) (x:=⟨kd,(a:Int),xb,tx⟩) hk3 (by simp only;rw[yM.out];exact e1) hup
 rw[htw] at BG;simp only[Int.toNat_natCast] at BG;have HA:=aj BG;rw[hup] at yb;clear x0 x1 x2 x3 c0 cu cl T hgs cb Zg hup BG;refine eU ?_;repeat (go_big_quiet_step ((first|(go_at_call 40;exact aQ _ (C1 _))|rfl)))
 refine wpQuiet_nil (dK fun wE aJ=>?_)
 have uK:=aj (HG.out.step aJ);have HXE:=aj (HX.out.below aJ);clear y1 yu yb C1 aJ HG HX e1 hxa wn;generalize wE=V at *;have c0:=uK.out.mem;rw[yM.out] at c0;obtain⟨x0,x1,x2,x3⟩:=Bx.a4 HXE.out;obtain⟨ub,uo,uc,cu,cb,_,_⟩:=uK.out.bit (k:=a) hau;rw[TA.out] at cu;have T:∀ {x v},V.cell? x=some v→∀ q:Bk V,q.w.cell? x=some v:=fun h q=>(q.h.cell (World.block_lt_of_cell? _ _ h)).trans h
 have p0:=T c0;have z1:=T x1;have z2:=T x2;have z3:=T x3;have pu:=T cu;by_cases hk1:kd=1
 ·have gk1:(kd==1)=true:=by simpa using hk1
  have HZ:Hid (dQ g ⟨kd,(a:Int),xb,tx⟩=(g.set a (bW (aN g a) tx).1,(bW (aN g a) tx).2)):=by rw[Hid,HA.out,if_pos hk1]
  clear hk1 hk3 HA T;go_upto_region 15 with fail
  refine bK (C:=fun w'=>∃ p:Bk V,w'=p.w) 9 bH (by kernel_rfl) ⟨⟨V.drewN 1,bg (Below.refl _ _)⟩,rfl⟩ ?_
  simp only[List.take_succ_cons,List.take_zero]
  repeat (go_big_quiet_step ((first|rfl)))
  refine wpQuiet_nil (dK fun wE aJ=>?_)
  simp only[List.drop_succ_cons,List.drop_zero]
  have G5:=uK.out.step aJ;obtain⟨f9,hpl,hbk⟩:=G5.mb (k:=a) ham;have hM:=Bh bb (off+a*5) (aN g a) a n tx f9 wE hpl (cO.out.mem a han) HTx.out;have J6:=aj hbk;clear hpl hbk G5 aJ p0 z1 z2 z3 pu;go_wp2_with (go_at_call 98;refine hM.mono ?_;rintro e w5 ⟨rfl,hb5⟩;have nO:Hid (bC w w5 B o (dB (g.set a (bW (aN g a) tx).1)) fp):=(J6.out w5 _ hb5).bU;clear hM hb5)
  go_ret
  exact⟨aH (by rw[HZ.out]),by rw[HZ.out];exact nO.out⟩
 have gk1:(kd==1)=false:=by simpa using hk1
 by_cases hk2:kd=2
 ·have gk2:(kd==2)=true:=by simpa using hk2
  have HZ0:Hid (dQ g ⟨kd,(a:Int),xb,tx⟩=if tw=true then (fZ g (a:Int) xb,true) else (g,false)):=by rw[Hid,HA.out,if_neg hk1,if_pos hk2]
  clear hk2 hk3 HA T
  cases tw with
  | false =>
   have HZ:Hid (dQ g ⟨kd,(a:Int),xb,tx⟩=(g,false)):=by rw[Hid,HZ0.out];rfl
   go_wp2;go_ret
   exact⟨aH (by rw[HZ.out]),by rw[HZ.out];exact uK.out.bU⟩
  | true =>
   have hb:=Ze.out.symm;simp only[Bool.and_eq_true,decide_eq_true_eq] at hb;have hb2:=dP.1 hb.2.1;obtain⟨b,rfl⟩:∃ b:Nat,xb=(b:Int):=⟨xb.toNat,by omega⟩
   have HZ:Hid (dQ g ⟨kd,(a:Int),(b:Int),tx⟩=(fZ g (a:Int) (b:Int),true)):=by rw[Hid,HZ0.out];rfl
   have hP:Calls Tryz.prog 99 #[.pointer (some ⟨B,o,none⟩),.int .i64 (a:Int),.int .i64 (b:Int)] V fun e w'=>e=.returned (.tuple #[])∧bC w w' B o (dB (fZ g (a:Int) (b:Int))) fp:=by
    obtain⟨dD,hp,_,hgo⟩:=uK.out.bU.next;exact (Hg B o g n a b dD _ hp cO.out han).mono (fun e w' ⟨e1,e2⟩=>⟨e1,hgo _ _ rfl e2⟩)
   clear hb hb2 HZ0 p0 z1 z2 z3 pu;go_wp2_with (go_at_call 99;refine hP.mono ?_;rintro e w5 ⟨rfl,hb5⟩;have nO:Hid (bC w w5 B o (dB (fZ g (a:Int) (b:Int))) fp):=hb5;clear hb5)
   go_ret
   exact⟨aH (by rw[HZ.out]),by rw[HZ.out];exact nO.out⟩
 have gk2:(kd==2)=false:=by simpa using hk2
 by_cases hk4:kd=4
 ·have gk4:(kd==4)=true:=by simpa using hk4
  have HZ:Hid (dQ g ⟨kd,(a:Int),xb,tx⟩=(g.set a (bJ (aN g a)),true)):=by rw[Hid,HA.out,if_neg hk1,if_neg hk2,if_pos hk4]
  clear hk4 hk3 HA T;go_upto_region 21 with fail
  refine bK (C:=fun w'=>∃ p:Bk V,w'=p.w) 7 bH (by kernel_rfl) ⟨⟨V.drewN 1,bg (Below.refl _ _)⟩,rfl⟩ ?_
  simp only[List.take_succ_cons,List.take_zero]
  repeat (go_big_quiet_step ((first|rfl)))
  refine wpQuiet_nil (dK fun wE aJ=>?_)
  simp only[List.drop_succ_cons,List.drop_zero]
  have G5:=uK.out.step aJ;obtain⟨f9,hpl,hbk⟩:=G5.mb (k:=a) ham;have hM:=Ih bb (off+a*5) (aN g a) a n f9 wE hpl (cO.out.mem a han);have J6:=aj hbk;clear hpl hbk G5 aJ p0 z1 z2 z3 pu;go_wp2_with (go_at_call 77;refine hM.mono ?_;rintro e w5 ⟨rfl,hb5⟩;have nO:Hid (bC w w5 B o (dB (g.set a (bJ (aN g a)))) fp):=(J6.out w5 _ hb5).bU;clear hM hb5)
  go_ret
  exact⟨aH (by rw[HZ.out]),by rw[HZ.out];exact nO.out⟩
 have gk4:(kd==4)=false:=by simpa using hk4
 by_cases hk5:kd=5
 ·have gk5:(kd==5)=true:=by simpa using hk5
  have HZ0:Hid (dQ g ⟨kd,(a:Int),xb,tx⟩=if tw=true then (g.set a (aW (aN g a) xb).1,(aW (aN g a) xb).2) else (g,false)):=by rw[Hid,HA.out,if_neg hk1,if_neg hk2,if_neg hk4,if_pos hk5]
  clear hk5 hk3 HA T
  cases tw with
  | false =>
   have HZ:Hid (dQ g ⟨kd,(a:Int),xb,tx⟩=(g,false)):=by rw[Hid,HZ0.out];rfl
   go_upto_region 24 with fail
   refine eU ?_;repeat (go_big_quiet_step ((first|rfl)))
   refine wpQuiet_nil (dK fun wE aJ=>?_)
   have nO:Hid (bC w wE B o (dB g) fp):=(uK.out.step aJ).bU;clear aJ p0 z1 z2 z3 pu;go_wp2;go_ret
   exact⟨aH (by rw[HZ.out]),by rw[HZ.out];exact nO.out⟩
  | true =>
   have HZ:Hid (dQ g ⟨kd,(a:Int),xb,tx⟩=(g.set a (aW (aN g a) xb).1,(aW (aN g a) xb).2)):=by rw[Hid,HZ0.out];rfl
   go_upto_region 24 with fail
   refine bK (C:=fun w'=>∃ p:Bk V,w'=p.w) 11 bH (by kernel_rfl) ⟨⟨V.drewN 1,bg (Below.refl _ _)⟩,rfl⟩ ?_
   simp only[List.take_succ_cons,List.take_zero]
   repeat (go_big_quiet_step ((first|rfl)))
   refine wpQuiet_nil (dK fun wE aJ=>?_)
   simp only[List.drop_succ_cons,List.drop_zero]
   have G5:=uK.out.step aJ;obtain⟨f9,hpl,hbk⟩:=G5.mb (k:=a) ham;have hM:=Ho bb (off+a*5) (aN g a) a n xb f9 wE hpl (cO.out.mem a han);have J6:=aj hbk;clear hpl hbk G5 aJ p0 z1 z2 z3 pu;go_wp2_with (go_at_call 100;refine hM.mono ?_;rintro e w5 ⟨rfl,hb5⟩;have nO:Hid (bC w w5 B o (dB (g.set a (aW (aN g a) xb).1)) fp):=(J6.out w5 _ hb5).bU;clear hM hb5)
   go_ret
   exact⟨aH (by rw[HZ.out]),by rw[HZ.out];exact nO.out⟩
 have gk5:(kd==5)=false:=by simpa using hk5
 by_cases hk6:kd=6
 ·have gk6:(kd==6)=true:=by simpa using hk6
  have HZ:Hid (dQ g ⟨kd,(a:Int),xb,tx⟩=({ g with up:=g.up.set a false },true)):=by rw[Hid,HA.out,if_neg hk1,if_neg hk2,if_neg hk4,if_neg hk5,if_pos hk6]
  clear hk6 hk3 HA T;go_upto_region 26 with fail
  refine bK (C:=fun w'=>∃ p:Bk V,w'=p.w) 7 bH (by kernel_rfl) ⟨⟨V.drewN 1,bg (Below.refl _ _)⟩,rfl⟩ ?_
  simp only[List.take_succ_cons,List.take_zero]
  repeat (go_big_quiet_step ((first|rfl)))
  refine wpQuiet_nil (dK fun wE aJ=>?_)
  simp only[List.drop_succ_cons,List.drop_zero]
  have G5:=uK.out.step aJ;obtain⟨ub5,uo5,uc5,cu5,cb5,cf5,hbk⟩:=G5.bit (k:=a) hau;rw[TA.out] at cu5;have eu:=Option.some.inj ((pu ⟨wE,aJ⟩).symm.trans cu5)
  cases eu
  have nO:Hid (bC w (wE.setCell ⟨ub,uo+a,none⟩ (.bool false)) B o (dB { g with up:=g.up.set a false }) fp):=(hbk false).bU
  clear hbk G5 aJ p0 z1 z2 z3 pu cu5;go_wp2;go_ret
  exact⟨aH (by rw[HZ.out]),by rw[HZ.out];exact nO.out⟩
 have gk6:(kd==6)=false:=by simpa using hk6
 by_cases La:kd=7
 ·have gk7:(kd==7)=true:=by simpa using La
  have HZ:Hid (dQ g ⟨kd,(a:Int),xb,tx⟩=(rO g (a:Int),true)):=by rw[Hid,HA.out,if_neg hk1,if_neg hk2,if_neg hk4,if_neg hk5,if_neg hk6,if_pos La]
  clear La hk3 HA T
  have hP:Calls Tryz.prog 78 #[.pointer (some ⟨B,o,none⟩),.int .i64 (a:Int)] V fun e w'=>e=.returned (.tuple #[])∧bC w w' B o (dB (rO g (a:Int))) fp:=by
   obtain⟨dD,hp,_,hgo⟩:=uK.out.bU.next;exact (RY B o g n a dD _ hp cO.out han).mono (fun e w' ⟨e1,e2⟩=>⟨e1,hgo _ _ (by rfl) e2⟩)
  clear p0 z1 z2 z3 pu;go_wp2_with (go_at_call 78;refine hP.mono ?_;rintro e w5 ⟨rfl,hb5⟩;have nO:Hid (bC w w5 B o (dB (rO g (a:Int))) fp):=hb5;clear hb5)
  go_ret
  exact⟨aH (by rw[HZ.out]),by rw[HZ.out];exact nO.out⟩
 have gk7:(kd==7)=false:=by simpa using La
 have HZ:Hid (dQ g ⟨kd,(a:Int),xb,tx⟩=(g,false)):=by rw[Hid,HA.out,if_neg hk1,if_neg hk2,if_neg hk4,if_neg hk5,if_neg hk6,if_neg La]
 clear hk1 hk2 hk3 hk4 hk5 hk6 La HA T p0 z1 z2 z3 pu;go_wp2;go_ret
 exact⟨aH (by rw[HZ.out]),by rw[HZ.out];exact uK.out.bU⟩
end
section
def Gj (m:Mb) (t:List UInt8):Mb×Bool:=if fO m=true then bW m t else (iG,false)
def Gl (m:Mb) (who:Int):Mb×Bool:=if fO m=true then aW m who else (iG,false)
def Gm (m:Mb) (fr:Int) (r:Rw):Mb×Bool:=if fO m=true then aX m fr r else (iG,false)
theorem Bx.pc {w:World} {B:Nat} {T:TypeId} {cs:Array Value} (h:Bx w B T cs):Pc w B 0 cs.toList :=
 ⟨fun j hj => by
  have hj':j<cs.size:=by simpa using hj
  rw[Nat.zero_add,h.at j (Array.getElem?_eq_getElem hj')];simp[hj'],fun j _=>by rw[Nat.zero_add];exact h.f j,h.lt⟩
theorem Oz {w:World} {B:Nat} {T:TypeId} {A:Ma} {m:Mb} {fp:Fp} (h:Bx w B T (dZ A m)) (hl:bG w (fD m) (fE A m) fp) (hB:¬ fp B):dN w B 0 (gW m) fp:=⟨_,h.pc,EK hl,hB⟩
attribute [local irreducible] sv
end
section
theorem TB {w:World} {g:Gr} {us:List Value} {f:Fp} (h:bG w (dB g) us f):∃ A:Ga,us=gq A g:=by
 obtain⟨u1,rD,f1,g1,rfl,o1,h2,_⟩:=h;obtain⟨u2,uy,f2,g2,rfl,o2,h3,_⟩:=h2;obtain⟨u3,Dj,f3,g3,rfl,o3,⟨rfl,_⟩,_⟩:=h3;obtain⟨ma,mc,_,_,_,rfl,_⟩:=o1;obtain⟨ua,uc,_,rfl,_⟩:=EN.1 o2;obtain⟨la,lc,_,_,_,rfl,_⟩:=o3;exact⟨⟨ma,mc,ua,uc,la,lc⟩,rfl⟩
theorem Ej {w:World} {B:Nat} {T:TypeId} {A:Ga} {g:Gr} {fp:Fp} (h:Bx w B T (jF A g)) (hl:bG w (dB g) (gq A g) fp) (hB:¬ fp B):dN w B 0 (dB g) fp:=⟨_,h.pc,hl,hB⟩
theorem Ij {w X Y:World} {B r:Nat} {g:Gr} {fp:Fp} (h:bC X Y B 0 (dB g) fp) (hf:∀ b,fp b→w.heap.size≤b∧b≠r) (hB:w.heap.size≤B) (hrB:r≠B) (hr:w.heap.size≤r) (hrX:r<X.heap.size) (hw:Below w.heap.size w X) {T:TypeId} {Z:Array Value} (hz:Bx X r T Z):∃ A:Ga,(Y.cell? ⟨B,0,none⟩=some (.slice A.ma g.mem.length A.mc)∧Y.cell? ⟨B,1,none⟩=some (.slice A.ua g.up.length A.uc)∧Y.cell? ⟨B,2,none⟩=some (.slice A.la g.aG.length A.lc))∧Bx Y r T Z ∧
  ∀ (Y2:World),Below Y.heap.size Y Y2→∀ {a b c:Value},iL w (((Y2.setCell ⟨r,0,none⟩ a).setCell ⟨r,1,none⟩ b).setCell ⟨r,2,none⟩ c) (dB g) (gq A g):=by
 obtain⟨dD,hp,hs,_⟩:=h.next;obtain⟨vs,hpc,hov,hnB⟩:=hp;obtain⟨A,rfl⟩:=TB hov;have hl3:(gq A g).length=3:=rfl;have c:=hpc.cell;have G8:=hw.size
 have hfp:∀ b,dD b→w.heap.size≤b∧b≠r:=fun b hb=>by
  rcases hs b hb with k|k
  ·exact hf b k
  ·exact⟨by omega,by omega⟩
 have jg : Below w.heap.size w Y := h.wrt.below hw G8 (fun b hb => by
  rcases hb with hb|hb
  ·exact (hf b hb).1
  ·omega)
 refine ⟨A,⟨c 0 (by rw [hl3];omega),c 1 (by rw [hl3];omega),c 2 (by rw [hl3];omega)⟩,hz.wrt h.wrt (fun k => by
  rcases k with k|k
  ·exact (hf r k).2 rfl
  ·exact hrB k),fun Y2 hb2 {a b c}=>⟨dD,bP (bM hov hb2) (qp Y2 r) (fun b hb e=>(hfp b hb).2 e),fun b hb=>(hfp b hb).1,(qp Y2 r).below (jg.trans (hb2.mono jg.size)) (Nat.le_trans jg.size hb2.size) (fun b e=>by omega)⟩⟩
def Zh (w w':World) (e:Ending) (g:Gr) (k:Int):Prop:=∃ A:Ga,e=.returned (.tuple #[iO A g,.int .i64 k])∧iL w w' (dB g) (gq A g)
attribute [local irreducible] sv
end
section
def vC (x:Ac):List aI:=[.v (.int .i64 x.kind),.v (.int .i64 x.a),.v (.int .i64 x.b),.v (.string (sv x.txt))]
theorem ab1 (x:Ac):(vC x).length=4:=rfl
def uN:Ac:=⟨0,0,0,[]⟩
def oq (L:List Ac) (k:Nat):Ac:=L.getD k uN
theorem Lc {L:List Ac} {k:Nat} (hk:k<L.length):L[k]?=some (oq L k):=by simp[oq,List.getD,hk]
theorem TD {w:World} {a:Option Addr} {c:Nat} {L:List Ac} (h:aI.vw w (dA 4 vC L) (.slice a L.length c)) {k:Nat} (hk:k<L.length):∃ b off,a=some ⟨b,off,none⟩∧w.cell? ⟨b,off+k*4,none⟩=some (.int .i64 (oq L k).kind)∧w.cell? ⟨b,off+k*4+1,none⟩=some (.int .i64 (oq L k).a)∧w.cell? ⟨b,off+k*4+2,none⟩=some (.int .i64 (oq L k).b)∧w.cell? ⟨b,off+k*4+3,none⟩=some (.string (sv (oq L k).txt)):=by
 obtain⟨b,off,h1,h2⟩:=JF ab1 h (Lc hk);obtain⟨u0,c0,rfl⟩:=h2.at (j:=0) rfl;obtain⟨u1,c1,rfl⟩:=h2.at (j:=1) rfl;obtain⟨u2,c2,rfl⟩:=h2.at (j:=2) rfl;obtain⟨u3,c3,rfl⟩:=h2.at (j:=3) rfl;exact⟨b,off,h1,c0,c1,c2,c3⟩
attribute [local irreducible] sv
end
def DK (R:List Rw) (k:Nat):Nat:=((R.take k).map iy).sum
def Em (R:List Rw):Nat:=R.length+DK R R.length
def oU (m:Mb):Nat:=Em m.rows+m.au.length
section
def TF (R:List Mb) (k:Nat):Mb:=R.getD k iG
def ap3:Ml:=⟨0,0,jH⟩
def TG (R:List Ml) (k:Nat):Ml:=R.getD k ap3
def En (x:Ml):Nat:=iy x.row
attribute [local irreducible] sv
def Fj (R:List Mb) (k:Nat):Nat:=((R.take k).map oU).sum
theorem V4 {R:List Mb} {k:Nat} (hk:k<R.length):Fj R (k+1)=Fj R k+oU (TF R k):=by
 have e:TF R k=R[k]:=by simp[TF,List.getD,hk]
 unfold Fj;rw[List.take_succ_eq_append_getElem hk,List.map_append,List.sum_append,e];simp
theorem V5 (R:List Mb) {a b:Nat} (h:a≤b):Fj R a≤Fj R b:=by
 unfold Fj;obtain⟨c,rfl⟩:=Nat.exists_eq_add_of_le h;rw[List.take_add,List.map_append,List.sum_append];omega
def V7 (R:List Mb):Nat:=R.length+Fj R R.length
def Fq (R:List Ml) (k:Nat):Nat:=((R.take k).map En).sum
theorem V8 {R:List Ml} {k:Nat} (hk:k<R.length):Fq R (k+1)=Fq R k+En (TG R k):=by
 have e:TG R k=R[k]:=by simp[TG,List.getD,hk]
 unfold Fq;rw[List.take_succ_eq_append_getElem hk,List.map_append,List.sum_append,e];simp
theorem Wh (R:List Ml) {a b:Nat} (h:a≤b):Fq R a≤Fq R b:=by
 unfold Fq;obtain⟨c,rfl⟩:=Nat.exists_eq_add_of_le h;rw[List.take_add,List.map_append,List.sum_append];omega
def Wi (R:List Ml):Nat:=R.length+Fq R R.length
def BH (g:Gr):Nat:=V7 g.mem+g.up.length+Wi g.aG
end
theorem Wj:(Tryz.prog.info? 41).map (fun i=>(i.zero,i.size,i.bytes))=some (some (.slice none 0 0),1,24):=by kernel_rfl
theorem Ld {w:World} {a:Option Addr} {n c:Nat} {H:List (List Int)} (h:VV w a n c H) (hn:0<n):∃ b off,a=some ⟨b,off,none⟩∧∀ i,i<n→∃ x cx,w.cell? ⟨b,off+i,none⟩=some (.slice x (row H i).length cx)∧Vec w x (row H i).length (row H i)∧(row H i).length≤cx∧cx≤maxLen:=by
 obtain⟨b,off,_,_,ha,_⟩:=h.row 0 hn;refine⟨b,off,ha,fun i hi=>?_⟩
 obtain⟨b',off',x,cx,ha',h1,h2,h3,h4⟩:=h.row i hi;rw[ha] at ha'
 cases ha'
 exact⟨x,cx,h1,h2,h3,h4⟩
section
attribute [local irreducible] sv
end
section
attribute [local irreducible] sv
end
theorem bC.at {w X:World} {B o:Nat} {cs:List aI} {fp:Fp} (h:bC w X B o cs fp) {j:Nat} {c:aI} (hj:cs[j]?=some c):∃ u f,X.cell? ⟨B,o+j,none⟩=some u∧X.frozen? ⟨B,o+j,none⟩=false∧aI.ow X c u f ∧
  ∀ (X1:World) (c':aI) (u':Value) (f':Fp),aO f X X1→aI.ow X1 c' u' f'→(∀ b,f' b→f b∨X.heap.size≤b)→X1.cell? ⟨B,o+j,none⟩=some u∧X1.frozen? ⟨B,o+j,none⟩=false∧bC w (X1.setCell ⟨B,o+j,none⟩ u') B o (cs.set j c') fp∧(u'=u→bC w X1 B o (cs.set j c') fp):=by
 obtain⟨dD,hp,_,hgo⟩:=h.next;obtain⟨u,f,h1,h2,h3,h4,h5,h6⟩:=hp.at hj;refine⟨u,f,h1,h2,h3,fun X1 c' u' f' hw hc hf=>?_⟩
 obtain⟨k1,k2,k3,k4⟩:=h6 X1 c' u' f' hw hc hf;exact⟨k1,k2,hgo _ _ (by simp) k3,fun e=>hgo _ _ (by simp) (k4 e)⟩
theorem bC.put {w X:World} {B o:Nat} {cs:List aI} {fp:Fp} (h:bC w X B o cs fp) {j:Nat} {x:Value} (hj:cs[j]?=some (.v x)) (y:Value):X.cell? ⟨B,o+j,none⟩=some x∧X.frozen? ⟨B,o+j,none⟩=false∧bC w (X.setCell ⟨B,o+j,none⟩ y) B o (cs.set j (.v y)) fp:=by
 obtain⟨u,f,h1,h2,⟨rfl,_⟩,h4⟩:=h.at hj;exact⟨h1,h2,(h4 X (.v y) y (fun _=>False) (aO.refl _ _) ⟨rfl,fun _ h=>h⟩ (fun b hb=>hb.elim)).2.2.1⟩
def m3 (k:Int):Bool:=k%3==0
def Le (r:Rw):Nat:=1+r.txt.length+r.got.length+r.ak.length+1+1+1+r.aA.length
def cP (R:List Rw) (k:Nat):Nat:=((R.take k).map Le).sum
theorem OA {w:World} {c1 c2:aI} {v1 v2:Value} {f:Fp} (h:bG w [c1,c2] [v1,v2] f):∃ f1 f2,aI.ow w c1 v1 f1∧aI.ow w c2 v2 f2∧(∀ b,f1 b→¬ f2 b)∧∀ b,f b↔f1 b∨f2 b:=by
 obtain⟨u1,rD,f1,g1,e1,o1,h2,d1,i1⟩:=h
 cases e1
 obtain⟨u2,uy,f2,g2,e2,o2,h3,d2,i2⟩:=h2
 cases e2
 have hg:=h3.2;refine⟨f1,f2,o1,o2,fun b h1 h2=>d1 b h1 ((i2 b).2 (.inl h2)),fun b=>?_⟩
 rw[i1,i2];exact⟨fun h=>h.imp id (fun h=>h.elim id (fun h=>absurd h (hg b))),fun h=>h.imp id .inl⟩
def I7 (m:Mb):Nat:=cP m.rows m.rows.length+m.au.length
def Qz (m:Mb):Nat:=2+cP m.rows m.rows.length+m.au.length+1
def QA (x:Ml):Nat:=2+Le x.row
def cPm (R:List Mb) (k:Nat):Nat:=((R.take k).map Qz).sum
def cPl (R:List Ml) (k:Nat):Nat:=((R.take k).map QA).sum
def Zi (g:Gr):Nat:=cPm g.mem g.mem.length+g.up.length+cPl g.aG g.aG.length
def Lh (m:Mb):Mb:=if fO m=true then bJ m else iG
section
attribute [local irreducible] sv
end
section
def BI (m:Mb):Prop:=eH m.id∧eH m.n∧∀ r∈m.rows,oM r
structure nS (w:World) (A:Ma) (m:Mb):Prop where
 own:∃ f,bG w (fD m) (fE A m) f
 fit:kH m
 i64:BI m
 sz:oU m≤1048576
def ab2:Prop:=∀ (A:Ma) (m:Mb) (t:List UInt8) (w:World),nS w A m→t.length≤1048576→Calls Tryz.prog 124 #[eG A m,.string (sv t)] w fun e w'=>CW w w' e (Gj m t).1 (Gj m t).2
def TI:Prop:=∀ (A:Ma) (m:Mb) (who:Int) (w:World),nS w A m→eH who→Calls Tryz.prog 126 #[eG A m,.int .i64 who] w fun e w'=>CW w w' e (Gl m who).1 (Gl m who).2
def TJ:Prop:=∀ (A:Ma) (m:Mb) (fr:Int) (Ar:Ra) (r:Rw) (w:World),nS w A m→eH fr→iM w Ar r→Calls Tryz.prog 111 #[eG A m,.int .i64 fr,bV Ar r] w fun e w'=>CW w w' e (Gm m fr r).1 (Gm m fr r).2
def TK:Prop:=∀ (A:Ma) (m:Mb) (w:World),nS w A m→(fO m=true→m.own.ver<1000000)→Calls Tryz.prog 70 #[eG A m] w fun e w'=>YO w w' e (Lh m)
def SmM (m:Mb):Prop:=kH m∧I7 m≤1000∧m.rows.length≤5∧oU m≤100000
theorem yR (F:Rw→Nat) (c:Nat):∀ (R:List Rw),(∀ r∈R,F r≤c)→(R.map F).sum≤c*R.length
 | [],_=>by simp
 | r::R,h=>by
  have ih:=yR F c R (fun x hx=>h x (List.mem_cons_of_mem _ hx))
  have h1:=h r List.mem_cons_self;rw[List.map_cons,List.sum_cons,List.length_cons,Nat.mul_succ];omega
theorem dL.c8 {r:Rw} {n:Nat} (h:dL r n):Le r≤31∧iy r≤300:=by
 have h5:=h.n5;have h1:=h.gl;have h2:=h.sl;have h3:=h.ml;have h4:=h.tl;have h6:yt r.txt r.txt.length≤r.txt.length*20:=yQ (fun i hi=>h.ts _ (by rw[List.getD_eq_getElem?_getD,List.getElem?_eq_getElem hi];exact List.getElem_mem hi)) _ (Nat.le_refl _)
 unfold Le iy;omega
theorem dO.small {m:Mb} {i n:Nat} (h:dO m i n):SmM m:=by
 have h5:=h.n5;have hl:=h.len;have hs:=h.sl
 have e1:cP m.rows m.rows.length≤31*m.rows.length:=by
  unfold cP;rw[List.take_length];exact yR Le 31 m.rows (fun r hr=>(h.rowOk r hr).c8.1)
 have e2:DK m.rows m.rows.length≤300*m.rows.length:=by
  unfold DK;rw[List.take_length];exact yR iy 300 m.rows (fun r hr=>(h.rowOk r hr).c8.2)
 refine⟨h.fit, ?_,by omega, ?_⟩
 ·unfold I7;omega
 ·unfold oU Em;omega
attribute [local irreducible] sv
end
def Wp (g:Gr):Prop:=(∀ m∈g.mem,BI m)∧∀ x∈g.aG,eH x.fr∧eH x.to∧oM x.row
structure uO (w:World) (A:Ga) (g:Gr):Prop where
 own:∃ f,bG w (dB g) (gq A g) f
 fit:Bc g
 i64:Wp g
 sz:BH g≤1048576
def az7 (x:Ac):Prop:=eH x.kind∧eH x.a∧eH x.b
def DL:Prop:=∀ (A:Ga) (g:Gr) (w:World),uO w A g→Calls Tryz.prog 18 #[iO A g] w fun e w'=>e=.returned (.bool (jf g))∧Below w.heap.size w w'
def SmG (g:Gr):Prop:=Bc g∧Zi g≤100000∧g.mem.length≤5∧g.aG.length≤200∧BH g≤1000000
theorem yS {α:Type} (F:α→Nat) (c:Nat):∀ (R:List α),(∀ r∈R,F r≤c)→(R.map F).sum≤c*R.length
 | [],_=>by simp
 | r::R,h=>by
  have ih:=yS F c R (fun x hx=>h x (List.mem_cons_of_mem _ hx))
  have h1:=h r List.mem_cons_self;rw[List.map_cons,List.sum_cons,List.length_cons,Nat.mul_succ];omega
theorem OkG.Wq {g:Gr} {n:Nat} (h:OkG g n) {m:Mb} (hm:m∈g.mem):∃ i,dO m i n:=by
 obtain⟨i,hi,rfl⟩:=List.mem_iff_getElem.1 hm;refine⟨i, ?_⟩;have:=h.mem i (by rw[← h.ml];exact hi)
 unfold aN at this
 rwa [List.getD_eq_getElem?_getD,List.getElem?_eq_getElem hi,Option.getD_some] at this
theorem OkG.small {g:Gr} {n:Nat} (h:OkG g n):SmG g:=by
 have h5:=h.n5;have hl:=h.ml;have hu:=h.ul;have h2:=h.lX
 have e1:cPm g.mem g.mem.length≤1003*g.mem.length:=by
  unfold cPm;rw[List.take_length];refine yS Qz 1003 g.mem (fun m hm=>?_)
  obtain⟨i,ok⟩:=h.Wq hm;have:=ok.small.2.1;have h2:Qz m=3+I7 m:=by unfold Qz I7;omega
  omega
 have e2:Fj g.mem g.mem.length≤100000*g.mem.length:=by
  unfold Fj;rw[List.take_length];refine yS oU 100000 g.mem (fun m hm=>?_)
  obtain⟨i,ok⟩:=h.Wq hm;exact ok.small.2.2.2
 have e3:cPl g.aG g.aG.length≤33*g.aG.length:=by
  unfold cPl;rw[List.take_length];refine yS QA 33 g.aG (fun x hx=>?_)
  obtain⟨a,b,_,_,_,_,_,ok⟩:=h.iP x hx;have:=ok.c8.1;unfold QA;omega
 have e4:Fq g.aG g.aG.length≤300*g.aG.length:=by
  unfold Fq;rw[List.take_length];refine yS En 300 g.aG (fun x hx=>?_)
  obtain⟨a,b,_,_,_,_,_,ok⟩:=h.iP x hx;exact ok.c8.2
 refine⟨h.fit, ?_,by omega,h2, ?_⟩
 ·unfold Zi;omega
 ·unfold BH V7 Wi;omega
end Go.Proofs.YtafimeakbdmkjaaGreat