/-
  Texts in one.
-/
import Derived.Test.YtafimeakbdmkjaaGreatZaz
import Derived.Test.YtafimeakbdmkjaaGreatZae
import Derived.Test.YtafimeakbdmkjaaGreatZaa
namespace Go.Proofs.YtafimeakbdmkjaaGreat
set_option linter.unusedVariables false
set_option linter.unusedSimpArgs false
open Go.RowKit Go.Sort
set_option maxRecDepth 100000
set_option maxHeartbeats 12800000
section
theorem Gx.newP {wr X w3:World} {q:Nat} {A:Ga} {g:Gr} (hbx:Bx w3 wr.heap.size 28 #[.slice none 0 0,.slice none 0 0,.slice none 0 0]) (h:iL X w3 (dB g) (gq A g)) (hX:wr.heap.size<X.heap.size) (hq:q<wr.heap.size) (hb:Below wr.heap.size wr w3) :
  Gx (((w3.setCell ⟨wr.heap.size,0,none⟩ (.slice A.ma g.mem.length A.mc)).setCell ⟨wr.heap.size,1,none⟩ (.slice A.ua g.up.length A.uc)).setCell ⟨wr.heap.size,2,none⟩ (.slice A.la g.aG.length A.lc)) wr.heap.size q A g ∧
  Below wr.heap.size wr (((w3.setCell ⟨wr.heap.size,0,none⟩ (.slice A.ma g.mem.length A.mc)).setCell ⟨wr.heap.size,1,none⟩ (.slice A.ua g.up.length A.uc)).setCell ⟨wr.heap.size,2,none⟩ (.slice A.la g.aG.length A.lc)):=by
 have hw:=qp w3 wr.heap.size (a:=.slice A.ma g.mem.length A.mc) (b:=.slice A.ua g.up.length A.uc) (c:=.slice A.la g.aG.length A.lc);obtain⟨f,h1,h2,_⟩:=h;refine⟨⟨?_,f,bP h1 hw (fun b hb e=>by have:=h2 b hb;omega),fun b hb=>by have:=h2 b hb;omega⟩,hw.below hb hb.size (fun b e=>by rw[e];exact Nat.le_refl _)⟩
 have:=((hbx.iV 0 (.slice A.ma g.mem.length A.mc)).iV 1 (.slice A.ua g.up.length A.uc)).iV 2 (.slice A.la g.aG.length A.lc);simpa using this
attribute [local irreducible] sv
theorem Ny (hHp:DW) (hFo:Dk) (hGo:DL) (a:Option Addr) (len cap:Nat) (bs:Nat→Int) (w:World) (hv:kW w a len bs) :
  Calls Tryz.prog 4 #[.slice a len cap] w fun e w'=>e=.returned (.bool true)∧Below w.heap.size w w':=by
 have bH:=dH;by_cases hbig:(4096:Int)<(len:Int)
 ·have hB:=NC a len cap w
  rw[decide_eq_true hbig] at hB;go_enter Tryz.func4,Tryz.ntmps4
  go_wp2_with fail
  refine hB.mono ?_;rintro e w1 ⟨rfl,hw1⟩;have HW:=aj hw1;clear hw1;go_wp2;go_ret
  exact⟨rfl,by rw[HW.out];exact Below.refl _ _⟩
 have hB:=NC a len cap w;rw[decide_eq_false hbig] at hB;have hl:len≤4096:=by omega
 have hD:=QU a len cap bs w hv hl;go_enter Tryz.func4,Tryz.ntmps4
 go_wp2_with fail
 refine hB.mono ?_;rintro e w0 ⟨rfl,hw0⟩;rw[hw0];clear hw0 hB hbig hv;go_wp2_with fail
 refine hD.mono ?_;rintro e w1 ⟨Av,gv,oa,c,L,rfl,hIt,hgl,hLS,hL4,hb1⟩;obtain⟨fl,hfl,hfb⟩:=hIt.ow1;have qV:=aj hLS;unfold iO jF;generalize hnn:gv.mem.length=n at *;have hba:=aF w1 (.cells #[.slice Av.ma n Av.mc,.slice Av.ua gv.up.length Av.uc,.slice Av.la gv.aG.length Av.lc] 28);have hbx:=Bx.new w1 28 #[.slice Av.ma n Av.mc,.slice Av.ua gv.up.length Av.uc,.slice Av.la gv.aG.length Av.lc];have uI:=aj (aI.cZ hfl hba);have HB1:=aj (hb1.trans (hba.mono hb1.size));clear hD hIt hfl hfb hb1 hba hLS hnn;go_upto_region 4 with fail
 generalize w1.alloc (.cells #[.slice Av.ma n Av.mc,.slice Av.ua gv.up.length Av.uc,.slice Av.la gv.aG.length Av.lc] 28)=W1 at *;obtain⟨c0,c1,c2⟩:=Bx.g3 hbx;by_cases aD9:L.length≤120;rotate_left
 ·have g1:(120:Int)<(L.length:Int):=by omega
  have HE:=aj HB1.out;clear hbx;go_wp2;go_ret
  exact⟨rfl,HE.out⟩
 have g1:¬ ((120:Int)<(L.length:Int)):=by omega
 obtain⟨hn1,fG⟩:=hgl;have g2:¬ ((n:Int)<1):=by omega
 have g3:¬ ((5:Int)<(n:Int)):=by omega
 have hN:=Ed (n:Int) W1;clear hbx;go_wp2_with fail
 clear c0 c1 c2 g1 g2 g3;refine hN.mono ?_;rintro e w2 ⟨A,rfl,hNl⟩;have hb2:=hNl.choose_spec.2.2;have hG0:=Gx.new' hNl;have hba:=aF w2 (.cells #[.slice A.ma (dV (n:Int)).1.mem.length A.mc,.slice A.ua (dV (n:Int)).1.up.length A.uc,.slice A.la (dV (n:Int)).1.aG.length A.lc] 28);have MK:Hid (wF n (dV (n:Int)).1):=zx ⟨hn1,fG⟩;have ML:Hid (kC (dV (n:Int)).1 n 0):=IJ ⟨hn1,fG⟩;have mP:=aj hG0;have hb3:=hb2.trans (hba.mono hb2.size);have HL2:=aj (aI.cZ uI.out hb3);have HB2:=aj (HB1.out.trans (hb3.mono HB1.out.size));have EO:Hid (∀ b,fl b→b≠w2.heap.size):=fun b hb=>by have:=aI.iT uI.out b hb;have:=hb2.size;omega
 have KH:=aj (Nat.le_trans HB1.out.size hb2.size);generalize (dV (n:Int)).2=bb at *;generalize (dV (n:Int)).1=g0 at *;unfold iO jF;clear hN hNl hb2 hG0 hba hb3 uI HB1;go_upto_region 8 with fail
 generalize w2.alloc (.cells #[.slice A.ma g0.mem.length A.mc,.slice A.ua g0.up.length A.uc,.slice A.la g0.aG.length A.lc] 28)=W2 at *;generalize w2.heap.size=o6 at *;go_wp2_with fail
 go_loopw [8] (fun v wr=>∃ (k:Nat) (A:Ga) (g:Gr),k≤L.length∧v=.int .i64 (k:Int)∧wF n g∧kC g n (k:Int)∧Gx wr o6 o6 A g∧aI.ow wr (dA 4 vC L) (.slice oa L.length c) fl∧Below w.heap.size w wr) (fun v _=>L.length-(intOf v).toNat)
 case atStart=>exact⟨0,A,g0,Nat.zero_le _,rfl,MK.out,ML.out,mP.out,HL2.out,HB2.out⟩
 case round =>
  obtain⟨k,A1,g,hk,rfl,hok,how,hG,hL,hB⟩:=hrel;have cO:=aj hok;have kL:=aj how;have HG:=aj hG;have HL:=aj hL;have l7:=aj hB;have HMl:=aj hok.rW.ml;clear hok how hG hL hB MK ML mP HL2 HB2;by_cases hlt:k<L.length
  ·have k1:(k:Int)<(L.length:Int):=by omega
   have k0:(0:Int)≤(k:Int):=by omega
   obtain⟨lb,lo,hoa,d0,d1,d2,d3⟩:=TD (aI.tK HL.out) hlt;subst hoa;have hxs:=qV.out (oq L k) (List.mem_of_getElem? (Lc hlt));have MW:=fun X (hX:Below wr.heap.size wr X)=>hHp A1 g n (oq L k) X ((HG.out.below hX).ok cO.out.rW) cO.out.rW hxs.1.2.1 hxs.1.2.2 (by have:=hxs.2;omega) (aj3 cO.out.rW kL.out (by omega) _)
   have jZ:Hid (wF n (dQ g (oq L k)).1):=JC cO.out _;have zM:Hid (kC (dQ g (oq L k)).1 n ((k:Int)+1)):=kL.out.act cO.out.rW _;have HAq:Hid (∀ j,j<n→((aN g j).au.length≤(aN (dQ g (oq L k)).1 j).au.length∧∀ q,q<(aN g j).au.length→el (aN g j).au q=el (aN (dQ g (oq L k)).1 j).au q)∧yj (ah (aN g j).rows j) (ah (aN (dQ g (oq L k)).1 j).rows j) (n:Int)=true∧((aN (dQ g (oq L k)).1 j).done=true→n<2*(aP n (ah (aN (dQ g (oq L k)).1 j).rows j).ak).length)):=fun j hj=>Qj cO.out _ hj
   unfold Zh at MW;unfold nZ pR iO jF at MW;generalize (dQ g (oq L k)).1=x at *;generalize MI (dQ g (oq L k)).2=kd at *;generalize (oq L k).kind=xk at *;generalize (oq L k).a=xa at *;generalize (oq L k).b=xb at *;generalize (oq L k).txt=xt at *;clear hxs
   have KS:∀ X,Below wr.heap.size wr X→X.cell? ⟨o6,0,none⟩=some (.slice A1.ma g.mem.length A1.mc)∧X.cell? ⟨o6,1,none⟩=some (.slice A1.ua g.up.length A1.uc)∧X.cell? ⟨o6,2,none⟩=some (.slice A1.la g.aG.length A1.lc)∧X.cell? ⟨lb,lo+k*4,none⟩=some (.int .i64 xk)∧X.cell? ⟨lb,lo+k*4+1,none⟩=some (.int .i64 xa)∧X.cell? ⟨lb,lo+k*4+2,none⟩=some (.int .i64 xb)∧X.cell? ⟨lb,lo+k*4+3,none⟩=some (.string (sv xt)):=fun X hX=>by
    obtain⟨c0,c1,c2⟩:=Bx.g3 (HG.out.below hX).box;exact⟨c0,c1,c2,((hX.cell (World.block_lt_of_cell? _ _ d0)).trans d0),((hX.cell (World.block_lt_of_cell? _ _ d1)).trans d1),((hX.cell (World.block_lt_of_cell? _ _ d2)).trans d2),((hX.cell (World.block_lt_of_cell? _ _ d3)).trans d3)⟩
   clear d0 d1 d2 d3;go_upto_region 11 with fail
   go_cut [9,10] from 50 to 58 (fun s t wx=>∃ (A2:Ga) (ox:Nat),s=.pointer (some ⟨ox,0,none⟩)∧Gx wx ox o6 A2 x∧Below wr.heap.size wr wx)
   case first =>
    refine jE (S:=fun X:World=>X.cell? ⟨o6,0,none⟩=some (.slice A1.ma g.mem.length A1.mc)∧X.cell? ⟨o6,1,none⟩=some (.slice A1.ua g.up.length A1.uc)∧X.cell? ⟨o6,2,none⟩=some (.slice A1.la g.aG.length A1.lc)∧X.cell? ⟨lb,lo+k*4,none⟩=some (.int .i64 xk)∧X.cell? ⟨lb,lo+k*4+1,none⟩=some (.int .i64 xa)∧X.cell? ⟨lb,lo+k*4+2,none⟩=some (.int .i64 xb)∧X.cell? ⟨lb,lo+k*4+3,none⟩=some (.string (sv xt))) 12 bH ((KS _ (bg (n:=1) (Below.refl _ _)))) fun hHeld=>?_
    refine kJ (i:=0) rfl hHeld ?_;refine aS (i:=1) rfl ?_;refine aS (i:=2) rfl ?_;refine aS (i:=3) rfl ?_;refine kJ (i:=4) rfl hHeld ?_;refine RF (i:=5) (j:=9) rfl rfl (by kernel_rfl) (by kernel_rfl) (fun K hK=>?_) (fun K hK=>?_)
    ·go_simp
     go_at_call 13
     refine (MW wr.drew (bg (n:=1) (Below.refl _ _))).mono ?_;rintro e w3 ⟨A2,rfl,UZ⟩;have hb3:=(bg (n:=1) (Below.refl _ _)).trans UZ.choose_spec.2.2;go_simp;refine hK.out _ _ (KS _ hb3) (fun aK=>?_)
     clear hK hHeld;have hHeld:=aK;try simp only[dw]
     refine aS (i:=6) rfl ?_;refine aS (i:=7) rfl ?_;refine aS (i:=8) rfl ?_;refine dI (i:=9) rfl fun K hK=>?_
     go_simp;refine hK.out _ _ (KS _ (hb3.trans ((aF w3 _).mono hb3.size))) (fun aK=>?_)
     clear hK hHeld;have hHeld:=aK;try simp only[dw]
     refine dI (i:=10) rfl fun K hK=>?_
     go_simp;refine hK.out _ _ (KS _ (hb3.trans ((aF w3 (.cells #[.slice A2.ma x.mem.length A2.mc,.slice A2.ua x.up.length A2.uc,.slice A2.la x.aG.length A2.lc] 28)).mono hb3.size))) (fun aK=>?_)
     clear hK hHeld;have hHeld:=aK;try simp only[dw]
     refine dI (i:=11) rfl fun K hK=>?_
     go_simp;refine hK.out _ _ (KS _ (hb3.trans ((aF w3 (.cells #[.slice A2.ma x.mem.length A2.mc,.slice A2.ua x.up.length A2.uc,.slice A2.la x.aG.length A2.lc] 28)).mono hb3.size))) (fun aK=>?_)
     clear hK hHeld;refine pX (by kernel_rfl) ?_
     try go_wp2_with fail
     go_meet
     case rel=>exact⟨A2,w3.heap.size,rfl,Gx.new UZ HG.out.box.lt,hb3.trans ((aF w3 (.cells #[.slice A2.ma x.mem.length A2.mc,.slice A2.ua x.up.length A2.uc,.slice A2.la x.aG.length A2.lc] 28)).mono hb3.size)⟩
    ·go_simp
     refine hK.out _ _ (KS _ (vU wr (.cells #[.slice none 0 0,.slice none 0 0,.slice none 0 0] 28))) (fun aK=>?_)
     clear hK hHeld;have hHeld:=aK;try simp only[dw]
     refine dI (i:=5) rfl fun K hK=>?_
     go_simp
     go_at_call 13
     refine (MW _ (vU wr (.cells #[.slice none 0 0,.slice none 0 0,.slice none 0 0] 28))).mono ?_;rintro e w3 ⟨A2,rfl,UZ⟩;have hb3:=UZ.choose_spec.2.2;have hb4:=(vU wr (.cells #[.slice none 0 0,.slice none 0 0,.slice none 0 0] 28)).trans (hb3.mono (vU wr (.cells #[.slice none 0 0,.slice none 0 0,.slice none 0 0] 28)).size);have hbx:=(show Bx (wr.alloc (.cells #[.slice none 0 0,.slice none 0 0,.slice none 0 0] 28)).drew wr.heap.size 28 #[.slice none 0 0,.slice none 0 0,.slice none 0 0] from Bx.new wr 28 #[.slice none 0 0,.slice none 0 0,.slice none 0 0]).below hb3
     obtain⟨z0,z1,z2⟩:=Bx.g3 hbx;have z0':=hbx.f 0;have z1':=hbx.f 1;have z2':=hbx.f 2;go_simp;refine hK.out _ _ (KS _ hb4) (fun aK=>?_)
     clear hK hHeld;have hHeld:=aK;try simp only[dw]
     refine aS (i:=6) rfl ?_;refine aS (i:=7) rfl ?_;refine aS (i:=8) rfl ?_;refine dI (i:=10) rfl fun K hK=>?_
     go_simp;obtain⟨hGY,OW⟩:=Gx.newP (q:=o6) hbx UZ (show wr.heap.size<(wr.alloc (.cells #[.slice none 0 0,.slice none 0 0,.slice none 0 0] 28)).heap.size by simp only[World.size_alloc];omega) HG.out.box.lt hb4
     refine hK.out _ _ (KS _ OW) (fun aK=>?_)
     clear hK hHeld;have hHeld:=aK;try simp only[dw]
     refine dI (i:=11) rfl fun K hK=>?_
     go_simp;refine hK.out _ _ (KS _ OW) (fun aK=>?_)
     clear hK hHeld z0 z1 z2 z0' z1' z2' hbx;refine pX (by kernel_rfl) ?_
     try go_wp2_with fail
     go_meet
     case rel=>exact⟨A2,wr.heap.size,rfl,hGY,OW⟩
   case rest =>
   obtain⟨A2,ox,rfl,hGx,hbw⟩:=hcut;have HGw:=aj (HG.out.below hbw);have HGX:=aj hGx;have HLw:=aj (aI.cZ HL.out hbw);have HBc:=aj (l7.out.trans (hbw.mono l7.out.size));have hnx:=jZ.out.rW.ml;have uZ:=HMl.out;clear hbw hGx KS MW HG HL l7;go_wp2_with fail
   go_loopw [11] (fun v wr=>∃ j:Nat,j≤n∧v=.int .i64 (j:Int)∧Gx wr o6 o6 A1 g∧Gx wr ox o6 A2 x∧aI.ow wr (dA 4 vC L) (.slice (some ⟨lb,lo,none⟩) L.length c) fl∧Below w.heap.size w wr) (fun v _=>n-(intOf v).toNat)
   case atStart=>exact⟨0,Nat.zero_le _,rfl,HGw.out,HGX.out,HLw.out,HBc.out⟩
   case round =>
    obtain⟨j,hj,rfl,hga,hxa,hla,hba⟩:=hrel;have Aa:=aj hga;have PK:=aj hxa;have Zm:=aj hla;have iw:=aj hba;clear hga hxa hla hba HGw HGX HLw HBc;by_cases hjn:j<n
    ·have j0:(0:Int)≤(j:Int):=by omega
     have j1:(j:Int)<(n:Int):=by omega
     have j2:(j:Int)<(g.mem.length:Int):=by omega
     have j3:(j:Int)<(x.mem.length:Int):=by omega
     obtain⟨b1,q1,M1,e1,⟨m0,m1,m2,m3,m4⟩,hm⟩:=(Aa.out.ok cO.out.rW).member (k:=j) (by omega)
     obtain⟨b2,q2,M2,e2,⟨n0,n1,n2,n3,n4⟩,hm'⟩:=(PK.out.ok jZ.out.rW).member (k:=j) (by omega)
     obtain⟨hbg,hfo,hdn⟩:=HAq.out j hjn;have ok1:=cO.out.rW.mem j hjn;have ok2:=jZ.out.rW.mem j hjn;have hr1:j<(aN g j).rows.length:=by rw[ok1.len];exact hjn
     have hr2:j<(aN x j).rows.length:=by rw[ok2.len];exact hjn
     have hll:=VB (ok2.ok j hjn);generalize aN g j=m at *;generalize aN x j=m' at *;obtain⟨x0,x1,x2⟩:=Bx.g3 PK.out.box;obtain⟨c0,c1,c2⟩:=Bx.g3 Aa.out.box;rw[e1] at c0;rw[e2] at x0;have T:∀ {z v},wr.cell? z=some v→(wr.alloc (.cells #[.int .i64 m.id,.int .i64 m.n,.slice M1.ra m.rows.length M1.rc,.slice M1.sa m.au.length M1.sc,.bool m.done] 47)).cell? z=some v:=fun h=>((aF wr (.cells #[.int .i64 m.id,.int .i64 m.n,.slice M1.ra m.rows.length M1.rc,.slice M1.sa m.au.length M1.sc,.bool m.done] 47)).cell (World.block_lt_of_cell? _ _ h)).trans h
     have x0':=T x0;have x1':=T x1;have x2':=T x2;have n0':=T n0;have n1':=T n1;have n2':=T n2;have n3':=T n3;have n4':=T n4;clear T x0 x1 x2 n0 n1 n2 n3 n4;have h16:Below wr.heap.size wr ((wr.alloc (.cells #[.int .i64 m.id,.int .i64 m.n,.slice M1.ra m.rows.length M1.rc,.slice M1.sa m.au.length M1.sc,.bool m.done] 47)).alloc (.cells #[.int .i64 m'.id,.int .i64 m'.n,.slice M2.ra m'.rows.length M2.rc,.slice M2.sa m'.au.length M2.sc,.bool m'.done] 47)):=(aF wr _).trans ((aF _ _).mono (aF wr _).size);have au2:=(Bx.new wr 47 #[.int .i64 m.id,.int .i64 m.n,.slice M1.ra m.rows.length M1.rc,.slice M1.sa m.au.length M1.sc,.bool m.done]).below (aF (wr.alloc (.cells #[.int .i64 m.id,.int .i64 m.n,.slice M1.ra m.rows.length M1.rc,.slice M1.sa m.au.length M1.sc,.bool m.done] 47)) (.cells #[.int .i64 m'.id,.int .i64 m'.n,.slice M2.ra m'.rows.length M2.rc,.slice M2.sa m'.au.length M2.sc,.bool m'.done] 47));have YG:=Bx.new (wr.alloc (.cells #[.int .i64 m.id,.int .i64 m.n,.slice M1.ra m.rows.length M1.rc,.slice M1.sa m.au.length M1.sc,.bool m.done] 47)) 47 #[.int .i64 m'.id,.int .i64 m'.n,.slice M2.ra m'.rows.length M2.rc,.slice M2.sa m'.au.length M2.sc,.bool m'.done];simp only[World.size_alloc] at YG;have HR:Hid (Gx ((wr.alloc (.cells #[.int .i64 m.id,.int .i64 m.n,.slice M1.ra m.rows.length M1.rc,.slice M1.sa m.au.length M1.sc,.bool m.done] 47)).alloc (.cells #[.int .i64 m'.id,.int .i64 m'.n,.slice M2.ra m'.rows.length M2.rc,.slice M2.sa m'.au.length M2.sc,.bool m'.done] 47)) o6 o6 A1 g∧Gx ((wr.alloc (.cells #[.int .i64 m.id,.int .i64 m.n,.slice M1.ra m.rows.length M1.rc,.slice M1.sa m.au.length M1.sc,.bool m.done] 47)).alloc (.cells #[.int .i64 m'.id,.int .i64 m'.n,.slice M2.ra m'.rows.length M2.rc,.slice M2.sa m'.au.length M2.sc,.bool m'.done] 47)) ox o6 A2 x∧aI.ow ((wr.alloc (.cells #[.int .i64 m.id,.int .i64 m.n,.slice M1.ra m.rows.length M1.rc,.slice M1.sa m.au.length M1.sc,.bool m.done] 47)).alloc (.cells #[.int .i64 m'.id,.int .i64 m'.n,.slice M2.ra m'.rows.length M2.rc,.slice M2.sa m'.au.length M2.sc,.bool m'.done] 47)) (dA 4 vC L) (.slice (some ⟨lb,lo,none⟩) L.length c) fl∧Below w.heap.size w ((wr.alloc (.cells #[.int .i64 m.id,.int .i64 m.n,.slice M1.ra m.rows.length M1.rc,.slice M1.sa m.au.length M1.sc,.bool m.done] 47)).alloc (.cells #[.int .i64 m'.id,.int .i64 m'.n,.slice M2.ra m'.rows.length M2.rc,.slice M2.sa m'.au.length M2.sc,.bool m'.done] 47))):=⟨Aa.out.below h16,PK.out.below h16,aI.cZ Zm.out h16,iw.out.trans (h16.mono iw.out.size)⟩;have PL:Hid (nS ((wr.alloc (.cells #[.int .i64 m.id,.int .i64 m.n,.slice M1.ra m.rows.length M1.rc,.slice M1.sa m.au.length M1.sc,.bool m.done] 47)).alloc (.cells #[.int .i64 m'.id,.int .i64 m'.n,.slice M2.ra m'.rows.length M2.rc,.slice M2.sa m'.au.length M2.sc,.bool m'.done] 47)) M1 m∧nS ((wr.alloc (.cells #[.int .i64 m.id,.int .i64 m.n,.slice M1.ra m.rows.length M1.rc,.slice M1.sa m.au.length M1.sc,.bool m.done] 47)).alloc (.cells #[.int .i64 m'.id,.int .i64 m'.n,.slice M2.ra m'.rows.length M2.rc,.slice M2.sa m'.au.length M2.sc,.bool m'.done] 47)) M2 m'):=⟨hm.below h16,hm'.below h16⟩;clear e1 e2 hm hm' h16 Aa PK Zm iw;go_upto_region 17 with fail
     generalize (wr.alloc (.cells #[.int .i64 m.id,.int .i64 m.n,.slice M1.ra m.rows.length M1.rc,.slice M1.sa m.au.length M1.sc,.bool m.done] 47)).alloc (.cells #[.int .i64 m'.id,.int .i64 m'.n,.slice M2.ra m'.rows.length M2.rc,.slice M2.sa m'.au.length M2.sc,.bool m'.done] 47)=V at *;obtain⟨g1,f1,R1,ea,⟨⟨d0,d1,d2,d3⟩,d4,d5,d6,d7⟩,hrs⟩:=PL.out.1.row hr1;obtain⟨g2,f2,R2,eb,⟨⟨y0,y1,y2,y3⟩,y4,y5,y6,y7⟩,hrx⟩:=PL.out.2.row hr2;have Uw:=nS.sc PL.out.2
     have CB:∀ q:Bk V,Calls Tryz.prog 16 #[.slice M1.sa m.au.length M1.sc,.slice M2.sa m'.au.length M2.sc] q.w fun e w'=>e=.returned (.bool true)∧Below q.w.heap.size q.w w':=fun q =>
      YF M1.sa M2.sa M1.sc M2.sc m.au m'.au q.w (PL.out.1.below q.h).FC.au (PL.out.2.below q.h).FC.au Uw hbg.1 hbg.2
     have CF:∀ q:Bk V,Calls Tryz.prog 17 #[bV R1 (ah m.rows j),bV R2 (ah m'.rows j),.int .i64 (n:Int)] q.w fun e w'=>e=.returned (.bool true)∧Below q.w.heap.size q.w w':=fun q=>by
      have:=hFo R1 R2 (ah m.rows j) (ah m'.rows j) (n:Int) q.w (hrs.below q.h) (hrx.below q.h) ⟨by omega,by omega⟩
      rw[hfo] at this;exact this
     unfold bV bD at CF;obtain⟨c0,c1,c2,c3,c4⟩:=Bx.r5 au2;obtain⟨z0,z1,z2,z3,z4⟩:=Bx.r5 YG;rw[ea] at c2;rw[eb] at z2;have T:∀ {x v},V.cell? x=some v→∀ q:Bk V,q.w.cell? x=some v:=fun h q=>(q.h.cell (World.block_lt_of_cell? _ _ h)).trans h
     have pc2:=T c2;have pc3:=T c3;have pz2:=T z2;have pz3:=T z3;have pd0:=T d0;have pd1:=T d1;have pd2:=T d2;have pd3:=T d3;have pd4:=T d4;have pd5:=T d5;have pd6:=T d6;have pd7:=T d7;have py0:=T y0;have py1:=T y1;have py2:=T y2;have py3:=T y3;have py4:=T y4;have py5:=T y5;have py6:=T y6;have py7:=T y7;have i1:(j:Int)<(m.rows.length:Int):=by omega
     have i2:(j:Int)<(m'.rows.length:Int):=by omega
     have HY:Hid ((V.cell? ⟨g2,f2+j*8+3,none⟩=some (.slice R2.sa (ah m'.rows j).ak.length R2.sc))∧(V.cell? ⟨wr.heap.size+1,2,none⟩=some (.slice (some ⟨g2,f2,none⟩) m'.rows.length M2.rc))∧V.cell? ⟨wr.heap.size+1,4,none⟩=some (.bool m'.done)):=⟨y3,z2,z4⟩;clear ea eb T hrs hrx Uw PL au2 YG c0 c1 c2 c3 c4 z0 z1 z2 z3 z4 d0 d1 d2 d3 d4 d5 d6 d7 y0 y1 y2 y3 y4 y5 y6 y7 hbg hfo;refine eU ?_;repeat (go_big_quiet_step ((first|(go_at_call 16;with_reducible exact aQ _ (CB _))|(go_at_call 17;with_reducible exact aQ _ (CF _))|rfl)))
     refine wpQuiet_nil (dK fun wE aJ=>?_)
     have TE:∀ {x v},V.cell? x=some v→wE.cell? x=some v:=fun h=>(aJ.cell (World.block_lt_of_cell? _ _ h)).trans h
     have y3:=TE HY.out.1;have z2:=TE HY.out.2.1;have z4:=TE HY.out.2.2;have IQ:Hid (Gx wE o6 o6 A1 g∧Gx wE ox o6 A2 x∧aI.ow wE (dA 4 vC L) (.slice (some ⟨lb,lo,none⟩) L.length c) fl∧Below w.heap.size w wE):=⟨HR.out.1.below aJ,HR.out.2.1.below aJ,aI.cZ HR.out.2.2.1 aJ,HR.out.2.2.2.trans (aJ.mono HR.out.2.2.2.size)⟩;clear HR HY TE CB CF aJ pc2 pc3 pz2 pz3 pd0 pd1 pd2 pd3 pd4 pd5 pd6 pd7 py0 py1 py2 py3 py4 py5 py6 py7;have hs0:(0:Int)≤((ah m'.rows j).ak.length:Int):=by omega
     have hs1:((ah m'.rows j).ak.length:Int)≤(n:Int):=by omega
     have wk:wrap64 ((j:Int)+1)=(j:Int)+1:=by unfold wrap64;omega
     have w1':wrap64 ((n:Int)-((ah m'.rows j).ak.length:Int))=(n:Int)-((ah m'.rows j).ak.length:Int):=by unfold wrap64;omega
     have w2':wrap64 (2*((n:Int)-((ah m'.rows j).ak.length:Int)))=2*((n:Int)-((ah m'.rows j).ak.length:Int)):=by unfold wrap64;omega
     rcases Bool.eq_false_or_eq_true m'.done with hdd|hdd
     ·have h9:=hdn hdd
      have g9:¬ (2*((n:Int)-((ah m'.rows j).ak.length:Int))≤(n:Int)):=by omega
      rw[hdd] at z4;clear hdn h9 hll;generalize (ah m'.rows j).ak.length=sl at *;go_wp2;go_roundw
      case rel=>exact⟨j+1,by omega,by go_num,IQ.out.1,IQ.out.2.1,IQ.out.2.2.1,IQ.out.2.2.2⟩
      case measure=>simp[intOf];omega
     ·rw[hdd] at z4
      clear hdn hll;generalize (ah m'.rows j).ak.length=sl at *;go_wp2;go_roundw
      case rel=>exact⟨j+1,by omega,by go_num,IQ.out.1,IQ.out.2.1,IQ.out.2.2.1,IQ.out.2.2.2⟩
      case measure=>simp[intOf];omega
    ·have j1:¬ ((j:Int)<(n:Int)):=by omega
     obtain rfl:j=n:=by omega
     obtain⟨x0,x1,x2⟩:=Bx.g3 PK.out.box;obtain⟨c0,c1,c2⟩:=Bx.g3 Aa.out.box;have c0':=Aa.out.box.f 0;have c1':=Aa.out.box.f 1;have c2':=Aa.out.box.f 2;have hP:=Aa.out.put PK.out;have wk:wrap64 ((k:Int)+1)=(k:Int)+1:=by unfold wrap64;omega
     have hwt:=qp wr o6 (a:=.slice A2.ma x.mem.length A2.mc) (b:=.slice A2.ua x.up.length A2.uc) (c:=.slice A2.la x.aG.length A2.lc);have hLP:=aI.lU Zm.out hwt (fun b hb e=>EO.out b hb e)
     have hBP:=hwt.below iw.out iw.out.size (fun b e=>by rw[e];exact KH.out)
     rw[hnx] at hP hLP hBP;have HP:Hid (Gx (((wr.setCell ⟨o6,0,none⟩ (.slice A2.ma j A2.mc)).setCell ⟨o6,1,none⟩ (.slice A2.ua x.up.length A2.uc)).setCell ⟨o6,2,none⟩ (.slice A2.la x.aG.length A2.lc)) o6 o6 A2 x∧aI.ow (((wr.setCell ⟨o6,0,none⟩ (.slice A2.ma j A2.mc)).setCell ⟨o6,1,none⟩ (.slice A2.ua x.up.length A2.uc)).setCell ⟨o6,2,none⟩ (.slice A2.la x.aG.length A2.lc)) (dA 4 vC L) (.slice (some ⟨lb,lo,none⟩) L.length c) fl∧Below w.heap.size w (((wr.setCell ⟨o6,0,none⟩ (.slice A2.ma j A2.mc)).setCell ⟨o6,1,none⟩ (.slice A2.ua x.up.length A2.uc)).setCell ⟨o6,2,none⟩ (.slice A2.la x.aG.length A2.lc))):=⟨hP,hLP,hBP⟩;clear hP hwt hLP hBP;go_wp2;go_roundw
     case rel=>exact⟨k+1,A2,x,by omega,by go_num,jZ.out,by simpa using zM.out,HP.out.1,HP.out.2.1,HP.out.2.2⟩
     case measure=>simp[intOf];omega
  ·have k1:¬ ((k:Int)<(L.length:Int)):=by omega
   have QV:=hGo A1 g wr (HG.out.ok cO.out.rW);have e1:jf g=true:=JO.2 ⟨n,cO.out.rW⟩;rw[e1] at QV;unfold iO jF at QV;obtain⟨c0,c1,c2⟩:=Bx.g3 HG.out.box;clear e1 HL HG;go_wp2_with fail
   refine QV.mono ?_;rintro e w9 ⟨rfl,hb9⟩;have HE:=aj (l7.out.trans (hb9.mono l7.out.size));clear QV hb9 c0 c1 c2;go_wp2;go_ret
   exact⟨rfl,HE.out⟩
end
section
open Go.RowKit
theorem PU.uS {w:World} {a:Option Addr} {len cap:Nat} {zs:List Int} (h:PU .u8 w a len cap zs):kW w a len (fun i=>zs.getD i 0):=by
 rcases h with ⟨rfl,rfl,rfl,rfl⟩|⟨x,rfl,hl,hm,hz,hcell,hwz⟩
 ·exact⟨fun i hi=>absurd hi (Nat.not_lt_zero _),.inl rfl⟩
 ·refine⟨fun i hi=>?_, ?_⟩
  ·have := bounds_u8 (hwz (zs.getD i 0) (by
    have hi':i<zs.length:=by omega
    simp[hi']))
   omega
  ·by_cases h0:len=0
   ·exact .inl h0
   ·obtain⟨b,off,spot⟩:=x
    have hc:=hcell 0 (by omega)
    have hspot:spot=none:=by simpa[Addr.add] using World.cell?_spot hc
    subst hspot;refine .inr ⟨b,off,rfl,fun i hi=>?_⟩
    have:=hcell i (by omega)
    by_cases hi0:i=0
    ·subst hi0;simpa[Addr.add] using this
    ·simpa[Addr.add,hi0] using this
end
end Go.Proofs.YtafimeakbdmkjaaGreat