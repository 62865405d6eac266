/-
  Texts in one.
-/
import Derived.Test.YtafimeakbdmkjaaGreatZaa
import Derived.Test.YtafimeakbdmkjaaGreatZaj
import Derived.Test.YtafimeakbdmkjaaGreatZac
import Derived.Test.YtafimeakbdmkjaaGreatZab
namespace Go.Proofs.YtafimeakbdmkjaaGreat
set_option linter.unusedVariables false
set_option linter.unusedSimpArgs false
open Go.RowKit Go.Sort
set_option maxRecDepth 100000
set_option maxHeartbeats 12800000
theorem H8 {cs:List Int} {M:Nat} (h:∀ i,i<cs.length→el cs i≤(M:Int)):∀ d,dh cs (M+d)=dh cs M
 | 0=>rfl
 | d+1=>by
  rw[← Nat.add_assoc,mM,H8 h d]
  have:iC cs (M+d) cs.length=[]:=by
   unfold iC
   have:(List.range cs.length).filter (fun i=>decide (((M+d:Nat):Int)<el cs i))=[]:=by
    rw[List.filter_eq_nil_iff];intro i hi;have:=h i (List.mem_range.1 hi);simp
    omega
   rw[this]
   rfl
  rw[this,List.append_nil]
theorem KJ {cs:List Int} (h1:∀ i,i<cs.length→0≤el cs i∧el cs i≤12):∀ k,k≤cs.length→nR cs k≤12
 | 0,_=>by simp[nR,hiL]
 | k+1,hk=>by
  rw[Ei (by omega)]
  have:=KJ h1 k (by omega)
  have:=(h1 k (by omega)).2
  omega
theorem aa3 {cs:List Int} (h1:∀ i,i<cs.length→0≤el cs i∧el cs i≤12):dh cs (nR cs cs.length).toNat=dh cs 12:=by
 have hb:=SX (fun i hi=>⟨(h1 i hi).1,by have:=(h1 i hi).2;omega⟩) cs.length (Nat.le_refl _)
 have hm:=KJ h1 cs.length (Nat.le_refl _);have:=H8 (cs:=cs) (M:=(nR cs cs.length).toNat) (fun i hi=>by have:=hb.2.2 i hi;omega) (12-(nR cs cs.length).toNat)
 rw[show (nR cs cs.length).toNat+(12-(nR cs cs.length).toNat)=12 by omega] at this
 exact this.symm
theorem SY {R:List Rw} {id:Nat} {o:Rw} {L:List Nat} {k:Nat} (hk:k<L.length):ends R id o (L.take (k+1))=(ends R id o (L.take k)&&((ah R (L.getD k 0)).aB&&(decide ((ah R (L.getD k 0)).aC=o.aC)&&(decide ((ah R (L.getD k 0)).aA=o.aA)&&decide ((id:Int)∉(ah R (L.getD k 0)).ak))))):=by
 have e:L.getD k 0=L[k]:=by simp[List.getD,hk]
 unfold ends;rw[List.take_succ_eq_append_getElem hk,List.all_append,e];simp
theorem aa4 {R:List Rw} {id:Nat} {o:Rw} {L:List Nat} {k:Nat} (hk:k<L.length) (h:((ah R (L.getD k 0)).aB&&(decide ((ah R (L.getD k 0)).aC=o.aC)&&(decide ((ah R (L.getD k 0)).aA=o.aA)&&decide ((id:Int)∉(ah R (L.getD k 0)).ak))))=false):ends R id o L=false:=by
 rw[ends,List.all_eq_false];exact⟨L.getD k 0,jq hk,by simp only[h];decide⟩
def fP (s Z:List Int) (j:Nat):List Int:=(Z.take j).foldl (fun s q=>if q∈s then s else bT s q) s
theorem vM {s Z:List Int} {j:Nat} (hj:j<Z.length):fP s Z (j+1)=if el Z j∈fP s Z j then fP s Z j else bT (fP s Z j) (el Z j):=by
 have e:el Z j=Z[j]:=by simp[el,hj]
 unfold fP;rw[List.take_succ_eq_append_getElem hj,List.foldl_append,e]
 rfl
theorem H9 {s Z:List Int}:fP s Z Z.length=Z.foldl (fun s q=>if q∈s then s else bT s q) s:=by rw[fP,List.take_length]
theorem xP {s Z:List Int}:∀ j,(fP s Z j).length≤s.length+j
 | 0=>by simp[fP]
 | j+1=>by
  rcases Nat.lt_or_ge j Z.length with h|h
  ·rw[vM h]
   have:=xP (s:=s) (Z:=Z) j
   split
   ·omega
   ·have:=Vk (fP s Z j) (el Z j);omega
  ·have e:fP s Z (j+1)=fP s Z j:=by unfold fP;rw[List.take_of_length_le (by omega),List.take_of_length_le h]
   rw[e];have:=xP (s:=s) (Z:=Z) j;omega
theorem vN {s Z:List Int} (h1:Fits s) (h2:Fits Z):∀ j,Fits (fP s Z j)
 | 0=>h1
 | j+1=>by
  rcases Nat.lt_or_ge j Z.length with h|h
  ·rw[vM h]
   have ih:=vN h1 h2 j
   split
   ·exact ih
   ·intro x hx
    rcases jS.1 hx with k|k
    ·rw[k];exact h2 _ (iF h)
    ·exact ih x k
  ·have e:fP s Z (j+1)=fP s Z j:=by unfold fP;rw[List.take_of_length_le (by omega),List.take_of_length_le h]
   rw[e];exact vN h1 h2 j
def E8 (m:Mb) (i:Nat) (L:List Nat):Mb:=if ends m.rows i (ah m.rows i) L=true then { m with done:=true,au:=gG m.au (ah m.rows i).aA } else m
theorem Mw.ay4 {w X:World} {B o:Nat} {m:Mb} {fp:Fp} {g off c:Nat} (h:Mw w X B o m fp g off c) {k:Nat} (hk:k<m.rows.length) {A:Ra} (Hu:RV X g (off+k*8) A (ah m.rows k)):oQ X A.ma (ah m.rows k).aA B:=by
 obtain⟨dD,hp,hf1,hgo⟩:=h.bU.next;obtain⟨g',off',c',f,h1,hgB,hfg,hfs,⟨vs,hpc,hov,uZ⟩,hput⟩:=hp.el (F:=eY) gI (by omega) (j:=2) (L:=m.rows) rfl (dW hk)
 have e:=Option.some.inj (h1.symm.trans h.rws)
 cases e
 have hv:=Bv.vals (A:=A) ⟨hpc,hov,uZ⟩ Hu;obtain⟨A',e',hl⟩:=rU hov;rw[hv] at e';obtain rfl:=Oa e';have hnB:¬ f B:=fun k=>hp.nB (hfs B k)
 obtain⟨u1,rD,f1,g1,e1,o1,h2,d1,i1⟩:=hl
 cases e1
 obtain⟨u2,uy,f2,g2,e2,o2,h3,d2,i2⟩:=h2
 cases e2
 obtain⟨u3,Dj,f3,g3,e3,o3,h4,d3,i3⟩:=h3
 cases e3
 obtain⟨u4,Ju,f4,g4,e4,o4,h5,d4,i4⟩:=h4
 cases e4
 exact⟨Hu.2.aA,Qr o4 (fun k=>hnB ((i1 B).2 (.inr ((i2 B).2 (.inr ((i3 B).2 (.inr ((i4 B).2 (.inl k)))))))))⟩
theorem S9 (B o:Nat) (m:Mb) (i n:Nat) (L:List Nat) (la:Option Addr) (lc:Nat) (fl fp:Fp) (w:World) (h:dN w B o (gW m) fp) (ok:dO m i n) (hrd:(ah m.rows i).aB=true) (hl:aI.ow w (bQ (lN L)) (.slice la L.length lc) fl) (hL:∀ k∈L,k<n) (hLn:L.length≤n) :
  Calls Tryz.prog 121 #[.pointer (some ⟨B,o,none⟩),.slice la L.length lc] w fun e w'=>e=.returned (.tuple #[])∧Mk w w' B o (E8 m i L) fp:=by
 have bH:=dH;have hil:i<m.rows.length:=by rw[ok.len];exact ok.lt
 obtain⟨g,off,c,M0⟩:=Mw.start h (by omega)
 obtain⟨c0,c1,c4⟩:=M0.id';have jP:=M0.rws;rw[ok.hid] at c0;have i0:(0:Int)≤(i:Int):=by omega
 have i1:(i:Int)<(m.rows.length:Int):=by omega
 have HC2:=aj M0.rws;have ig:=aj M0;have hr:=ok.ok i ok.lt;have fG:=hr.n5;have Dw:Hid (∀ X,Below w.heap.size w X→Vec X la (lN L).length (lN L)):=fun X hX=>jo (by rw[eP];exact aI.cZ hl hX) (sW hL (by omega))
 have HL:=aj hL;obtain⟨Ao,an4,_,_⟩:=M0.KC ok.fit hil;have an5:=aj an4;obtain⟨⟨⟨d0,d1,d2,d3⟩,d4,d5,d6,d7⟩,Qu⟩:=an4;have ay5:=aj h.lt;generalize hro:ah m.rows i=ro at *;have YS:=aj hro;have HRD:=aj hrd;clear hro hrd
 have KS:∀ X,Below w.heap.size w X→(X.cell? ⟨B,o+2,none⟩=some (.slice (some ⟨g,off,none⟩) m.rows.length c)∧X.cell? ⟨B,o,none⟩=some (.int .i64 (i:Int))∧X.cell? ⟨g,off+i*8,none⟩=some (.int .i64 ro.ver)∧X.cell? ⟨g,off+i*8+1,none⟩=some (.slice Ao.ta ro.txt.length Ao.tc)∧X.cell? ⟨g,off+i*8+2,none⟩=some (.slice Ao.ga ro.got.length Ao.gc)∧X.cell? ⟨g,off+i*8+3,none⟩=some (.slice Ao.sa ro.ak.length Ao.sc)∧X.cell? ⟨g,off+i*8+4,none⟩=some (.bool ro.wed)∧X.cell? ⟨g,off+i*8+5,none⟩=some (.bool ro.aB)∧X.cell? ⟨g,off+i*8+6,none⟩=some (.int .i64 ro.aC)∧X.cell? ⟨g,off+i*8+7,none⟩=some (.slice Ao.ma ro.aA.length Ao.mc)):=fun X hX=>by
  have t:∀ {x v},w.cell? x=some v→X.cell? x=some v:=fun h=>(hX.cell (World.block_lt_of_cell? _ _ h)).trans h
  exact⟨t jP,t c0,t d0,t d1,t d2,t d3,t d4,t d5,t d6,t d7⟩
 have hbd:=(Same.drewN w 1).below;clear c0 c1 c4 jP M0 h hl hL Qu d0 d1 d2 d3 d4 d5 d6 d7;go_enter Tryz.func121,Tryz.ntmps121
 go_wp2_with fail
 refine jE (S:=fun X:World=>X.cell? ⟨B,o+2,none⟩=some (.slice (some ⟨g,off,none⟩) m.rows.length c)∧X.cell? ⟨B,o,none⟩=some (.int .i64 (i:Int))∧X.cell? ⟨g,off+i*8,none⟩=some (.int .i64 ro.ver)∧X.cell? ⟨g,off+i*8+1,none⟩=some (.slice Ao.ta ro.txt.length Ao.tc)∧X.cell? ⟨g,off+i*8+2,none⟩=some (.slice Ao.ga ro.got.length Ao.gc)∧X.cell? ⟨g,off+i*8+3,none⟩=some (.slice Ao.sa ro.ak.length Ao.sc)∧X.cell? ⟨g,off+i*8+4,none⟩=some (.bool ro.wed)∧X.cell? ⟨g,off+i*8+5,none⟩=some (.bool ro.aB)∧X.cell? ⟨g,off+i*8+6,none⟩=some (.int .i64 ro.aC)∧X.cell? ⟨g,off+i*8+7,none⟩=some (.slice Ao.ma ro.aA.length Ao.mc)) 11 bH ((KS _ hbd)) fun hHeld=>?_
 refine aY (i:=0) rfl hHeld ?_;refine aY (i:=1) rfl hHeld ?_;refine aY (i:=2) rfl hHeld ?_;refine aY (i:=3) rfl hHeld ?_;refine aY (i:=4) rfl hHeld ?_;refine aY (i:=5) rfl hHeld ?_;refine aY (i:=6) rfl hHeld ?_;refine aY (i:=7) rfl hHeld ?_;refine aY (i:=8) rfl hHeld ?_;refine aY (i:=9) rfl hHeld ?_;refine dI (i:=10) rfl fun K hK=>?_
 go_simp;have hb2:Below w.heap.size w (w.drew.alloc (.cells #[.int .i64 0,.slice none 0 0,.slice none 0 0,.slice none 0 0,.bool false,.bool false,.int .i64 0,.slice none 0 0] 44)):=hbd.trans ((aF w.drew _).mono hbd.size);refine hK.out _ _ (KS _ hb2) (fun aK=>?_)
 clear hK hHeld;have hHeld:=aK;try simp only[dw]
 refine lQ rfl fun K hK=>?_
 go_simp;refine hK.out _ _ ?_;have hb5:Below w.heap.size w (w.alloc (.cells #[.int .i64 ro.ver,.slice Ao.ta ro.txt.length Ao.tc,.slice Ao.ga ro.got.length Ao.gc,.slice Ao.sa ro.ak.length Ao.sc,.bool ro.wed,.bool ro.aB,.int .i64 ro.aC,.slice Ao.ma ro.aA.length Ao.mc] 44)).drew:=(aF w _).trans ((Same.drewN _ 1).below.mono (aF w _).size);have hx5:Bx (w.alloc (.cells #[.int .i64 ro.ver,.slice Ao.ta ro.txt.length Ao.tc,.slice Ao.ga ro.got.length Ao.gc,.slice Ao.sa ro.ak.length Ao.sc,.bool ro.wed,.bool ro.aB,.int .i64 ro.aC,.slice Ao.ma ro.aA.length Ao.mc] 44)).drew w.heap.size 44 #[.int .i64 ro.ver,.slice Ao.ta ro.txt.length Ao.tc,.slice Ao.ga ro.got.length Ao.gc,.slice Ao.sa ro.ak.length Ao.sc,.bool ro.wed,.bool ro.aB,.int .i64 ro.aC,.slice Ao.ma ro.aA.length Ao.mc]:=Bx.new w _ _;generalize (w.alloc (.cells #[.int .i64 ro.ver,.slice Ao.ta ro.txt.length Ao.tc,.slice Ao.ga ro.got.length Ao.gc,.slice Ao.sa ro.ak.length Ao.sc,.bool ro.wed,.bool ro.aB,.int .i64 ro.aC,.slice Ao.ma ro.aA.length Ao.mc] 44)).drew=W1 at *;clear hHeld KS hbd hb2 hK;have HXo:Hid (Bx W1 w.heap.size 44 #[.int .i64 ro.ver,.slice Ao.ta ro.txt.length Ao.tc,.slice Ao.ga ro.got.length Ao.gc,.slice Ao.sa ro.ak.length Ao.sc,.bool ro.wed,.bool ro.aB,.int .i64 ro.aC,.slice Ao.ma ro.aA.length Ao.mc]):=hx5;have bF:Hid (Mw w W1 B o m fp g off c):=ig.out.step hb5;have HB1:Hid (Below w.heap.size w W1):=hb5;clear hx5 hb5 ig;go_wp2_with fail
 go_loopw [5] (fun v wr=>∃ k:Nat,k≤L.length∧v=.int .i64 (k:Int)∧Hid (ends m.rows i ro (L.take k)=true)∧Below W1.heap.size W1 wr) (fun v _=>L.length-(intOf v).toNat)
 case atStart=>exact⟨0,Nat.zero_le _,rfl,rfl,Below.refl _ _⟩
 case round =>
  obtain⟨k,hk,rfl,Fa,hgr⟩:=hrel;have M:=bF.out.step hgr;have hBw:=HB1.out.trans (hgr.mono HB1.out.size);by_cases hlt:k<L.length
  ·have l9:L.getD k 0<n:=HL.out _ (jq hlt)
   have pK:L.getD k 0<m.rows.length:=by rw[ok.len];exact l9
   have nP:=Dw.out wr hBw;rcases nP.2.2 with hz|⟨lb,lo,hla,hlc⟩
   ·rw[eP] at hz;omega
   have hlk:=hlc k (by rw[eP];exact hlt)
   rw[rX hlt] at hlk;obtain⟨AJ,wJ,_,_⟩:=M.KC ok.fit pK;have HEt:=SY (R:=m.rows) (id:=i) (o:=ro) hlt;have ay6:Hid (((ah m.rows (L.getD k 0)).aB&&(decide ((ah m.rows (L.getD k 0)).aC=ro.aC)&&(decide ((ah m.rows (L.getD k 0)).aA=ro.aA)&&decide ((i:Int)∉(ah m.rows (L.getD k 0)).ak))))=false→ends m.rows i ro L=false):=fun h=>aa4 hlt h
   rw[Fa.out,Bool.true_and] at HEt;have ay7:=aj HEt;clear HEt;have an3:=ok.ok _ l9;generalize L.getD k 0=J at *;have k1:(k:Int)<(L.length:Int):=by omega
   have k0:(0:Int)≤(k:Int):=by omega
   have J0:(0:Int)≤(J:Int):=by omega
   have J1:(J:Int)<(m.rows.length:Int):=by omega
   have jP:=M.rws;obtain⟨⟨⟨d0,d1,d2,d3⟩,d4,d5,d6,d7⟩,wK⟩:=wJ;have Eh:=aj wK;have Qv:=aj (an5.out.2.below hBw);have HM:=aj M;have KN:=aj (HXo.out.below hgr);have HGr:=aj hgr;generalize hrr:ah m.rows J=r at *
   have KS:∀ X,Below wr.heap.size wr X→(X.cell? ⟨B,o+2,none⟩=some (.slice (some ⟨g,off,none⟩) m.rows.length c)∧X.cell? ⟨lb,lo+k,none⟩=some (.int .i64 (J:Int))∧X.cell? ⟨g,off+J*8,none⟩=some (.int .i64 r.ver)∧X.cell? ⟨g,off+J*8+1,none⟩=some (.slice AJ.ta r.txt.length AJ.tc)∧X.cell? ⟨g,off+J*8+2,none⟩=some (.slice AJ.ga r.got.length AJ.gc)∧X.cell? ⟨g,off+J*8+3,none⟩=some (.slice AJ.sa r.ak.length AJ.sc)∧X.cell? ⟨g,off+J*8+4,none⟩=some (.bool r.wed)∧X.cell? ⟨g,off+J*8+5,none⟩=some (.bool r.aB)∧X.cell? ⟨g,off+J*8+6,none⟩=some (.int .i64 r.aC)∧X.cell? ⟨g,off+J*8+7,none⟩=some (.slice AJ.ma r.aA.length AJ.mc)):=fun X hX=>by
    have t:∀ {x v},wr.cell? x=some v→X.cell? x=some v:=fun h=>(hX.cell (World.block_lt_of_cell? _ _ h)).trans h
    exact⟨t jP,t hlk,t d0,t d1,t d2,t d3,t d4,t d5,t d6,t d7⟩
   have hbd:=(Same.drewN wr 1).below;clear hrr M wK hlc hlk jP d0 d1 d2 d3 d4 d5 d6 d7 hBw nP hgr;subst hla;go_wp2_with fail
   refine jE (S:=fun X:World=>X.cell? ⟨B,o+2,none⟩=some (.slice (some ⟨g,off,none⟩) m.rows.length c)∧X.cell? ⟨lb,lo+k,none⟩=some (.int .i64 (J:Int))∧X.cell? ⟨g,off+J*8,none⟩=some (.int .i64 r.ver)∧X.cell? ⟨g,off+J*8+1,none⟩=some (.slice AJ.ta r.txt.length AJ.tc)∧X.cell? ⟨g,off+J*8+2,none⟩=some (.slice AJ.ga r.got.length AJ.gc)∧X.cell? ⟨g,off+J*8+3,none⟩=some (.slice AJ.sa r.ak.length AJ.sc)∧X.cell? ⟨g,off+J*8+4,none⟩=some (.bool r.wed)∧X.cell? ⟨g,off+J*8+5,none⟩=some (.bool r.aB)∧X.cell? ⟨g,off+J*8+6,none⟩=some (.int .i64 r.aC)∧X.cell? ⟨g,off+J*8+7,none⟩=some (.slice AJ.ma r.aA.length AJ.mc)) 11 bH ((KS _ hbd)) fun hHeld=>?_
   refine aY (i:=0) rfl hHeld ?_;refine aY (i:=1) rfl hHeld ?_;refine aY (i:=2) rfl hHeld ?_;refine aY (i:=3) rfl hHeld ?_;refine aY (i:=4) rfl hHeld ?_;refine aY (i:=5) rfl hHeld ?_;refine aY (i:=6) rfl hHeld ?_;refine aY (i:=7) rfl hHeld ?_;refine aY (i:=8) rfl hHeld ?_;refine aY (i:=9) rfl hHeld ?_;refine dI (i:=10) rfl fun K hK=>?_
   go_simp;have hb2:Below wr.heap.size wr (wr.drew.alloc (.cells #[.int .i64 0,.slice none 0 0,.slice none 0 0,.slice none 0 0,.bool false,.bool false,.int .i64 0,.slice none 0 0] 44)):=hbd.trans ((aF wr.drew _).mono hbd.size);refine hK.out _ _ (KS _ hb2) (fun aK=>?_)
   clear hK hHeld;have hHeld:=aK;try simp only[dw]
   refine lQ rfl fun K hK=>?_
   go_simp;refine hK.out _ _ ?_;have hb5:Below wr.heap.size wr (wr.alloc (.cells #[.int .i64 r.ver,.slice AJ.ta r.txt.length AJ.tc,.slice AJ.ga r.got.length AJ.gc,.slice AJ.sa r.ak.length AJ.sc,.bool r.wed,.bool r.aB,.int .i64 r.aC,.slice AJ.ma r.aA.length AJ.mc] 44)).drew:=(aF wr _).trans ((Same.drewN _ 1).below.mono (aF wr _).size);have hx5:Bx (wr.alloc (.cells #[.int .i64 r.ver,.slice AJ.ta r.txt.length AJ.tc,.slice AJ.ga r.got.length AJ.gc,.slice AJ.sa r.ak.length AJ.sc,.bool r.wed,.bool r.aB,.int .i64 r.aC,.slice AJ.ma r.aA.length AJ.mc] 44)).drew wr.heap.size 44 #[.int .i64 r.ver,.slice AJ.ta r.txt.length AJ.tc,.slice AJ.ga r.got.length AJ.gc,.slice AJ.sa r.ak.length AJ.sc,.bool r.wed,.bool r.aB,.int .i64 r.aC,.slice AJ.ma r.aA.length AJ.mc]:=Bx.new wr _ _;generalize (wr.alloc (.cells #[.int .i64 r.ver,.slice AJ.ta r.txt.length AJ.tc,.slice AJ.ga r.got.length AJ.gc,.slice AJ.sa r.ak.length AJ.sc,.bool r.wed,.bool r.aB,.int .i64 r.aC,.slice AJ.ma r.aA.length AJ.mc] 44)).drew=W5 at *;clear hHeld KS hbd hb2 hK;have lS:Hid (Below wr.heap.size wr W5):=hb5;obtain⟨⟨x0,x1,x2,x3⟩,x4,x5,x6,x7⟩:=Bx.r8 hx5;obtain⟨⟨y0,y1,y2,y3⟩,y4,y5,y6,y7⟩:=Bx.r8 (KN.out.below hb5);have cid:=(HM.out.step hb5).id'.1;rw[ok.hid] at cid;have T5:∀ {x v},W5.cell? x=some v→∀ q:Bk W5,q.w.cell? x=some v:=fun h q=>(q.h.cell (World.block_lt_of_cell? _ _ h)).trans h
   have EW:=T5 x3;have Ku:=T5 x5;have px6:=T5 x6;have px7:=T5 x7;have py6:=T5 y6;have py7:=T5 y7;have pid:=T5 cid
   have C1:∀ q:Bk W5,Calls Tryz.prog 153 #[.slice AJ.ma r.aA.length AJ.mc,.slice Ao.ma ro.aA.length Ao.mc] q.w fun e w'=>e=.returned (.bool (decide (r.aA=ro.aA)))∧Below q.w.heap.size q.w w':=fun q=>by
    have hq:=lS.out.trans (q.h.mono lS.out.size);exact (EZ AJ.ma Ao.ma r.aA.length AJ.mc ro.aA.length Ao.mc r.aA ro.aA q.w (Eh.out.below hq).aA (Qv.out.below hq).aA Eh.out.mm).mono (fun e w' ⟨h4,n,h5⟩=>⟨h4,by rw[h5];exact bg (Below.refl _ _)⟩)
   have C2:∀ q:Bk W5,Calls Tryz.prog 113 #[.slice AJ.sa r.ak.length AJ.sc,.int .i64 (i:Int)] q.w fun e w'=>e=.returned (.bool (decide ((i:Int)∈r.ak)))∧Below q.w.heap.size q.w w':=fun q=>by
    have hq:=lS.out.trans (q.h.mono lS.out.size);exact (oI AJ.sa r.ak.length AJ.sc (i:Int) r.ak q.w (Eh.out.below hq).ak Eh.out.ms).mono (fun e w' h=>⟨h.1,by rw[h.2];exact Below.refl _ _⟩)
   clear x0 x1 x2 x3 x4 x5 x6 x7 y0 y1 y2 y3 y4 y5 y6 y7 hx5 hb5 T5 cid;obtain⟨dd,hdd⟩:∃ dd:Bool,Hid (dd=(r.aB&&(decide (r.aC=ro.aC)&&(decide (r.aA=ro.aA)&&decide ((i:Int)∉r.ak))))):=⟨_,rfl⟩;go_upto_region 5 with fail
   go_cut [61] from 35 to 61 (fun v X=>v=.bool (!dd)∧Below W5.heap.size W5 X)
   case first =>
    rcases Bool.eq_false_or_eq_true r.aB with a1|a1
    rotate_left
    ·have hd0:Hid (dd=false):=by rw[Hid,hdd.out,a1];rfl
     rw[a1] at Ku;clear a1;refine eU ?_;repeat (go_big_quiet_step ((first|(go_at_call 153;exact aQ _ (C1 _))|(go_at_call 113;exact aQ _ (C2 _))|rfl)))
     refine wpQuiet_nil (dK fun wE aJ=>?_)
     try go_wp2_with fail
     go_meet
     case rel=>exact⟨by rw[hd0.out];rfl,aJ⟩
    rw[a1] at Ku;by_cases a2:r.aC=ro.aC;rotate_left
    ·have hd0:Hid (dd=false):=by rw[Hid,hdd.out,decide_eq_false a2];simp
     have g2:(r.aC != ro.aC)=true:=by simpa using a2
     clear a1 a2;refine eU ?_;repeat (go_big_quiet_step ((first|(go_at_call 153;exact aQ _ (C1 _))|(go_at_call 113;exact aQ _ (C2 _))|rfl)))
     refine wpQuiet_nil (dK fun wE aJ=>?_)
     try go_wp2_with fail
     go_meet
     case rel=>exact⟨by rw[hd0.out];rfl,aJ⟩
    have g2:(r.aC != ro.aC)=false:=by simpa using a2
    by_cases a3:r.aA=ro.aA;rotate_left
    ·have hd0:Hid (dd=false):=by rw[Hid,hdd.out,decide_eq_false a3];simp
     rw[decide_eq_false a3] at C1;clear a1 a2 a3;refine eU ?_;repeat (go_big_quiet_step ((first|(go_at_call 153;exact aQ _ (C1 _))|(go_at_call 113;exact aQ _ (C2 _))|rfl)))
     refine wpQuiet_nil (dK fun wE aJ=>?_)
     try go_wp2_with fail
     go_meet
     case rel=>exact⟨by rw[hd0.out];rfl,aJ⟩
    rw[decide_eq_true a3] at C1;by_cases a4:(i:Int)∈r.ak
    ·have hd0:Hid (dd=false):=by rw[Hid,hdd.out];simp[a4]
     rw[decide_eq_true a4] at C2;clear a1 a2 a3 a4;refine eU ?_;repeat (go_big_quiet_step ((first|(go_at_call 153;exact aQ _ (C1 _))|(go_at_call 113;exact aQ _ (C2 _))|rfl)))
     refine wpQuiet_nil (dK fun wE aJ=>?_)
     try go_wp2_with fail
     go_meet
     case rel=>exact⟨by rw[hd0.out];rfl,aJ⟩
    have hd0:Hid (dd=true):=by rw[Hid,hdd.out,a1,decide_eq_true a2,decide_eq_true a3,decide_eq_true a4];rfl
    rw[decide_eq_false a4] at C2;clear a1 a2 a3 a4;refine eU ?_;repeat (go_big_quiet_step ((first|(go_at_call 153;exact aQ _ (C1 _))|(go_at_call 113;exact aQ _ (C2 _))|rfl)))
    refine wpQuiet_nil (dK fun wE aJ=>?_)
    try go_wp2_with fail
    go_meet
    case rel=>exact⟨by rw[hd0.out];rfl,aJ⟩
   case rest =>
    obtain⟨rfl,hBc⟩:=hcut;have E5:=lS.out.trans (hBc.mono lS.out.size);have gJ:=aj (HM.out.step E5);have HG6:=aj (HGr.out.trans (E5.mono HGr.out.size));clear EW Ku px6 px7 py6 py7 pid C1 C2 hBc E5
    cases dd with
    | false =>
     have HZ:=aj (ay6.out hdd.out.symm);go_wp2
     (try simp only[Exit.inBlock,Exit.then])
     refine bodyPost_ret (results_none rfl _ _ _) rfl ?_;rw[E8,YS.out,HZ.out];exact⟨rfl,gJ.out.mk' HC2.out rfl⟩
    | true =>
     have HE2:Hid (ends m.rows i ro (L.take (k+1))=true):=by rw[Hid,ay7.out];exact hdd.out.symm
     go_wp2;go_roundw
     case rel=>exact⟨k+1,by omega,by go_num,HE2,HG6.out⟩
     case measure=>simp[intOf];omega
  ·have k1:¬ ((k:Int)<(L.length:Int)):=by omega
   have HZ:Hid (E8 m i L={ m with done:=true,au:=gG m.au ro.aA }):=by
    have e:ends m.rows i ro L=true:=by rw[← Fa.out,List.take_of_length_le (by omega)]
    rw[Hid,E8,YS.out,e]
    rfl
   have an6:RV wr g (off+i*8) Ao (ah m.rows i):=by rw[YS.out];exact an5.out.below hBw
   have hVB:=M.ay4 hil an6;rw[YS.out] at hVB;obtain⟨u4,f4,q1,q2,_,_,q4⟩:=M.He (j:=4) (cl:=.v (.bool m.done)) rfl (by omega)
   obtain⟨q5,q6,M2⟩:=q4 wr (.v (.bool true)) (.bool true) (fun _=>False) { m with done:=true } rfl rfl (aO.refl _ _) ⟨rfl,fun _ h=>h⟩ (fun b hb=>hb.elim)
   have eF:Hid (Mw w (wr.setCell ⟨B,o+4,none⟩ (.bool true)) B o { m with done:=true } fp g off c):=M2
   have HV2:Hid (oQ (wr.setCell ⟨B,o+4,none⟩ (.bool true)) Ao.ma ro.aA B):=hVB.set _ _;have jZ:Hid (Bx (wr.setCell ⟨B,o+4,none⟩ (.bool true)) w.heap.size 44 #[.int .i64 ro.ver,.slice Ao.ta ro.txt.length Ao.tc,.slice Ao.ga ro.got.length Ao.gc,.slice Ao.sa ro.ak.length Ao.sc,.bool ro.wed,.bool ro.aB,.int .i64 ro.aC,.slice Ao.ma ro.aA.length Ao.mc]):=(HXo.out.below hgr).far (by have:=ay5.out;omega) _
   have htr:=hr.aB HRD.out;have htl:=htr.2.2.2.1;have h12:∀ j,j<ro.aA.length→0≤el ro.aA j∧el ro.aA j≤12:=fun j hj=>(fF hr.n5 htl).1 ⟨htr.2.2.1,htr.2.2.2.2⟩ j (by omega)
   have DC:=aj htl;have htp:0<ro.aA.length∧ro.aA.length≤5:=by omega
   clear M M2 an6 hVB hBw hgr q4 Fa htr htl;go_upto_region 6 with fail
   go_upto_region 7 with fail
   generalize wr.setCell ⟨B,o+4,none⟩ (.bool true)=V1 at *;clear q1 q2 q5 q6;have x7:=jZ.out.at 7 rfl;simp only[List.getElem_toArray,List.getElem_cons_succ,List.getElem_cons_zero] at x7;rcases HV2.out.vec.2.2 with h0|⟨tb,tof,hta,htc⟩
   ·omega
   rw[hta] at x7;have hW:=Np tb tof Ao.mc ro.aA ro.aA.length V1 rfl (by omega) (fun j hj=>htc j hj) (fun j hj=>by have:=h12 j hj;omega)
   rw[aa3 h12] at hW;clear hta htc;go_wp2_with fail
   refine hW.mono ?_;rintro e ws ⟨sg,so,sc,rfl,hsg,hO,hbs⟩;obtain⟨gy,f1,f2,_,M5,Tc⟩:=eF.out.sub hbs;have HSg:Hid (gG m.au ro.aA=fP m.au (dh ro.aA 12) (dh ro.aA 12).length):=by rw[Hid,H9];rfl
   have Bq:(dh ro.aA 12).length≤1000:=by
    have:=CY ro.aA 12;rw[DC.out] at this;omega
   have Td:Fits (dh ro.aA 12):=H6 (by omega) (by omega)
   have uJ:=aj Tc;have dJ:=aj M5;have HsB:Hid (¬ gy sg∧sg≠B):=⟨fun k=>by have:=f1 _ k;omega,by omega⟩
   generalize dh ro.aA 12=Z at *;have HOs:Hid (aI.ow ws (bQ Z) (.slice (some ⟨sg,so,none⟩) Z.length sc) (fun b=>b=sg)):=fB.2 ⟨_,sc,some sg,rfl,dR.of hO,fun b=>by simp[eq_comm]⟩
   clear hW x7 hO hbs f1 f2 Tc M5 hsg jZ HV2 eF;go_wp2_with fail
   go_loopw [8] (fun v wr=>∃ j:Nat,j≤Z.length∧v=.int .i64 (j:Int)∧Mw ws wr B o { m with done:=true,au:=fP m.au Z j } gy g off c) (fun v _=>Z.length-(intOf v).toNat)
   case atStart=>exact⟨0,Nat.zero_le _,rfl,dJ.out⟩
   case round =>
    obtain⟨j,hj,rfl,M⟩:=hrel;by_cases hlt2:j<Z.length
    ·have j1:(j:Int)<(Z.length:Int):=by omega
     have j0:(0:Int)≤(j:Int):=by omega
     have hsl:=xP (s:=m.au) (Z:=Z) j;have hsf:=vN (s:=m.au) (Z:=Z) ok.fit.2 Td j;have hms:=ok.sl;have HN:Hid (fP m.au Z (j+1)=if el Z j∈fP m.au Z j then fP m.au Z j else bT (fP m.au Z j) (el Z j)):=vM hlt2
     have Tf:=jo (M.Ob HOs.out (fun b hb=>by rw[hb];exact HsB.out)) Td
     rcases Tf.2.2 with hz|⟨zb,zo,ez,hzc⟩
     ·omega
     cases ez
     have hzj:=hzc j hlt2;generalize el Z j=x at *;generalize hsj:fP m.au Z j=sj at *;obtain⟨u,f,hu,hfz,how,sZ,hset⟩:=M.He (j:=3) (cl:=bQ sj) rfl (by omega)
     have how':=how;obtain⟨ya,yc,G,rfl,_,_⟩:=fB.1 how';have Ia:=jo how hsf;have HM:=aj M;have T5:∀ {x v},wr.cell? x=some v→∀ q:Bk wr,q.w.cell? x=some v:=fun h q=>(q.h.cell (World.block_lt_of_cell? _ _ h)).trans h
     have p3:=T5 hu;have pz:=T5 hzj;have C2:∀ q:Bk wr,Calls Tryz.prog 113 #[.slice ya sj.length yc,.int .i64 x] q.w fun e w'=>e=.returned (.bool (decide (x∈sj)))∧Below q.w.heap.size q.w w':=fun q=>(oI ya sj.length yc x sj q.w (Ia.below q.h (Nat.le_refl _)) (by unfold maxLen;omega)).mono (fun e w' h=>⟨h.1,by rw[h.2];exact Below.refl _ _⟩)
     clear hsj hset how how' sZ Ia hzc Tf M T5 hu hfz hzj;by_cases hxs:x∈sj
     ·have zT:Hid (fP m.au Z (j+1)=sj):=by rw[Hid,HN.out,if_pos hxs]
      rw[decide_eq_true hxs] at C2;clear hxs HN;go_wp2_with fail
      refine eU ?_;repeat (go_big_quiet_step ((first|(go_at_call 113;exact aQ _ (C2 _))|rfl)))
      refine wpQuiet_nil (dK fun wE aJ=>?_)
      have lD:=aj (HM.out.step aJ);clear p3 pz C2 aJ;go_wp2;go_roundw
      case rel=>exact⟨j+1,by omega,by go_num,by rw[zT.out];exact lD.out⟩
      case measure=>simp[intOf];omega
     ·have zT:Hid (fP m.au Z (j+1)=bT sj x):=by rw[Hid,HN.out,if_neg hxs]
      rw[decide_eq_false hxs] at C2;clear hxs HN;go_wp2_with fail
      refine eU ?_;repeat (go_big_quiet_step ((first|(go_at_call 113;exact aQ _ (C2 _))|rfl)))
      refine wpQuiet_nil (dK fun wE aJ=>?_)
      have M7:=HM.out.step aJ;have y3:=p3 ⟨wE,aJ⟩;have yz:=pz ⟨wE,aJ⟩;simp only at y3 yz
      obtain⟨u,f,hu,hfz,how,sZ,hset⟩:=M7.He (j:=3) (cl:=bQ sj) rfl (by omega)
      obtain rfl:=Option.some.inj (hu.symm.trans y3);have hbd:=(Same.drewN wE 1).below;have hP:=Jr ya yc sj x wE.drew f (aI.cZ how hbd) hsf (by omega)
      have KS:∀ X,Below wE.heap.size wE X→(X.cell? ⟨B,o+3,none⟩=some (.slice ya sj.length yc)∧X.cell? ⟨sg,so+j,none⟩=some (.int .i64 x)):=fun X hX=>by
       have t:∀ {x v},wE.cell? x=some v→X.cell? x=some v:=fun h=>(hX.cell (World.block_lt_of_cell? _ _ h)).trans h
       exact⟨t y3,t yz⟩
      have HS:=aj hset;clear M7 y3 yz hu hfz how sZ hset p3 pz C2 aJ;go_wp2_with fail
      refine jE (S:=fun X:World=>X.cell? ⟨B,o+3,none⟩=some (.slice ya sj.length yc)∧X.cell? ⟨sg,so+j,none⟩=some (.int .i64 x)) 12 bH ((KS _ hbd)) fun hHeld=>?_
      refine aY (i:=0) rfl hHeld ?_;refine aY (i:=1) rfl hHeld ?_;refine aY (i:=2) rfl hHeld ?_;refine aY (i:=3) rfl hHeld ?_;refine aY (i:=4) rfl hHeld ?_;refine aY (i:=5) rfl hHeld ?_;refine aY (i:=6) rfl hHeld ?_;refine aY (i:=7) rfl hHeld ?_;refine aY (i:=8) rfl hHeld ?_;refine dI (i:=9) rfl fun K hK=>?_
      go_simp
      go_at_call 106
      refine hP.mono ?_;rintro e w1 ⟨a1,e1',f1,rfl,k1',k2,k3⟩;have hb1:=hbd.trans (k3.mono hbd.size);obtain⟨z1,z2,M8⟩:=HS.out w1 (bQ (bT sj x)) _ f1 { m with done:=true,au:=bT sj x } rfl rfl (aO.of_below hb1) k1' (fun b hb=>k2 b hb)
      have lG:=aj M8;refine hK.out _ _ (KS _ hb1) (fun aK=>?_)
      clear hK hHeld;have hHeld:=aK;try simp only[dw]
      refine aS (i:=10) rfl ?_;refine aY (i:=11) rfl hHeld ?_;refine lQ rfl fun K hK=>?_
      go_simp;refine hK.out _ _ ?_;clear M8 k1' k2 k3 hP HS hHeld KS hbd hb1 hK;generalize w1.setCell ⟨B,o+3,none⟩ (.slice a1 (bT sj x).length e1')=V9 at *;clear z1 z2;go_wp2;go_roundw
      case rel=>exact⟨j+1,by omega,by go_num,by rw[zT.out];exact lG.out⟩
      case measure=>simp[intOf];omega
    ·have j1:¬ ((j:Int)<(Z.length:Int)):=by omega
     have ej:j=Z.length:=by omega
     have lD:Hid (Mw w wr B o { m with done:=true,au:=gG m.au ro.aA } fp g off c):=by
      rw[Hid,HSg.out,← ej];exact uJ.out _ _ M
     clear M ej;go_wp2;go_end0;rw[HZ.out];exact⟨rfl,lD.out.mk' HC2.out rfl⟩
theorem fK.wrt {w w':World} {p:Nat} {a:Option Addr} {len cap:Nat} {f:Fp} (h:fK w p a len cap) (hw:aO f w w') (hp:¬ f p):fK w' p a len cap:=by
 have hlt:=h.lt;obtain⟨i,x,hi,hh⟩:=h;exact⟨i,x,hi,(hw.block p hlt hp).trans hh⟩
theorem Cc.wrt {w X X':World} {p:Nat} {a:Option Addr} {len cap:Nat} {bs:Nat→Int} {f:Fp} (h:Cc w X p a len cap bs) (hw:aO f X X') (hp:¬ f p) (hl:∀ b,f b→w.heap.size≤b):Cc w X' p a len cap bs :=
 ⟨h.cur.wrt hw hp,h.code,hw.below h.below h.below.size hl,h.off,h.hl,h.hp⟩
theorem ku {X Y Y':World} {p:Nat} {f:Fp} (h:X.grownBy Y (some p)) (hw:aO f Y Y') (hl:∀ b,f b→X.heap.size≤b):X.grownBy Y' (some p) :=
 ⟨hw.os.trans h.os,hw.tape.trans h.tape,hw.output.trans h.output,Nat.le_trans h.size hw.size,fun b hb hn=>(hw.block b (Nat.lt_of_lt_of_le hb h.size) (fun e=>by have:=hl b e;omega)).trans (h.block b hb hn)⟩
structure SD (w X Y:World) (p:Nat) (a:Option Addr) (len cap:Nat) (bs:Nat→Int) (T:TypeId) (o:Nat) (Z C:Array Value) (cs:List aI) (vs:List Value) (fp:Fp):Prop where
 cc:Cc w Y p a len cap bs
 res:Bx Y X.heap.size T Z
 own:Bx Y o T C
 ls:bG Y cs vs fp
 iq:∀ b,fp b→X.heap.size<b∧b≠o
 hpo:p<X.heap.size
 ho:X.heap.size<o
 gr:X.grownBy Y (some p)
section
variable {w X Y Y':World} {p:Nat} {a:Option Addr} {len cap:Nat} {bs:Nat→Int} {T:TypeId} {o:Nat} {Z C:Array Value} {cs:List aI} {vs:List Value} {fp:Fp}
theorem SD.lt (h:SD w X Y p a len cap bs T o Z C cs vs fp):w.heap.size≤X.heap.size:=by have:=h.cc.hp;have:=h.hpo;omega
theorem SD.drawn (h:SD w X Y p a len cap bs T o Z C cs vs fp) (hg:Y.grownBy Y' (some p)) (hc:Cc w Y' p a len cap bs):SD w X Y' p a len cap bs T o Z C cs vs fp:=by
 have h1:=h.hpo;have h2:=h.ho;exact⟨hc,h.res.grown hg (by simp;omega),h.own.grown hg (by simp;omega),bP h.ls (aO.iZ hg) (fun b hb e=>by cases e;have:=(h.iq _ hb).1;omega),h.iq,h1,h2,bf h.gr hg⟩
theorem SD.step (h:SD w X Y p a len cap bs T o Z C cs vs fp) (hb:Below Y.heap.size Y Y'):SD w X Y' p a len cap bs T o Z C cs vs fp :=
 ⟨h.cc.step hb,h.res.below hb,h.own.below hb,bM h.ls hb,h.iq,h.hpo,h.ho,bf h.gr ⟨hb.os,hb.tape,hb.output,hb.size,fun x hx _=>hb.block x hx⟩⟩
theorem SD.drewN (h:SD w X Y p a len cap bs T o Z C cs vs fp) (n:Nat):SD w X (Y.drewN n) p a len cap bs T o Z C cs vs fp:=h.step (Same.drewN Y n).below
theorem SD.set (h:SD w X Y p a len cap bs T o Z C cs vs fp) (i:Nat) (v:Value):SD w X (Y.setCell ⟨o,i,none⟩ v) p a len cap bs T o Z (C.setIfInBounds i v) cs vs fp:=by
 have h1:=h.hpo;have h2:=h.ho;have h3:=h.lt;have hw:=aO.set Y o i v;exact⟨h.cc.wrt hw (by omega) (fun b e=>by omega),h.res.far (by omega) v,h.own.iV i v,bP h.ls hw (fun b hb e=>(h.iq b hb).2 e),h.iq,h1,h2,ku h.gr hw (fun b e=>by omega)⟩
theorem SD.new (h:SD w X Y p a len cap bs T o Z C cs vs fp) {j:Nat} {c c':aI} {u':Value} {f':Fp} (hj:cs[j]?=some c) (hc:aI.ow Y c' u' f') (hf:∀ b,f' b→X.heap.size<b∧b≠o) (hd:∀ b,f' b→¬ fp b):∃ fp',SD w X Y p a len cap bs T o Z C (cs.set j c') (vs.set j u') fp':=by
 obtain⟨u,f,hu,ho,hs,hp⟩:=vY h.ls hj;exact⟨_,h.cc,h.res,h.own,hp Y c' u' f' (Nat.le_refl _) hc (fun _ _ _=>rfl) (fun b hb k=>absurd k (hd b hb)),fun b hb=>by rcases hb with hb|hb;exact hf b hb;exact h.iq b hb.1,h.hpo,h.ho,h.gr⟩
theorem SD.at (h:SD w X Y p a len cap bs T o Z C cs vs fp) {j:Nat} {c:aI} (hj:cs[j]?=some c):∃ u f,vs[j]?=some u∧aI.ow Y c u f∧(∀ b,f b→fp b) ∧
  ∀ (Y':World) (c':aI) (u':Value) (f':Fp),aO f Y Y'→aI.ow Y' c' u' f'→(∀ b,f' b→f b∨Y.heap.size≤b)→∃ fp',SD w X Y' p a len cap bs T o Z C (cs.set j c') (vs.set j u') fp':=by
 obtain⟨u,f,hu,ho,hs,hp⟩:=vY h.ls hj;refine⟨u,f,hu,ho,hs,fun Y' c' u' f' hw hc' hf'=>?_⟩
 have h1:=h.hpo;have h2:=h.ho;have h3:=h.lt;have hl:=eX h.ls;have hol:=h.own.lt;have k:∀ b,f b→X.heap.size<b∧b≠o:=fun b hb=>h.iq b (hs b hb)
 refine⟨_,h.cc.wrt hw (fun e=>by have:=(k _ e).1;omega) (fun b e=>by have:=(k _ e).1;omega),h.res.wrt hw (fun e=>by have:=(k _ e).1;omega),h.own.wrt hw (fun e=>(k _ e).2 rfl),hp Y' c' u' f' hw.size hc' (fun b hb hn=>hw.block b (hl b hb) hn) (fun b hb hb2=>?_),fun b hb=>?_,h1,h2,ku h.gr hw (fun b e=>by have:=(k _ e).1;omega)⟩
 ·rcases hf' b hb with h5|h5
  ·exact h5
  ·have:=hl b hb2;omega
 ·rcases hb with hb|hb
  ·rcases hf' b hb with h5|h5
   ·exact k b h5
   ·exact⟨by omega,by omega⟩
  ·exact h.iq b hb.1
theorem SD.ans (h:SD w X Y p a len cap bs T o Z C cs vs fp) (hw:aO (fun b=>b=X.heap.size) Y Y'):bG Y' cs vs fp∧(∀ b,fp b→X.heap.size≤b)∧Cc w Y' p a len cap bs∧X.grownBy Y' (some p):=by
 have h1:=h.hpo;have h3:=h.lt;exact⟨bP h.ls hw (fun b hb e=>by have:=(h.iq b hb).1;omega),fun b hb=>by have:=(h.iq b hb).1;omega,h.cc.wrt hw (by omega) (fun b e=>by omega),ku h.gr hw (fun b e=>by omega)⟩
end
def Ti (w w':World) (v:Value) (p:Nat) (a:Option Addr) (len cap:Nat):Prop :=
 ∃ a' zs c G,v=.slice a' (List.length zs) c∧dR w' 1 a' (List.length zs) c (zs.map (Value.int .i64)) G∧(∀ g,G=some g→w.heap.size≤g)∧Fits zs∧List.length zs≤16∧fK w' p a len cap∧w.grownBy w' (some p)
theorem aa5 {w:World} {g off n c:Nat} {zs:List Int} (h:OI w g off n c zs) (h1:1≤zs.length):OI w g (off+1) zs.tail.length (c-1) zs.tail:=by
 have hl:zs.length=n:=by have:=h.len;simpa using this
 have hle:=h.le;refine⟨by simp,by rw[List.length_tail];omega,Nat.le_trans (Nat.sub_le _ _) h.max,h.blk,fun i hi=>?_,fun i hi=>?_,fun i hi=>?_⟩
 ·rw[List.length_tail] at hi
  have:=h.cell (i+1) (by omega)
  rw[show off+1+i=off+(i+1) by omega,this]
  simp
 ·have:=h.some (i+1) (by omega)
  rw[show off+1+i=off+(i+1) by omega]
  exact this
 ·have:=h.free (i+1) (by omega)
  rw[show off+1+i=off+(i+1) by omega]
  exact this
theorem VQ (p:Nat) (a:Option Addr) (len cap:Nat) (bs:Nat→Int) (N:Nat) (n:Int) (hN:n=(N:Int)) (w:World) (hcur:fK w p a len cap) (hv:kW w a len bs) (hp:Az a len p) (hl:len≤4096) (hn:N≤16) :
  Calls Tryz.prog 107 #[.pointer (some ⟨p,0,none⟩),.int .i64 n] w fun e w'=>∃ v,e=.returned v∧Ti w w' v p a len cap:=by
 subst hN;have hpl:=hcur.lt;obtain⟨i0,hi0,hz0,hz1,hz2⟩:=info_parts Tryz.info2;go_enter Tryz.func107,Tryz.ntmps107
 go_wp2
 go_loopw [1,5] (fun q v wr=>∃ (k:Nat) (zs:List Int),k≤N∧zs.length=k∧q=.int .i64 ((N:Int)-(k:Int))∧Small zs∧wr.ownsRow w.heap.size 2 1 v k (zs.map (Value.int .i64))∧fK wr p a len cap∧w.grownBy wr (some p)) (fun q _ _=>(intOf q).toNat)
 case atStart=>exact⟨0,[],Nat.zero_le _,rfl,by simp,fun z hz=>by simp at hz,Eu w,hcur.alloc _,World.grownBy_alloc _ _ _⟩
 case round =>
  obtain⟨k,zs,hk,hzl,rfl,hsm,hown,hc,hg⟩:=hrel;have HZ:=aj hzl;have HS:=aj hsm;have HG:=aj hg;have HO:=aj hown;have KP:=hv.grown hg hp;clear hzl hsm hg hown;by_cases hlt:k<N
  ·go_wp2_with fail
   refine (kY p a len cap bs 6 _ hc KP hp hl (by omega)).mono ?_
   rintro e w2 ⟨x,rfl,hx0,hx1,hx2,hc2,hg2⟩;have hx6:x≤6:=by have:=hx1 (by omega);omega
   have hown2:=HO.out.kept hg2 (.inr (qM HO.out hpl));have hs2:=Nat.le_trans HG.out.size hg2.size;clear hx1 hx2;go_wp2_with (at_builtin;refine wpList_append_lies _ rfl _ _ _ rfl w.heap.size 2 i0 _ 1 8 Tryz.underlying41 hi0 hz0 hz1 hz2 rfl (by omega) u5 k _ rfl (hown2.alloc _) ⟨w2.heap.size,0,none⟩ 1 1 [.int .i64 x] rfl rfl (World.news_of_block (cs:=#[.int .i64 x]) (t:=2) (fr:=(0,0)) (heap_alloc_new w2 _)) (by simp[Value.oneCell']) (by omega) (by unfold maxLen;omega) (by omega) (by simp;omega) (w2.heap.size+1) (by simp) ?_;intro g cap3 w3 hown3 hgrow hat hlt3)
   have R:Hid (w3.ownsRow w.heap.size 2 1 (.slice (some ⟨g,0,none⟩) (k+1) cap3) (k+1) ((zs++[x]).map (Value.int .i64))):=by
    rw[Hid,List.map_append];exact hown3
   have RC:Hid (fK w3 p a len cap):=(hc2.alloc _).grown hgrow (qM HO.out hpl);have RG:Hid (w.grownBy w3 (some p)):=vH (bf (bf HG.out hg2) (World.grownBy_alloc _ _ _)) hgrow (fun r hr=>(HO.out.lt r hr).1)
   have RS:=aj (HS.out.snoc hx0 hx6);clear hown3 hgrow hat hlt3 hown2 hc2 hg2 hc KP hs2;go_wp2;go_roundw
   case rel=>exact⟨k+1,zs++[x],by omega,by simp[HZ.out],by go_num,RS.out,R.out,RC.out,RG.out⟩
   case measure=>simp[intOf];omega
  ·have hkN:k=N:=by omega
   subst hkN;by_cases h1:1≤k
   ·obtain⟨g,c,hu,hgB,ho⟩:=sN HO.out HZ.out.symm h1
    rw[HZ.out] at hu;subst hu;have DF:g≠p:=by omega
    go_wp2_with fail
    refine (zk p a len cap bs 12 _ hc KP hp hl (by omega)).mono ?_
    rintro e w2 ⟨x,rfl,hc2,hg2⟩;have ho2:=ho.grown hg2 DF;have VR:=HO.out.kept hg2 (.inr (qM HO.out hpl));have hv2:=KP.grown hg2 hp;have HG2:=bf HG.out hg2;have hpos:(0:Int)<(k:Int):=by omega
    clear ho KP hc hg2
    cases x
    ·go_wp2
     go_ret
     exact⟨_,rfl,_,zs,c,some g,by rw[HZ.out];rfl,dR.of (OI.own ho2),fun b e=>by cases e;exact hgB,HS.out.fits,by have:=HZ.out;omega,hc2,HG2⟩
    ·go_wp2_with fail
     refine (kY p a len cap bs 3 _ hc2 hv2 hp hl (by omega)).mono ?_
     rintro e w3 ⟨y,rfl,hy0,hy1,hy2,hc3,hg3⟩;have ho3:=ho2.grown hg3 DF;have an7:=VR.kept hg3 (.inr (qM VR hpl));have hv3:=hv2.grown hg3 hp;have Tj:=bf HG2 hg3;have hy3:=hy1 (by omega)
     clear ho2 hc2 hv2 hg3 HG2 hy1 hy2 VR;rcases (by omega:y=0∨y=1∨y=2) with hy|hy|hy
     ·subst hy
      go_wp2_with fail
      have an8:OwnAt (w3.alloc (.cells #[.int .i64 (-1),.int .i64 1000000,.int .i64 1000001,.int .i64 4611686018427387904] 2)) g c zs:=ho3.of_block (Below.heap_alloc _ _ _ ho3.lt);have an9:=hv3.grown (World.grownBy_alloc w3 (.cells #[.int .i64 (-1),.int .i64 1000000,.int .i64 1000001,.int .i64 4611686018427387904] 2) (some p)) hp;have hp3:p<w3.heap.size:=hc3.lt;refine (kY p a len cap bs 4 _ (hc3.alloc _) an9 hp hl (by omega)).mono ?_
      rintro e w4 ⟨z,rfl,hz0',hz1',hz2',hc4,hg4⟩;have hblk:=(hg4.block w3.heap.size (by simp) (by simp;omega)).trans (heap_alloc_new w3 _)
      have uq:=an8.grown hg4 DF;have Bo:=bf (bf Tj (World.grownBy_alloc w3 _ _)) hg4;have e0:w4.cell? ⟨w3.heap.size,0,none⟩=some (.int .i64 (-1)):=by simp[World.cell?,hblk]
      have e1:w4.cell? ⟨w3.heap.size,1,none⟩=some (.int .i64 1000000):=by simp[World.cell?,hblk]
      have e2:w4.cell? ⟨w3.heap.size,2,none⟩=some (.int .i64 1000001):=by simp[World.cell?,hblk]
      have e3:w4.cell? ⟨w3.heap.size,3,none⟩=some (.int .i64 4611686018427387904):=by simp[World.cell?,hblk]
      have hcg:=uq.cell (i:=0) (by rw[HZ.out];omega)
      have hfg:=uq.frozen 0;have HO4:=aj uq;have HC4:=aj hc4;have HGG:=aj Bo;have hz4:=hz1' (by omega)
      clear hz1' hz2' hblk hg4 Bo uq hc4 an8 an9 ho3 hv3 hc3 Tj an7
      have FIN:Hid (∀ v:Int,-9223372036854775808≤v∧v≤9223372036854775807→Ti w (w4.setCell ⟨g,0,none⟩ (.int .i64 v)) (.slice (some ⟨g,0,none⟩) k c) p a len cap):=fun v hv =>
       ⟨_,zs.set 0 v,c,some g,by rw[List.length_set,HZ.out],dR.of (OI.own (HO4.out.set 0 v)),fun b e=>by cases e;exact hgB,Jg HS.out.fits 0 hv,by rw[List.length_set];have:=HZ.out;omega,HC4.out.set DF _ _,AA HGG.out hgB _ _⟩
      rcases (by omega:z=0∨z=1∨z=2∨z=3) with hz|hz|hz|hz
      all_goals
       subst hz;go_wp2;go_ret
       exact⟨_,rfl,FIN.out _ (by omega)⟩
     ·subst hy
      have hT:=U4 ho3 HS.out.fits (by rw[HZ.out];exact h1)
      rw[HZ.out] at hT;have hkc:k≤c:=by have:=ho3.1;rwa [HZ.out] at this
      have hcm:=ho3.2.1;have aC6:(k:Int)≤(c:Int):=by omega
      have hk1:(1:Int)≤(k:Int):=by omega
      have HTO:Hid (dR w3 1 (some ⟨g,1,none⟩) zs.tail.length (c-1) (zs.tail.map (Value.int .i64)) (some g)):=dR.of (aa5 (OI.own ho3) (by rw[HZ.out];exact h1))
      have HTF:=aj hT.2.1;have DC:Hid (Value.slice (some ⟨g,1,none⟩) (k-1) (c-1)=.slice (some ⟨g,1,none⟩) zs.tail.length (c-1)):=by rw[Hid,List.length_tail,HZ.out]
      by_cases hc1:c=1
      ·subst hc1
       have ay8:k=1:=by omega
       subst ay8;go_wp2;go_ret
       exact⟨_,rfl,_,[],0,none,rfl,dR.nil _ _ (jG _ _),fun b e=>(by cases e),fun x hx=>absurd hx List.not_mem_nil,Nat.zero_le _,hc3,Tj⟩
      ·go_wp2
       go_ret
       exact⟨_,rfl,_,zs.tail,c-1,some g,DC.out,HTO.out,fun b e=>by cases e;exact hgB,HTF.out,by rw[List.length_tail];have:=HZ.out;omega,hc3,Tj⟩
     ·subst hy
      clear ho3 hv3;go_wp2
      go_loopw [5] (fun v wr=>∃ (m g c:Nat) (ys:List Int),v=.slice (some ⟨g,0,none⟩) m c∧ys.length=m∧1≤m∧m≤16∧Small ys∧wr.ownsRow w.heap.size 2 1 v m (ys.map (Value.int .i64))∧fK wr p a len cap∧w.grownBy wr (some p)) (fun v _=>16-lenOf v)
      case atStart=>exact⟨k,g,c,zs,rfl,HZ.out,h1,by omega,HS.out,an7,hc3,Tj⟩
      case round =>
       obtain⟨m,g2,c2,ys,rfl,hyl,hm1,zW,hys,hown,hcc,hgg⟩:=hrel;have hvv:=hv.grown hgg hp;have HY:=aj hyl;have HYS:=aj hys;clear hyl hys;go_wp2_with fail
       refine (kY p a len cap bs 2 _ hcc hvv hp hl (by omega)).mono ?_
       rintro e w4 ⟨z,rfl,hz0',hz1',hz2',hc4,hg4⟩;have own4:=hown.kept hg4 (.inr (qM hown hpl));have Bo:=bf hgg hg4;have hz4:=hz1' (by omega)
       have hs4:=Bo.size;clear hz1' hz2' hg4 hgg hown hcc hvv;by_cases hlt2:(m:Int)<8+z
       ·go_wp2_with (at_builtin;refine wpList_append_lies _ rfl _ _ _ rfl w.heap.size 2 i0 _ 1 8 Tryz.underlying41 hi0 hz0 hz1 hz2 rfl (by omega) (.slice (some ⟨g2,0,none⟩) m c2) m _ rfl (own4.alloc _) ⟨w4.heap.size,0,none⟩ 1 1 [.int .i64 1] rfl rfl (World.news_of_block (cs:=#[.int .i64 1]) (t:=2) (fr:=(0,0)) (heap_alloc_new w4 _)) (by simp[Value.oneCell']) (by omega) (by unfold maxLen;omega) (by omega) (by simp;omega) (w4.heap.size+1) (by simp) ?_;intro g3 cap3 w5 hown5 hgrow hat ay9)
        have R:Hid (w5.ownsRow w.heap.size 2 1 (.slice (some ⟨g3,0,none⟩) (m+1) cap3) (m+1) ((ys++[1]).map (Value.int .i64))):=by
         rw[Hid,List.map_append];exact hown5
        have RC:Hid (fK w5 p a len cap):=(hc4.alloc _).grown hgrow (qM own4 hpl);have RG:Hid (w.grownBy w5 (some p)):=vH (bf Bo (World.grownBy_alloc _ _ _)) hgrow (fun r hr=>(own4.lt r hr).1)
        have RS:Hid (Small (ys++[1])):=HYS.out.snoc (by omega) (by omega)
        clear hown5 hgrow hat ay9 own4 hc4 Bo;go_wp2;go_roundw
        case rel=>exact⟨m+1,g3,cap3,ys++[1],rfl,by simp[HY.out],by omega,by omega,RS.out,R.out,RC.out,RG.out⟩
        case measure=>simp[lenOf];omega
       ·go_wp2
        go_ret
        obtain⟨g5,c5,YT,hg5,hO5⟩:=fA.pq own4 (by intro h;cases h)
        cases YT
        exact⟨_,rfl,some ⟨g2,0,none⟩,ys,c2,some g2,by rw[HY.out];rfl,dR.of (by rw[HY.out];exact hO5),fun b e=>by cases e;exact hg5,HYS.out.fits,by rw[HY.out];omega,hc4,Bo⟩
   ·obtain⟨a',c,hu,KQ,hac,hcm,av5⟩:=Q8 HO.out HZ.out.symm HS.out.fits
    have hz0:zs=[]:=List.eq_nil_of_length_eq_zero (by have:=HZ.out;omega)
    obtain⟨G0,fH,mP⟩:∃ G,Hid (dR wr 1 a' zs.length c (zs.map (Value.int .i64)) G)∧Hid (∀ b,G=some b→w.heap.size≤b):=by
     by_cases hn:u5=.slice none 0 0
     ·rw[hu] at hn
      cases hn
      exact⟨none,by rw[Hid,hz0];exact dR.nil _ _ Ey,fun b e=>by cases e⟩
     ·obtain⟨g5,c5,YT,hg5,hO5⟩:=fA.pq HO.out hn
      rw[hu] at YT
      cases YT
      exact⟨some g5,by rw[Hid,HZ.out];exact dR.of hO5,fun b e=>by cases e;exact hg5⟩
    subst hu;have hoff:Off a' p:=fun b off e=>by have:=av5 b off e;omega
    go_wp2_with fail
    refine (zk p a len cap bs 12 _ hc KP hp hl (by omega)).mono ?_
    rintro e w2 ⟨x,rfl,hc2,hg2⟩;have hva:=KQ.grown hg2 hoff;have HG2:=bf HG.out hg2;have HOO:Hid (dR w2 1 a' zs.length c (zs.map (Value.int .i64)) G0):=fH.out.frame hg2.size (fun g e=>hg2.block g (fH.out.lt e) (by have:=mP.out g e;simp;omega))
    have hpos:decide ((0:Int)<(k:Int))=false:=by simp;omega
    clear KQ KP hc hg2
    cases x
    all_goals
     go_wp2;go_ret
     exact⟨_,rfl,a',zs,c,G0,by rw[HZ.out];rfl,HOO.out,mP.out,HS.out.fits,by have:=HZ.out;omega,hc2,HG2⟩
theorem av6 (N:Nat) (n:Int) (hN:n=(N:Int)) (hn:N≤16) {w X:World} {p:Nat} {a:Option Addr} {len cap:Nat} {bs:Nat→Int} (h:Cc w X p a len cap bs) :
  Calls Tryz.prog 107 #[.pointer (some ⟨p,0,none⟩),.int .i64 n] X fun e w'=>∃ a' c zs fp,e=.returned (.slice a' (List.length zs) c)∧aI.ow w' (bQ zs) (.slice a' (List.length zs) c) fp∧(∀ b,fp b→X.heap.size≤b)∧Fits zs∧List.length zs≤16∧Cc w w' p a len cap bs∧X.grownBy w' (some p):=by
 refine (VQ p a len cap bs N n hN X h.cur h.uS h.off h.hl hn).mono ?_;rintro e w' ⟨v,rfl,a',zs,c,G,rfl,hO,hG,hf,h16,hc,hg⟩;exact⟨a',c,zs,fun b=>G=some b,rfl,fB.2 ⟨_,c,G,rfl,hO,fun b=>Iff.rfl⟩,fun b hb=>hG b hb,hf,h16,h.drawn hg hc,hg⟩
structure pO (r:Rw):Prop where
 ver:-10≤r.ver∧r.ver≤1000020
 tl:r.txt.length≤20
 ts:∀ i,i<r.txt.length→(r.txt.getD i []).length≤21
 gl:r.got.length≤16
 gf:Fits r.got
 sl:r.ak.length≤16
 sf:Fits r.ak
 ml:r.aA.length≤16
 mf:Fits r.aA
 jK:-1≤r.aC∧r.aC≤7
def mD:Array Value:=#[.int .i64 0,.slice none 0 0,.slice none 0 0,.slice none 0 0,.bool false,.bool false,.int .i64 0,.slice none 0 0]
def RD (w X Y:World) (p:Nat) (a:Option Addr) (len cap:Nat) (bs:Nat→Int) (o:Nat) (Zr:Array Value) (A:Ra) (r:Rw) (fp:Fp):Prop:=SD w X Y p a len cap bs 44 o Zr (bD A r) (fM r) (fC A r) fp
section
variable {w X Y Y':World} {p:Nat} {a:Option Addr} {len cap:Nat} {bs:Nat→Int} {o:Nat} {Zr:Array Value} {A:Ra} {r:Rw} {fp:Fp}
theorem RD.drawn (h:RD w X Y p a len cap bs o Zr A r fp) (hg:Y.grownBy Y' (some p)) (hc:Cc w Y' p a len cap bs):RD w X Y' p a len cap bs o Zr A r fp:=SD.drawn h hg hc
theorem RD.step (h:RD w X Y p a len cap bs o Zr A r fp) (hb:Below Y.heap.size Y Y'):RD w X Y' p a len cap bs o Zr A r fp:=SD.step h hb
theorem RD.drewN (h:RD w X Y p a len cap bs o Zr A r fp) (n:Nat):RD w X (Y.drewN n) p a len cap bs o Zr A r fp:=SD.drewN h n
theorem RD.c8 (h:RD w X Y p a len cap bs o Zr A r fp):(Y.cell? ⟨o,0,none⟩=some (.int .i64 r.ver)∧Y.cell? ⟨o,1,none⟩=some (.slice A.ta r.txt.length A.tc)∧Y.cell? ⟨o,2,none⟩=some (.slice A.ga r.got.length A.gc)∧Y.cell? ⟨o,3,none⟩=some (.slice A.sa r.ak.length A.sc))∧Y.cell? ⟨o,4,none⟩=some (.bool r.wed)∧Y.cell? ⟨o,5,none⟩=some (.bool r.aB)∧Y.cell? ⟨o,6,none⟩=some (.int .i64 r.aC)∧Y.cell? ⟨o,7,none⟩=some (.slice A.ma r.aA.length A.mc):=Bx.r8 h.own
theorem RD.ver (h:RD w X Y p a len cap bs o Zr A r fp) (x:Int):RD w X (Y.setCell ⟨o,0,none⟩ (.int .i64 x)) p a len cap bs o Zr A { r with ver:=x } fp:=SD.set h 0 (.int .i64 x)
theorem RD.wed (h:RD w X Y p a len cap bs o Zr A r fp) (x:Bool):RD w X (Y.setCell ⟨o,4,none⟩ (.bool x)) p a len cap bs o Zr A { r with wed:=x } fp:=SD.set h 4 (.bool x)
theorem RD.aB (h:RD w X Y p a len cap bs o Zr A r fp) (x:Bool):RD w X (Y.setCell ⟨o,5,none⟩ (.bool x)) p a len cap bs o Zr A { r with aB:=x } fp:=SD.set h 5 (.bool x)
theorem RD.aC (h:RD w X Y p a len cap bs o Zr A r fp) (x:Int):RD w X (Y.setCell ⟨o,6,none⟩ (.int .i64 x)) p a len cap bs o Zr A { r with aC:=x } fp:=SD.set h 6 (.int .i64 x)
theorem RD.got (h:RD w X Y p a len cap bs o Zr A r fp) {a':Option Addr} {c':Nat} {Z:List Int} {f':Fp} (hc:aI.ow Y (bQ Z) (.slice a' Z.length c') f') (hf:∀ b,f' b→X.heap.size<b∧b≠o) (hd:∀ b,f' b→¬ fp b):∃ fp',RD w X (Y.setCell ⟨o,2,none⟩ (.slice a' Z.length c')) p a len cap bs o Zr { A with ga:=a',gc:=c' } { r with got:=Z } fp':=by
 obtain⟨fp',h1⟩:=SD.new h (j:=1) rfl hc hf hd;exact⟨fp',SD.set h1 2 (.slice a' Z.length c')⟩
theorem RD.ak (h:RD w X Y p a len cap bs o Zr A r fp) {a':Option Addr} {c':Nat} {Z:List Int} {f':Fp} (hc:aI.ow Y (bQ Z) (.slice a' Z.length c') f') (hf:∀ b,f' b→X.heap.size<b∧b≠o) (hd:∀ b,f' b→¬ fp b):∃ fp',RD w X (Y.setCell ⟨o,3,none⟩ (.slice a' Z.length c')) p a len cap bs o Zr { A with sa:=a',sc:=c' } { r with ak:=Z } fp':=by
 obtain⟨fp',h1⟩:=SD.new h (j:=2) rfl hc hf hd;exact⟨fp',SD.set h1 3 (.slice a' Z.length c')⟩
theorem RD.aA (h:RD w X Y p a len cap bs o Zr A r fp) {a':Option Addr} {c':Nat} {Z:List Int} {f':Fp} (hc:aI.ow Y (bQ Z) (.slice a' Z.length c') f') (hf:∀ b,f' b→X.heap.size<b∧b≠o) (hd:∀ b,f' b→¬ fp b):∃ fp',RD w X (Y.setCell ⟨o,7,none⟩ (.slice a' Z.length c')) p a len cap bs o Zr { A with ma:=a',mc:=c' } { r with aA:=Z } fp':=by
 obtain⟨fp',h1⟩:=SD.new h (j:=3) rfl hc hf hd;exact⟨fp',SD.set h1 7 (.slice a' Z.length c')⟩
theorem RD.txt (h:RD w X Y p a len cap bs o Zr A r fp) {a':Option Addr} {c':Nat} {Z:List (List UInt8)} {f':Fp} (hc:aI.ow Y (lM Z) (.slice a' Z.length c') f') (hf:∀ b,f' b→X.heap.size<b∧b≠o) (hd:∀ b,f' b→¬ fp b):∃ fp',RD w X (Y.setCell ⟨o,1,none⟩ (.slice a' Z.length c')) p a len cap bs o Zr { A with ta:=a',tc:=c' } { r with txt:=Z } fp':=by
 obtain⟨fp',h1⟩:=SD.new h (j:=0) rfl hc hf hd;exact⟨fp',SD.set h1 1 (.slice a' Z.length c')⟩
theorem RD.owI (h:RD w X Y p a len cap bs o Zr A r fp):∃ f1 f2 f3 f4,aI.ow Y (lM r.txt) (.slice A.ta r.txt.length A.tc) f1∧aI.ow Y (bQ r.got) (.slice A.ga r.got.length A.gc) f2∧aI.ow Y (bQ r.ak) (.slice A.sa r.ak.length A.sc) f3∧aI.ow Y (bQ r.aA) (.slice A.ma r.aA.length A.mc) f4:=by
 obtain⟨u1,rD,f1,g1,e1,o1,h2,_⟩:=h.ls
 cases e1
 obtain⟨u2,uy,f2,g2,e2,o2,h3,_⟩:=h2
 cases e2
 obtain⟨u3,Dj,f3,g3,e3,o3,h4,_⟩:=h3
 cases e3
 obtain⟨u4,Ju,f4,g4,e4,o4,h5,_⟩:=h4
 cases e4
 exact⟨f1,f2,f3,f4,o1,o2,o3,o4⟩
theorem RD.YU (h:RD w X Y p a len cap bs o Zr A r fp) {i:Nat} (hi:i<r.got.length):∃ g off,A.ga=some ⟨g,off,none⟩∧(Y.cell? ⟨g,off+i,none⟩=some (.int .i64 (el r.got i))∧Y.frozen? ⟨g,off+i,none⟩=false) ∧
  ∀ x:Int,∃ fp',RD w X (Y.setCell ⟨g,off+i,none⟩ (.int .i64 x)) p a len cap bs o Zr A { r with got:=r.got.set i x } fp':=by
 obtain⟨u,f,hu,hc,hs,hp⟩:=SD.at h (j:=1) rfl
 cases hu
 obtain⟨a',c',G,e,ho,hf⟩:=fB.1 hc
 cases e
 rcases ho.oi with ⟨e,_,_⟩|⟨g,off,e1,ho',e2⟩
 ·rw[e] at hi;exact absurd hi (Nat.not_lt_zero _)
 ·have hle:=ho'.le
  refine⟨g,off,e1,⟨?_,ho'.free i (by omega)⟩,fun x=>?_⟩
  ·have:=ho'.cell i (by omega)
   rw[this];simp[el,hi]
  ·subst e2
   have hset:=ZP ho' hi x;have:=hp (Y.setCell ⟨g,off+i,none⟩ (.int .i64 x)) (bQ (r.got.set i x)) (.slice A.ga (r.got.set i x).length A.gc) f ((aO.set Y g (off+i) _).mono (fun b _ e=>(hf b).2 (by rw[e]))) (fB.2 ⟨_,_,some g,rfl,by rw[List.length_set,e1];exact dR.of hset,hf⟩) (fun b hb=>.inl hb)
   obtain⟨fp',h1⟩:=this;refine⟨fp', ?_⟩;have e3:bD A { r with got:=r.got.set i x }=bD A r:=by simp[bD]
   unfold RD;rw[e3];exact h1
theorem RD.app (h:RD w X Y p a len cap bs o Zr A r fp) (i0:TypeInfo) (hi0:Tryz.prog.info? 9=some i0) (hz0:i0.zero=some (.string ⟨#[]⟩)) (hz1:i0.size=1) (hz2:i0.bytes=16) (s:List UInt8) (hl:r.txt.length≤1000) :
  ∀ Z,Same Z (Y.alloc (.cells #[.string (sv s)] 9))→∃ v' w4,(Builtin.append_ #[42,42] 42 #[.slice A.ta r.txt.length A.tc,.slice (some ⟨Y.heap.size,0,none⟩) 1 1]).run Tryz.prog Z=.ok v' w4 ∧
   ∃ a' c',v'=.slice a' (r.txt.length+1) c'∧w4.cell? ⟨o,1,none⟩=some (.slice A.ta r.txt.length A.tc)∧w4.frozen? ⟨o,1,none⟩=false∧∃ fp',RD w X (w4.setCell ⟨o,1,none⟩ (.slice a' (r.txt.length+1) c')) p a len cap bs o Zr { A with ta:=a',tc:=c' } { r with txt:=r.txt++[s] } fp':=by
 intro Z hZ;have nN:=(aF Y _).trans (hZ.below.mono (aF Y _).size);have hD:=h.step nN;obtain⟨u,f,hu,hc,hs,hp⟩:=SD.at hD (j:=0) rfl
 cases hu
 obtain⟨ta',tc',G,e,ho,hf⟩:=oJ.1 hc
 cases e
 have hnew:Z.heap[Y.heap.size]?=some (.cells #[.string (sv s)] 9):=by rw[hZ.heap];exact heap_alloc_new Y _
 obtain⟨a',c',G',w4,hr,ho',hg,hat⟩:=jR (P:=Tryz.prog) Z 42 42 9 i0 _ 1 16 Tryz.underlying42 hi0 hz0 hz1 hz2 rfl (by omega) A.ta r.txt.length A.tc (nY r.txt) G ho (some ⟨Y.heap.size,0,none⟩) 1 1 [.string (sv s)] rfl (.inr ⟨_,rfl,World.news_of_block (cs:=#[.string (sv s)]) (t:=9) (fr:=(0,0)) hnew⟩) (by simp[Value.oneCell']) (by unfold maxLen;omega) (by omega)
 have hw4:aO f Z w4:=(aO.iZ hg).mono (fun b _ e=>(hf b).2 e)
 have hno:¬ f o:=fun e=>(hD.iq o (hs o e)).2 rfl
 have k0:=hD.own.wrt hw4 hno;have ao0:(r.txt++[s]).length=r.txt.length+1:=by simp
 obtain ⟨fp',h1⟩ := hp w4 (lM (r.txt ++ [s])) (.slice a' (r.txt.length + 1) c') (fun b => G' = some b) hw4 (oJ.2 ⟨a',c',G',by rw [ao0],by rw [ZQ,ao0];exact ho',fun b => Iff.rfl⟩) (fun b hb => by
  rcases hat with e|e
  ·exact .inl ((hf b).2 (e ▸ hb))
  ·rw[e] at hb;cases hb;exact .inr (Nat.le_refl _))
 refine⟨_,w4,hr,a',c',rfl,k0.at 1 rfl,k0.f 1,fp', ?_⟩;have h2:=SD.set h1 1 (.slice a' (r.txt.length+1) c');unfold RD;have e1:bD { A with ta:=a',tc:=c' } { r with txt:=r.txt++[s] }=(bD A r).setIfInBounds 1 (.slice a' (r.txt.length+1) c'):=by simp[bD]
 have e2:fC { A with ta:=a',tc:=c' } { r with txt:=r.txt++[s] }=(fC A r).set 0 (.slice a' (r.txt.length+1) c'):=by simp[fC]
 rw[e1,e2];exact h2
theorem RD.ans (h:RD w X Y p a len cap bs o Zr A r fp) {x0 x1 x2 x3 x4 x5 x6 x7:Value}:bG ((((((((Y.setCell ⟨X.heap.size,0,none⟩ x0).setCell ⟨X.heap.size,1,none⟩ x1).setCell ⟨X.heap.size,2,none⟩ x2).setCell ⟨X.heap.size,3,none⟩ x3).setCell ⟨X.heap.size,4,none⟩ x4).setCell ⟨X.heap.size,5,none⟩ x5).setCell ⟨X.heap.size,6,none⟩ x6).setCell ⟨X.heap.size,7,none⟩ x7) (fM r) (fC A r) fp∧(∀ b,fp b→X.heap.size≤b)∧Cc w ((((((((Y.setCell ⟨X.heap.size,0,none⟩ x0).setCell ⟨X.heap.size,1,none⟩ x1).setCell ⟨X.heap.size,2,none⟩ x2).setCell ⟨X.heap.size,3,none⟩ x3).setCell ⟨X.heap.size,4,none⟩ x4).setCell ⟨X.heap.size,5,none⟩ x5).setCell ⟨X.heap.size,6,none⟩ x6).setCell ⟨X.heap.size,7,none⟩ x7) p a len cap bs∧X.grownBy ((((((((Y.setCell ⟨X.heap.size,0,none⟩ x0).setCell ⟨X.heap.size,1,none⟩ x1).setCell ⟨X.heap.size,2,none⟩ x2).setCell ⟨X.heap.size,3,none⟩ x3).setCell ⟨X.heap.size,4,none⟩ x4).setCell ⟨X.heap.size,5,none⟩ x5).setCell ⟨X.heap.size,6,none⟩ x6).setCell ⟨X.heap.size,7,none⟩ x7) (some p):=SD.ans h (FZ Y X.heap.size)
theorem RD.r8 (h:RD w X Y p a len cap bs o mD A r fp):(Y.cell? ⟨X.heap.size,0,none⟩=some (.int .i64 0)∧Y.cell? ⟨X.heap.size,1,none⟩=some (.slice none 0 0)∧Y.cell? ⟨X.heap.size,2,none⟩=some (.slice none 0 0)∧Y.cell? ⟨X.heap.size,3,none⟩=some (.slice none 0 0))∧Y.cell? ⟨X.heap.size,4,none⟩=some (.bool false)∧Y.cell? ⟨X.heap.size,5,none⟩=some (.bool false)∧Y.cell? ⟨X.heap.size,6,none⟩=some (.int .i64 0)∧Y.cell? ⟨X.heap.size,7,none⟩=some (.slice none 0 0):=Bx.r8 h.res
theorem RD.f8 (h:RD w X Y p a len cap bs o Zr A r fp):(Y.frozen? ⟨X.heap.size,0,none⟩=false∧Y.frozen? ⟨X.heap.size,1,none⟩=false∧Y.frozen? ⟨X.heap.size,2,none⟩=false∧Y.frozen? ⟨X.heap.size,3,none⟩=false)∧Y.frozen? ⟨X.heap.size,4,none⟩=false∧Y.frozen? ⟨X.heap.size,5,none⟩=false∧Y.frozen? ⟨X.heap.size,6,none⟩=false∧Y.frozen? ⟨X.heap.size,7,none⟩=false:=Bx.f8 h.res
theorem RD.fo (h:RD w X Y p a len cap bs o Zr A r fp) (i:Nat):Y.frozen? ⟨o,i,none⟩=false:=h.own.f i
end
theorem RD.av7 {w X Y:World} {p:Nat} {a:Option Addr} {len cap:Nat} {bs:Nat→Int} {o:Nat} {Zr:Array Value} {A:Ra} {r:Rw} {fp:Fp} (h:RD w X Y p a len cap bs o Zr A r fp) (hf:Fits r.got) (hl:r.got.length≤1000) (i0:TypeInfo) (hi0:Tryz.prog.info? 2=some i0) (hz0:i0.zero=some (.int .i64 0)) (hz1:i0.size=1) (hz2:i0.bytes=8) :
  ∀ Z,Same Z (Y.alloc (.cells #[] 2))→∃ v' w4,(Builtin.append_ #[41,41] 41 #[.slice (some ⟨Y.heap.size,0,none⟩) 0 0,.slice A.ga r.got.length A.gc]).run Tryz.prog Z=.ok v' w4 ∧
   ∃ a' c',v'=.slice a' r.got.length c'∧w4.cell? ⟨o,7,none⟩=some (.slice A.ma r.aA.length A.mc)∧w4.frozen? ⟨o,7,none⟩=false∧∃ fp',RD w X (w4.setCell ⟨o,7,none⟩ (.slice a' r.got.length c')) p a len cap bs o Zr { A with ma:=a',mc:=c' } { r with aA:=r.got } fp':=by
 intro Z hZ;have nN:=(aF Y _).trans (hZ.below.mono (aF Y _).size);have hD:=h.step nN;obtain⟨_,f2,_,_,_,ho2,_,_⟩:=hD.owI;obtain⟨a6,c6,w6,NU,JI,JJ,hw6,G9⟩:=yg (P:=Tryz.prog) (w:=Z) 41 41 2 i0 Tryz.underlying41 hi0 hz0 hz1 hz2 (jG Y.heap.size 0) (x:=A.ga) (c:=A.gc) (oL ho2 hf).vec (by omega)
 have hb6:Below Z.heap.size Z w6:=hw6.below (Below.refl _ _) (Nat.le_refl _) (fun b h=>absurd h id)
 have hE:=hD.step hb6;have hol:=hD.own.lt;have hXo:=h.ho;obtain⟨fp',h2⟩:=RD.aA hE (a':=a6) (c':=c6) (Z:=r.got) JJ (fun b hb=>by have:=G9 b hb;omega) (fun b hb hfp=>by have:=G9 b hb;have:=eX hD.ls b hfp;omega)
 exact⟨_,w6,JI,a6,c6,rfl,hE.c8.2.2.2.2,hE.fo 7,fp',h2⟩
theorem RD.az0 {w X Y:World} {p:Nat} {a:Option Addr} {len cap:Nat} {bs:Nat→Int} {o:Nat} {Zr:Array Value} {A:Ra} {r:Rw} {fp:Fp} (h:RD w X Y p a len cap bs o Zr A r fp) (hf:Fits r.ak) (hl:r.ak.length≤100) (n:Int) :
  Calls Tryz.prog 106 #[.slice A.sa r.ak.length A.sc,.int .i64 n] Y fun e w'=>∃ a' c',e=.returned (.slice a' (bT r.ak n).length c')∧Below Y.heap.size Y w'∧∃ fp',RD w X (w'.setCell ⟨o,3,none⟩ (.slice a' (bT r.ak n).length c')) p a len cap bs o Zr { A with sa:=a',sc:=c' } { r with ak:=bT r.ak n } fp':=by
 obtain⟨_,_,f3,_,_,_,ho3,_⟩:=h.owI;have hv:=oL ho3 hf;refine (Jp A.sa A.sc r.ak n Y hv.vec hv.nn hv.le hv.mx (by omega) hv.pl).mono ?_
 rintro e w' (⟨rfl,h1,rfl⟩|hA)
 ·refine⟨A.sa,A.sc,by rw[h1],Below.refl _ _,fp, ?_⟩
  have h2:=SD.set h 3 (.slice A.sa r.ak.length A.sc);have e1:(bD A r).setIfInBounds 3 (.slice A.sa r.ak.length A.sc)=bD A r:=by simp[bD]
  rw[e1] at h2;rw[h1];exact h2
 ·obtain⟨g,off,c,rfl,hg,ho,hb⟩:=hA
  have hD:=h.step hb;have hol:=h.own.lt;have hXo:=h.ho;obtain⟨fp',h2⟩:=RD.ak hD (a':=some ⟨g,off,none⟩) (c':=c) (Z:=bT r.ak n) (f':=fun b=>b=g) (fB.2 ⟨_,c,some g,rfl,dR.of ho,fun b=>by simp[eq_comm]⟩) (fun b hb=>by omega) (fun b hb hfp=>by have:=eX h.ls b hfp;omega)
  exact⟨_,c,rfl,hb,fp',h2⟩
end Go.Proofs.YtafimeakbdmkjaaGreat