/-
  Texts in one.
-/
import Derived.Test.YtafimeakbdmkjaaGreatZaa
import Derived.Test.YtafimeakbdmkjaaGreatZaf
import Derived.Test.YtafimeakbdmkjaaGreatZag
import Derived.BigQuiet
namespace Go.Proofs.YtafimeakbdmkjaaGreat
set_option linter.unusedVariables false
set_option linter.unusedSimpArgs false
open Go.RowKit Go.Sort
set_option maxRecDepth 100000
set_option maxHeartbeats 12800000
theorem Gi {w:World} {x:Ml} {us:List Value} {f:Fp} (h:bG w (gZ x) us f):∃ A:Ra,us=(xI x A).toList∧bG w (fM x.row) (fC A x.row) f:=by
 obtain⟨rD,rfl,h1⟩:=lZ h;obtain⟨uy,rfl,h2⟩:=lZ h1;obtain⟨A,rfl,h3⟩:=rU h2;exact⟨A,rfl,h3⟩
theorem wrap_one {i:Nat} (h:i≤1000000):IntKind.i64.wrap ((i:Int)+1)=(i:Int)+1:=by rw[IntKind.wrap_i64];omega
theorem addr_add (b o j:Nat):(⟨b,o,none⟩:Addr).add j=⟨b,o+j,none⟩:=by by_cases hj:j=0<;>simp[Addr.add,hj]
theorem am3 {w:World} {A:Ra} {r:Rw} {f:Fp} (h:bG w (fM r) (fC A r) f) (hf:lV r) (hl:LnR r):nJ w A r:=by
 obtain⟨u1,rD,f1,g1,e1,o1,h2,_⟩:=h
 cases e1
 obtain⟨u2,uy,f2,g2,e2,o2,h3,_⟩:=h2
 cases e2
 obtain⟨u3,Dj,f3,g3,e3,o3,h4,_⟩:=h3
 cases e3
 obtain⟨u4,Ju,f4,g4,e4,o4,h5,_⟩:=h4
 cases e4
 obtain⟨n1,n2,n3,n4⟩:=hl;exact⟨(Jk o1).NM,(oL o2 hf.1).vec,(oL o3 hf.2.1).vec,(oL o4 hf.2.2).vec,by unfold maxLen;omega,by unfold maxLen;omega,by unfold maxLen;omega,by unfold maxLen;omega⟩
theorem VH {w W:World} (hW:Below w.heap.size w W) {L:List Ml} {la:Option Addr} {lb lo lc i:Nat} {f f1 f3:Fp} {u1 u3:List Value} (hi:i<L.length) (hl:L.length≤1000000) (hlc:L.length≤lc)
  (hs1:∀ b,f1 b→b<w.heap.size) (hs3:∀ b,f3 b→b<w.heap.size) (h13:∀ b,f1 b→¬ f3 b) (l1:bG w ((L.take i).flatMap gZ) u1 f1) (l3:bG w ((L.drop (i+1)).flatMap gZ) u3 f3)
  (k1:∀ j y,u1[j]?=some y→w.cell? ⟨lb,lo+j,none⟩=some y) (k3:∀ j y,u3[j]?=some y→w.cell? ⟨lb,lo+(i+1)*10+j,none⟩=some y) :
  (∀ X,(Instr.slice 26 (.slice (some ⟨lb,lo,none⟩) L.length lc) none (some (.int .i64 (i:Int))) none).run Tryz.prog X=.ok (.slice (some ⟨lb,lo,none⟩) i lc) X) ∧
  ∃ a3,(∀ X,(Instr.slice 26 (.slice (some ⟨lb,lo,none⟩) L.length lc) (some (.int .i64 ((i:Int)+1))) none none).run Tryz.prog X=.ok (.slice a3 (L.length-(i+1)) (lc-(i+1))) X) ∧
  ∀ Y,Same Y (W.alloc (.cells #[] 68))→∃ v1 w1,(Builtin.append_ #[26,26] 26 #[.slice (some ⟨W.heap.size,0,none⟩) 0 0,.slice (some ⟨lb,lo,none⟩) i lc]).run Tryz.prog Y=.ok v1 w1 ∧
   ∃ a1 c1,v1=.slice a1 i c1∧Below W.heap.size W w1 ∧
   ∀ Y2,Same Y2 w1→∃ v2 w2,(Builtin.append_ #[26,26] 26 #[.slice a1 i c1,.slice a3 (L.length-(i+1)) (lc-(i+1))]).run Tryz.prog Y2=.ok v2 w2 ∧
    ∃ a2 c2 f',v2=.slice a2 (i+(L.length-(i+1))) c2∧aO f1 W w2∧aI.ow w2 (dA 10 gZ (L.take i++L.drop (i+1))) (.slice a2 (i+(L.length-(i+1))) c2) f'∧∀ b,f' b→f1 b∨f3 b∨W.heap.size≤b:=by
 obtain⟨i0,hi0,hz0,hz1,hz2⟩:=nT Tryz.infoMl;have hel:Tryz.prog.elem 26=68:=by kernel_rfl
 have hce:Tryz.prog.cellsOf 68=10:=by kernel_rfl
 have n1:(L.take i).length=i:=by rw[List.length_take];omega
 have n3:(L.drop (i+1)).length=L.length-(i+1):=List.length_drop;refine⟨fun X=>?_,if lc=i+1 then some ⟨lb,lo,none⟩ else some ⟨lb,lo+(i+1)*10,none⟩,fun X=>?_,fun Y hY=>?_⟩
 ·rw[run_slice_h X 26 (some ⟨lb,lo,none⟩) L.length lc (by kernel_rfl) .i64 (i:Int) (by omega) (by omega),hel,run_sizeOf X hi0,hce]
  have:¬ lc=0:=by omega
  simp[Result.andThen,sliced,this,Addr.add]
 ·rw[run_slice_l X 26 (some ⟨lb,lo,none⟩) L.length lc (by kernel_rfl) .i64 ((i:Int)+1) (by omega) (by omega),hel,run_sizeOf X hi0,hce]
  have e:((i:Int)+1).toNat=i+1:=by omega
  simp only[Result.andThen,sliced,e]
  split<;>simp[Addr.add]
 have jg:=(aF W _).trans (hY.below.mono (aF W _).size);have hwY:=hW.trans (jg.mono hW.size);have hnb:W.heap.size<Y.heap.size:=by rw[hY.size];simp
 have l1Y:=bM l1 hwY;have e0:aI.ow Y (dA 10 gZ []) (.slice (some ⟨W.heap.size,0,none⟩) 0 0) (fun _=>False):=⟨some ⟨W.heap.size,0,none⟩,0,[],none,fun _=>False,rfl,dR.nil _ _ (jG _ _),⟨rfl,fun _ h=>h⟩,fun _ _ h=>h,fun b=>by simp⟩
 obtain ⟨a1,c1,w1,fq,r1,o1,w1w,s1⟩ := F8 (P := Tryz.prog) kK wG (w := Y) 26 26 68 _ 136 Tryz.underlying26 Tryz.infoMl rfl (by omega) (L := []) (M := L.take i) e0 l1Y (fun _ h => h.elim) (some ⟨lb,lo,none⟩) lc (.inr ⟨_,rfl,fun j u hu => by
  have:=k1 j u hu;have h2:=(hwY.cell (World.block_lt_of_cell? _ _ this)).trans this;rw[addr_add];exact h2⟩) (by simp only[List.length_nil];rw[n1];unfold maxLen;omega) (by simp only[List.length_nil];rw[n1];omega)
 simp only[List.length_nil,Nat.zero_add,List.nil_append] at r1 o1;rw[n1] at r1 o1;have hb1:Below W.heap.size W w1:=w1w.below jg jg.size (fun b h=>h.elim)
 refine⟨_,w1,r1,a1,c1,rfl,hb1,fun Y2 hY2=>?_⟩
 have hb2:=hb1.trans (hY2.below.mono hb1.size);have hw2:=hW.trans (hb2.mono hW.size);have l3Y:=bM l3 hw2;have NT:aI.ow Y2 (dA 10 gZ (L.take i)) (.slice a1 (L.take i).length c1) fq:=by rw[n1];exact aI.cZ o1 hY2.below
 have hsY:=hwY.size
 obtain ⟨a2,c2,w2,fr,r2,o2,w2w,s2⟩ := F8 (P := Tryz.prog) kK wG (w := Y2) 26 26 68 _ 136 Tryz.underlying26 Tryz.infoMl rfl (by omega) (L := L.take i) (M := L.drop (i + 1)) NT l3Y (fun b h1 h3 => by
  rcases s1 b h1 with k|k|k
  ·exact k
  ·exact h13 b k h3
  ·have:=hs3 b h3;omega) (if lc=i+1 then some ⟨lb,lo,none⟩ else some ⟨lb,lo+(i+1)*10,none⟩) (lc-(i+1)) (by
   by_cases e:lc=i+1
   ·left;rw[n3];omega
   ·right
    rw[if_neg e];refine⟨_,rfl,fun j u hu=>?_⟩
    have:=k3 j u hu;have h2:=(hw2.cell (World.block_lt_of_cell? _ _ this)).trans this;rw[addr_add];exact h2) (by rw[n1,n3];unfold maxLen;omega) (by rw[n1,n3];omega)
 rw[n1,n3] at r2 o2;have hsW:=hW.size;refine⟨_,w2,r2,a2,c2,fr,rfl,(aO.of_below (f:=f1) hb2).trans w2w (fun b hlt h=>?_),o2,fun b hb=>?_⟩
 ·rcases s1 b h with k|k|k
  ·exact k.elim
  ·exact k
  ·omega
 ·rcases s2 b hb with k|k|k
  ·rcases s1 b k with k|k|k
   ·exact k.elim
   ·exact .inl k
   ·right;right;omega
  ·exact .inr (.inl k)
  ·right;right;have:=hb2.size;omega
theorem Sv (B o:Nat) (g:Gr) (n i:Nat) (fp:Fp) (w:World) (h:dN w B o (dB g) fp) (ok:OkG g n) (hi:i<g.aG.length) :
  Calls Tryz.prog 79 #[.pointer (some ⟨B,o,none⟩),.int .i64 (i:Int)] w fun e w'=>e=.returned (.tuple #[])∧bC w w' B o (dB (iU g i)) fp:=by
 have bH:=dH;have fG:=ok.n5;have Bd:=ok.lX;obtain⟨bb,off,c,G0⟩:=Gw.start h (by rw[ok.ml];omega)
 obtain⟨u,f,f0,hu,hfz,how,hfB,hBl,hfl,hmem,hap,hput⟩:=G0.full;obtain⟨lb,lo,lc,u1,u2,u3,f1,f2,f3,rfl,hfb,hlc,hlm,s1,s2,s3,l1,l2,l3,d12,d13,d23,k1,k2,k3⟩:=NW kK how (lK hi);obtain⟨a,t,efr,eto,han,htn,hat,R⟩:=ok.iP _ (List.mem_of_getElem? (lK hi))
 have J4:Hid (iU g i=if nM g t=true then { mem:=g.mem.set t (aX (aN g t) (aU g i).fr (aU g i).row).1,up:=g.up,aG:=g.aG.take i++g.aG.drop (i+1) } else { g with aG:=g.aG.take i++g.aG.drop (i+1) }):=by
  rw[Hid,iU,eto];simp only[Int.toNat_natCast]
 obtain⟨A,eA,N9⟩:=Gi l2;subst eA;have hln:=R.ln;have hfit:=R.fit;generalize aU g i=x at *;obtain⟨fr,tt,r⟩:=x;simp only at efr eto J4 N9 R hln hfit
 subst efr eto;have hc:∀ j y,(xI ⟨(a:Int),(t:Int),r⟩ A).toList[j]?=some y→w.cell? ⟨lb,lo+i*10+j,none⟩=some y:=k2;have x0:=hc 0 _ rfl;have x1:=hc 1 _ rfl;have x2:=hc 2 _ rfl;have x3:=hc 3 _ rfl;have x4:=hc 4 _ rfl;have x5:=hc 5 _ rfl;have x6:=hc 6 _ rfl;have x7:=hc 7 _ rfl;have x8:=hc 8 _ rfl;have x9:=hc 9 _ rfl;simp only[Nat.add_zero] at x0;have hB0:=aF w (.cells #[.int .i64 (a:Int),.int .i64 (t:Int),.int .i64 r.ver,.slice A.ta r.txt.length A.tc,.slice A.ga r.got.length A.gc,.slice A.sa r.ak.length A.sc,.bool r.wed,.bool r.aB,.int .i64 r.aC,.slice A.ma r.aA.length A.mc] 68);have hx:=Bx.new w 68 #[.int .i64 (a:Int),.int .i64 (t:Int),.int .i64 r.ver,.slice A.ta r.txt.length A.tc,.slice A.ga r.got.length A.gc,.slice A.sa r.ak.length A.sc,.bool r.wed,.bool r.aB,.int .i64 r.aC,.slice A.ma r.aA.length A.mc];obtain⟨sl1,a3,sl3,hA⟩:=VH (W:=w.alloc (.cells #[.int .i64 (a:Int),.int .i64 (t:Int),.int .i64 r.ver,.slice A.ta r.txt.length A.tc,.slice A.ga r.got.length A.gc,.slice A.sa r.ak.length A.sc,.bool r.wed,.bool r.aB,.int .i64 r.aC,.slice A.ma r.aA.length A.mc] 68)) (la:=none) (f:=f) hB0 hi (by omega) hlc (fun b hb=>hfl b (s1 b hb).1) (fun b hb=>hfl b (s3 b hb).1) d13 l1 l3 k1 k3
 have i0:(0:Int)≤(i:Int):=by omega
 have i1:(i:Int)<(g.aG.length:Int):=by omega
 have hwi:IntKind.i64.wrap ((i:Int)+1)=(i:Int)+1:=wrap_one (by omega)
 have wH:Hid (∀ (X1:World) (L:List Ml) (u':Value) (f':Fp),aO f w X1→aI.ow X1 (dA 10 gZ L) u' f'→(∀ b,f' b→f b∨w.heap.size≤b)→X1.cell? ⟨B,o+2,none⟩=some (.slice (some ⟨lb,lo,none⟩) g.aG.length lc)∧X1.frozen? ⟨B,o+2,none⟩=false∧Gw w (X1.setCell ⟨B,o+2,none⟩ u') B o { g with aG:=L } fp bb off c):=hput
 have HL2:Hid (bG w (fM r) (fC A r) f2∧(∀ b,f1 b→¬ f2 b)∧(∀ b,f2 b→b≠B)∧(∀ b,f2 b→b<w.heap.size)):=⟨N9,d12,fun b hb e=>hfB (e ▸ (s2 b hb).1),fun b hb=>hfl b (s2 b hb).1⟩
 have HF:Hid ((∀ b,f1 b→f b)∧(∀ b,f3 b→f b)∧¬ f B∧B<w.heap.size∧∀ b,f b→b<w.heap.size):=⟨fun b hb=>(s1 b hb).1,fun b hb=>(s3 b hb).1,hfB,hBl,hfl⟩
 have cO:Hid (OkG g n):=ok;have VI:Hid (lV r):=hfit;generalize hW:w.alloc (.cells #[.int .i64 (a:Int),.int .i64 (t:Int),.int .i64 r.ver,.slice A.ta r.txt.length A.tc,.slice A.ga r.got.length A.gc,.slice A.sa r.ak.length A.sc,.bool r.wed,.bool r.aB,.int .i64 r.aC,.slice A.ma r.aA.length A.mc] 68)=W at *;have hw0:w.alloc (.cells #[.int .i64 (a:Int),.int .i64 (t:Int),.int .i64 r.ver,.slice A.ta r.txt.length A.tc,.slice A.ga r.got.length A.gc,.slice A.sa r.ak.length A.sc,.bool r.wed,.bool r.aB,.int .i64 r.aC,.slice A.ma r.aA.length A.mc] 68)=W:=hW;have HB0:Hid (Below w.heap.size w W):=hB0;have HX:Hid (Bx W w.heap.size 68 #[.int .i64 (a:Int),.int .i64 (t:Int),.int .i64 r.ver,.slice A.ta r.txt.length A.tc,.slice A.ga r.got.length A.gc,.slice A.sa r.ak.length A.sc,.bool r.wed,.bool r.aB,.int .i64 r.aC,.slice A.ma r.aA.length A.mc]):=hx;have Hr:W.cell? ⟨B,o+2,none⟩=some (.slice (some ⟨lb,lo,none⟩) g.aG.length lc):=(hB0.cell (World.block_lt_of_cell? _ _ hu)).trans hu;have HuW:Hid (W.cell? ⟨B,o+2,none⟩=some (.slice (some ⟨lb,lo,none⟩) g.aG.length lc)):=Hr;have hbd:Below W.heap.size W W.drew:=(Same.drewN W 1).below
 have hAd:∀ Y,Same Y (W.drew.alloc (.cells #[] 68))→∃ v1 w1,(Builtin.append_ #[26,26] 26 #[.slice (some ⟨W.heap.size,0,none⟩) 0 0,.slice (some ⟨lb,lo,none⟩) i lc]).run Tryz.prog Y=.ok v1 w1 ∧
   ∃ a1 c1,v1=.slice a1 i c1∧Below W.heap.size W w1 ∧
   ∀ Y2,Same Y2 w1→∃ v2 w2,(Builtin.append_ #[26,26] 26 #[.slice a1 i c1,.slice a3 (g.aG.length-(i+1)) (lc-(i+1))]).run Tryz.prog Y2=.ok v2 w2 ∧
    ∃ a2 c2 f',v2=.slice a2 (i+(g.aG.length-(i+1))) c2∧aO f1 W w2∧aI.ow w2 (dA 10 gZ (g.aG.take i++g.aG.drop (i+1))) (.slice a2 (i+(g.aG.length-(i+1))) c2) f'∧∀ b,f' b→f1 b∨f3 b∨W.heap.size≤b:=fun Y hY=>hA Y ⟨hY.heap,hY.os,hY.tape,hY.output⟩
 clear hput how hfl hap hmem h hfB hBl hB0 hx hW hc k1 k2 k3 l1 l2 N9 l3 s1 s2 s3 d12 d13 d23 hA hfb hfz G0 ok hfit;go_enter Tryz.func79,Tryz.ntmps79
 go_wp2_with fail
 clear x0 x1 x2 x3 x4 x5 x6 x7 x8 x9 hu;refine jE (S:=fun X:World=>X.cell? ⟨B,o+2,none⟩=some (.slice (some ⟨lb,lo,none⟩) g.aG.length lc)) 19 bH (Hr) fun hHeld=>?_
 refine aS (i:=0) rfl ?_;refine aS (i:=2) rfl ?_;refine aS (i:=3) rfl ?_;refine aS (i:=4) rfl ?_;refine aY (i:=5) rfl hHeld ?_;refine aS (i:=6) rfl ?_;refine aS (i:=7) rfl ?_;refine aS (i:=9) rfl ?_;refine aS (i:=10) rfl ?_;refine aS (i:=11) rfl ?_;refine aY (i:=12) rfl hHeld ?_;refine aS (i:=13) rfl ?_;refine aS (i:=14) rfl ?_;refine aS (i:=15) rfl ?_;refine dI (i:=1) rfl fun K hK=>?_
 go_simp;refine hK.out _ _ (((hbd.trans ((aF W.drew _).mono hbd.size)).cell (World.block_lt_of_cell? _ _ Hr)).trans Hr) (fun aK=>?_)
 clear hK hHeld;have hHeld:=aK;try simp only[dw]
 refine dI (i:=8) rfl fun K hK=>?_
 refine gQ (by rfl) _ _ _ _ (by rfl) (.slice (some ⟨W.heap.size,0,none⟩) 0 0) _ (by rfl) (by rfl) hAd ⟨rfl,rfl,rfl,rfl⟩ ?_
 rintro v1 w1 ⟨a1,c1,rfl,hb1,hA2⟩;refine hK.out _ _ ((hb1.cell (World.block_lt_of_cell? _ _ Hr)).trans Hr) (fun aK=>?_)
 clear hK hHeld;have hHeld:=aK;try simp only[dw]
 refine dI (i:=16) rfl fun K hK=>?_
 refine gQ (by rfl) _ _ _ _ (by rfl) (.slice a1 i c1) _ (by rfl) (by rfl) hA2 ⟨rfl,rfl,rfl,rfl⟩ ?_
 rintro v2 w2 ⟨a2,c2,f',rfl,hw2,yA,hf2⟩;refine hK.out _ _ (jT hw2 (fun h=>HF.out.2.2.1 (HF.out.1 _ h)) Hr) (fun aK=>?_)
 clear hK hHeld;have hHeld:=aK;try simp only[dw]
 refine aS (i:=17) rfl ?_;refine aS (i:=18) rfl ?_;have am4:aO f w w2:=(aO.of_below (f:=f) HB0.out).trans hw2 (fun b _ h=>HF.out.1 b h)
 have hWs:=HB0.out.size
 obtain ⟨q1,q2,hG⟩ := wH.out w2 _ _ f' am4 yA (fun b hb => by
  rcases hf2 b hb with k|k|k
  ·exact .inl (HF.out.1 b k)
  ·exact .inl (HF.out.2.1 b k)
  ·right;omega)
 refine lQ rfl fun K hK=>?_
 go_simp;refine hK.out _ _ ?_;have HG:Hid (Gw w (w2.setCell ⟨B,o+2,none⟩ (.slice a2 (i+(g.aG.length-(i+1))) c2)) B o { g with aG:=g.aG.take i++g.aG.drop (i+1) } fp bb off c):=hG
 have jZ:Hid (Bx (w2.setCell ⟨B,o+2,none⟩ (.slice a2 (i+(g.aG.length-(i+1))) c2)) w.heap.size 68 #[.int .i64 (a:Int),.int .i64 (t:Int),.int .i64 r.ver,.slice A.ta r.txt.length A.tc,.slice A.ga r.got.length A.gc,.slice A.sa r.ak.length A.sc,.bool r.wed,.bool r.aB,.int .i64 r.aC,.slice A.ma r.aA.length A.mc]):=(HX.out.wrt hw2 (fun h=>by have:=HF.out.2.2.2.2 _ (HF.out.1 _ h);omega)).far (by have:=HF.out.2.2.2.1;omega) _
 have HR2:Hid (nJ (w2.setCell ⟨B,o+2,none⟩ (.slice a2 (i+(g.aG.length-(i+1))) c2)) A r):=by
  have o1:=bP (bM HL2.out.1 HB0.out) hw2 (fun b hb h1=>HL2.out.2.1 b h1 hb)
  have o2:=bP o1 (aO.set w2 B (o+2) (.slice a2 (i+(g.aG.length-(i+1))) c2)) (fun b hb e=>HL2.out.2.2.1 b hb e)
  exact am3 o2 VI.out hln
 clear hG hA2 hAd q1 q2 hw2 yA hf2 hb1 wH Hr HuW am4 HL2;generalize w2.setCell ⟨B,o+2,none⟩ (.slice a2 (i+(g.aG.length-(i+1))) c2)=W3 at *;have J5:t<g.mem.length:=by rw[cO.out.ml];exact htn
 have htu:t<g.up.length:=by rw[cO.out.ul];exact htn
 obtain⟨ub,uo,uc,cu,cb0,_,_⟩:=HG.out.bit (k:=t) htu;have cb:W3.cell? ⟨ub,uo+t,none⟩=some (.bool (nM g t)):=cb0;clear cb0;have t0:(0:Int)≤(t:Int):=by omega
 have t1:(t:Int)<(g.up.length:Int):=by omega
 have t2:(t:Int)<(g.mem.length:Int):=by omega
 obtain⟨⟨y0,y1⟩,⟨y2,y3,y4,y5⟩,y6,y7,y8,y9⟩:=Bx.r10 jZ.out;go_wp2_with fail
 go_quiet (fail)
 have hb4:Below W3.heap.size W3 (W3.drewN nq):=bg (Below.refl _ _);generalize W3.drewN nq=W4 at *;clear cu cb y0 y1 y2 y3 y4 y5 y6 y7 y8 y9;have Bo:Hid (Gw w W4 B o { g with aG:=g.aG.take i++g.aG.drop (i+1) } fp bb off c):=HG.out.step hb4
 have Sz:Hid (Bx W4 w.heap.size 68 #[.int .i64 (a:Int),.int .i64 (t:Int),.int .i64 r.ver,.slice A.ta r.txt.length A.tc,.slice A.ga r.got.length A.gc,.slice A.sa r.ak.length A.sc,.bool r.wed,.bool r.aB,.int .i64 r.aC,.slice A.ma r.aA.length A.mc]):=jZ.out.below hb4;have HR4:Hid (nJ W4 A r):=HR2.out.below hb4;clear hb4
 cases hup:nM g t with
 | false =>
  have HZ:Hid (iU g i={ g with aG:=g.aG.take i++g.aG.drop (i+1) }):=by rw[Hid,J4.out,hup];rfl
  go_wp2;go_end0;exact⟨rfl,by rw[HZ.out];exact Bo.out.bU⟩
 | true =>
  have HZ:Hid (iU g i={ mem:=g.mem.set t (aX (aN g t) (a:Int) r).1,up:=g.up,aG:=g.aG.take i++g.aG.drop (i+1) }):=by rw[Hid,J4.out,hup];rfl
  have c0:=Bo.out.mem;obtain⟨⟨y0,y1⟩,⟨y2,y3,y4,y5⟩,y6,y7,y8,y9⟩:=Bx.r10 Sz.out;have T:∀ {x v},W4.cell? x=some v→∀ q:Bk W4,q.w.cell? x=some v:=fun h q=>(q.h.cell (World.block_lt_of_cell? _ _ h)).trans h
  have p0:=T c0;have z0:=T y0;have z1:=T y1;have z2:=T y2;have z3:=T y3;have z4:=T y4;have z5:=T y5;have z6:=T y6;have z7:=T y7;have z8:=T y8;have z9:=T y9;clear c0 y0 y1 y2 y3 y4 y5 y6 y7 y8 y9 T hup;simp only at p0
  go_wp2_with fail
  refine bK (C:=fun w'=>∃ p:Bk W4,w'=p.w) 11 bH (by kernel_rfl) ⟨⟨W4.drewN 1,bg (Below.refl _ _)⟩,rfl⟩ ?_
  simp only[List.take_succ_cons,List.take_zero]
  repeat (go_big_quiet_step ((first|rfl)))
  refine wpQuiet_nil (dK fun wE aJ=>?_)
  simp only[List.drop_succ_cons,List.drop_zero]
  clear p0 z0 z1 z2 z3 z4 z5 z6 z7 z8 z9;have G5:=Bo.out.step aJ;obtain⟨f9,hpl,hbk⟩:=G5.mb (k:=t) J5;have hM:=Bj bb (off+t*5) (aN g t) t n (a:Int) A r f9 wE hpl (cO.out.mem t htn) (HR4.out.below aJ) ⟨by omega,by omega⟩
  have J6:=aj hbk;clear hpl hbk G5;unfold bV bD at hM;go_wp2_with (go_at_call 123;refine hM.mono ?_;rintro e w5 ⟨rfl,hb5⟩;have nO:Hid (bC w w5 B o (dB (iU g i)) fp):=(by rw[Hid,HZ.out];exact (J6.out w5 _ hb5).bU);clear hM hb5)
  go_end0;exact⟨rfl,nO.out⟩
def lN (L:List Nat):List Int:=L.map (fun (j:Nat)=>(j:Int))
theorem eP (L:List Nat):(lN L).length=L.length:=List.length_map _
theorem rX {L:List Nat} {k:Nat} (h:k<L.length):el (lN L) k=((L.getD k 0:Nat):Int):=by simp[lN,el,h,List.getD]
theorem oP (n:Nat) (ak:List Int):(aP n ak).length≤n:=by
 have:=List.length_filter_le (fun (j:Nat)=>decide ((j:Int)∉ak)) (List.range n)
 simpa[aP] using this
theorem ER (k:Nat) (ak:List Int):aP (k+1) ak=if (k:Int)∈ak then aP k ak else aP k ak++[k]:=by
 unfold aP;rw[List.range_succ,List.filter_append];by_cases h:(k:Int)∈ak<;>simp[h]
def J7 (w w':World) (e:Ending) (Z:List Int):Prop:=∃ a c,e=.returned (.slice a Z.length c)∧oD w w' (bQ Z) (.slice a Z.length c)
theorem Ht (w0:World) (B o:Nat) (m:Mb) (i n:Nat) (fp:Fp) (g off c:Nat) (w:World) (M:Mw w0 w B o m fp g off c) (ok:dO m i n) :
  Calls Tryz.prog 118 #[.pointer (some ⟨B,o,none⟩)] w fun e w'=>J7 w w' e (lN (aP n (ah m.rows i).ak)):=by
 have hil:i<m.rows.length:=by rw[ok.len];exact ok.lt
 have HM:=aj M;have hr:=ok.ok i ok.lt;have fG:=hr.n5;have i0:(0:Int)≤(i:Int):=by omega
 have i1:(i:Int)<(m.rows.length:Int):=by omega
 have hb0:=aF w (.cells #[] 2);have HB0:=aj hb0;have fH:Hid (aI.ow (w.alloc (.cells #[] 2)) (bQ []) (.slice (some ⟨w.heap.size,0,none⟩) 0 0) (fun _=>False)):=fB.2 ⟨_,0,none,rfl,dR.nil _ _ (jG _ _),fun b=>by simp⟩
 clear M hb0;go_enter Tryz.func118,Tryz.ntmps118
 go_wp2_with fail
 generalize w.alloc (.cells #[] 2)=W0 at *
 go_loopw [3,4] (fun v k wr=>∃ (j:Nat) (a:Option Addr) (cc:Nat) (Z:List Int) (fz:Fp),j≤n∧k=.int .i64 (j:Int)∧v=.slice a Z.length cc∧Hid (Z=lN (aP j (ah m.rows i).ak))∧aI.ow wr (bQ Z) (.slice a Z.length cc) fz∧(∀ b,fz b→w.heap.size≤b)∧Below w.heap.size w wr) (fun _ k _=>n-(intOf k).toNat)
 case atStart=>exact⟨0,some ⟨w.heap.size,0,none⟩,0,[],_,Nat.zero_le _,rfl,rfl,rfl,fH.out,fun b h=>h.elim,HB0.out⟩
 case round =>
  obtain⟨j,a,cc,Z,fz,hj,rfl,rfl,hZ,hO,hfz,hb⟩:=hrel;have M1:=HM.out.step hb;obtain⟨c0,c1,c4⟩:=M1.id';have c2:=M1.rws;rw[ok.hid] at c0;rw[ok.hn] at c1;by_cases hlt:j<n
  ·have k1:(j:Int)<(n:Int):=by omega
   obtain⟨Ak,⟨⟨d0,d1,d2,d3⟩,d4,d5,d6,d7⟩,hrs⟩:=M1.row ok.fit hil;have C2:∀ q:Bk wr,Calls Tryz.prog 113 #[.slice Ak.sa (ah m.rows i).ak.length Ak.sc,.int .i64 (j:Int)] q.w fun e w'=>e=.returned (.bool (decide ((j:Int)∈(ah m.rows i).ak)))∧Below q.w.heap.size q.w w':=fun q=>(oI Ak.sa (ah m.rows i).ak.length Ak.sc (j:Int) (ah m.rows i).ak q.w (hrs.ak.below q.h (Nat.le_refl _)) hrs.ms).mono (fun e w' h=>⟨h.1,by rw[h.2];exact Below.refl _ _⟩)
   have T:∀ {x v},wr.cell? x=some v→∀ q:Bk wr,q.w.cell? x=some v:=fun h q=>(q.h.cell (World.block_lt_of_cell? _ _ h)).trans h
   have p0:=T c0;have p2:=T c2;have s3:=T d3;have HO:=aj hO;have HB:=aj hb;have Bq:Z.length≤1000000:=by rw[hZ.out,eP];have:=oP j (ah m.rows i).ak;omega
   have HN:Hid (lN (aP (j+1) (ah m.rows i).ak)=if (j:Int)∈(ah m.rows i).ak then Z else Z++[(j:Int)]):=by
    rw[Hid,hZ.out,ER];by_cases hm:(j:Int)∈(ah m.rows i).ak<;>simp[hm,lN]
   have wj:wrap64 ((j:Int)+1)=(j:Int)+1:=by unfold wrap64;omega
   clear d0 d1 d2 d3 d4 d5 d6 d7 c0 c2 c4 hrs M1 hO hb T;by_cases hm:(j:Int)∈(ah m.rows i).ak
   ·rw[decide_eq_true hm] at C2
    rw[if_pos hm] at HN;clear hm;go_wp2_with fail
    refine eU ?_;repeat (go_big_quiet_step ((first|(go_at_call 113;exact aQ _ (C2 _))|rfl)))
    refine wpQuiet_nil (dK fun wE aJ=>?_)
    have yJ:=aj (aI.cZ HO.out aJ);have HB2:=aj (HB.out.trans (aJ.mono HB.out.size));clear C2 p0 p2 s3 aJ c1;go_wp2;go_roundw
    case rel=>exact⟨j+1,a,cc,Z,fz,by omega,by go_num,rfl,HN.out.symm,yJ.out,hfz,HB2.out⟩
    case measure=>simp[intOf];omega
   ·rw[decide_eq_false hm] at C2
    rw[if_neg hm] at HN;clear hm;go_wp2_with fail
    refine eU ?_;repeat (go_big_quiet_step ((first|(go_at_call 113;exact aQ _ (C2 _))|rfl)))
    refine wpQuiet_nil (dK fun wE aJ=>?_)
    have HB2:=aj (HB.out.trans (aJ.mono HB.out.size));obtain⟨a',c',ea,hA⟩:=ny (j:Int) (aI.cZ HO.out aJ) Bq
    cases ea
    clear C2 p0 p2 s3 c1;go_wp2_with (at_builtin;refine aZ (by rfl) _ _ _ _ (by rfl) _ _ (by rfl) (by rfl) hA ⟨rfl,rfl,rfl,rfl⟩ ?_;rintro v1 w1 ⟨a1,e1,f1,rfl,q1,q2,q3⟩;have pY:Hid (aI.ow w1 (bQ (Z++[(j:Int)])) (.slice a1 (Z.length+1) e1) f1):=q1;have yK:Hid (∀ b,f1 b→fz b∨wE.heap.size≤b):=q2;have yL:Hid (aO fz wE w1):=q3;clear q1 q2 q3 hA)
    have hbs:=aJ.size;have ax4:=HB.out.size;have HL:Hid ((Z++[(j:Int)]).length=Z.length+1):=by rw[Hid,List.length_append];rfl
    go_roundw
    case rel=>exact⟨j+1,a1,e1,Z++[(j:Int)],f1,by omega,by go_num,by rw[HL.out],HN.out.symm,by rw[HL.out];exact pY.out,fun b hb=>(yK.out b hb).elim (hfz b) (fun h=>by omega),yL.out.below HB2.out (by omega) (fun b hb=>hfz b hb)⟩
    case measure=>simp[intOf];omega
  ·have k1:¬ ((j:Int)<(n:Int)):=by omega
   have ej:j=n:=by omega
   have HZ:Hid (Z=lN (aP n (ah m.rows i).ak)):=by rw[Hid,hZ.out,ej]
   have HO:Hid (oD w wr (bQ Z) (.slice a Z.length cc)):=⟨fz,hO,hfz,hb⟩;clear ej hO hb M1 c0 c2 c4;go_wp2;go_ret
   rw[← HZ.out];exact⟨a,cc,rfl,HO.out⟩
structure Bv (w:World) (B o:Nat) (cs:List aI) (vs:List Value) (fp:Fp):Prop where
 pc:Pc w B o vs
 own:bG w cs vs fp
 nB:¬ fp B
theorem Bv.stay {w w1:World} {B o o':Nat} {cs cs':List aI} {vs:List Value} {f f':Fp} (h:Bv w B o' cs' vs f') (hb:bC w w1 B o cs f) (hd:∀ b,f' b→¬ f b) (ho:o'+vs.length≤o∨o+cs.length≤o'):Bv w1 B o' cs' vs f':=by
 refine⟨⟨fun j hj=>?_,fun j hj=>?_,Nat.lt_of_lt_of_le h.pc.lt hb.wrt.size⟩,bP h.own hb.wrt (fun b hb' hk=>?_),h.nB⟩
 ·rw[hb.out (o'+j) (by omega)];exact h.pc.cell j hj
 ·rw[hb.frz];exact h.pc.free j hj
 ·rcases hk with hk|hk
  ·exact hd b hb' hk
  ·exact h.nB (hk ▸ hb')
theorem zB {k n s:Nat} (hk:k<n):k*s+s≤n*s:=by
 have:(k+1)*s≤n*s:=Nat.mul_le_mul_right s hk;rw[Nat.add_mul,Nat.one_mul] at this;exact this
theorem SA {w:World} {ds:List aI} {us:List Value} {f:Fp} (h:bG w ds us f) {p s:Nat} (hp:p+s≤ds.length):∃ f',bG w ((ds.drop p).take s) ((us.drop p).take s) f'∧∀ b,f' b→f b:=by
 have hl:=fJ h;have e1:ds=ds.take p++((ds.drop p).take s++ds.drop (p+s)):=by rw[← List.drop_drop,List.take_append_drop,List.take_append_drop]
 rw[e1] at h;obtain⟨u1,u23,f1,f23,rfl,hl1,Jj,_,hf1⟩:=jl h;obtain⟨u2,u3,f2,f3,rfl,hl2,hl3,_,hf2⟩:=jl Jj;have n1:u1.length=p:=by rw[fJ hl1,List.length_take];omega
 have n2:u2.length=s:=by rw[fJ hl2,List.length_take,List.length_drop];omega
 refine⟨f2, ?_,fun b hb=>(hf1 b).2 (.inr ((hf2 b).2 (.inl hb)))⟩
 have e2:((u1++(u2++u3)).drop p).take s=u2:=by
  rw[← n1,List.drop_left,← n2,List.take_left]
 rw[e2];exact hl2
theorem am5 {w:World} {s n c:Nat} {g off:Nat} {ds:List aI} {fp:Fp} (h:aI.ow w (.sl s n ds) (.slice (some ⟨g,off,none⟩) n c) fp) {k k':Nat} (hk:k<n) (hk':k'<n) (hne:k'≠k) (hs:0<s) (hlen:ds.length=n*s):∃ f f' vs',dN w g (off+k*s) ((ds.drop (k*s)).take s) f∧Bv w g (off+k'*s) ((ds.drop (k'*s)).take s) vs' f'∧(∀ b,f' b→¬ f b)∧vs'.length=s ∧
  (∀ b,f b→fp b)∧fp g∧∀ (w1:World) (es:List aI),es.length=s→bC w w1 g (off+k*s) es f→∃ fp',aI.ow w1 (.sl s n (ds.take (k*s)++es++ds.drop (k*s+s))) (.slice (some ⟨g,off,none⟩) n c) fp'∧(∀ b,fp' b→fp b∨w.heap.size≤b)∧aO fp w w1:=by
 have h0:=h;obtain⟨a0,c0,us,G,f0,e0,ho,hl,hG,hf⟩:=h
 cases e0
 rcases ho with ⟨h0',_⟩|⟨g',off',e1,ho,rfl⟩
 ·omega
 cases e1
 have zQ:=ho.len;have hks:=zB (s:=s) hk;have aC3:=zB (s:=s) hk';have hle:=ho.le;have hcs:=Nat.mul_le_mul_right s hle;have hgn:¬ f0 g:=fun hb=>hG g rfl hb
 have hblk:=ho.blk
 have e1:ds=ds.take (k*s)++((ds.drop (k*s)).take s++ds.drop (k*s+s)):=by
  rw[← List.drop_drop,List.take_append_drop,List.take_append_drop]
 have hl':=hl;rw[e1] at hl';obtain⟨u1,u23,f1,f23,eus,hl1,Jj,hd1,hf1⟩:=jl hl';obtain⟨u2,u3,f2,f3,e23,hl2,hl3,hd2,hf2⟩:=jl Jj;subst e23;have n1:u1.length=k*s:=by rw[fJ hl1,List.length_take];omega
 have n2:u2.length=s:=by rw[fJ hl2,List.length_take,List.length_drop];omega
 have hfg:∀ b,f2 b→f0 b:=fun b hb=>(hf1 b).2 (.inr ((hf2 b).2 (.inl hb)))
 -- the other one lies in the first or in the third stretch
 have key:∃ f' vs',bG w ((ds.drop (k'*s)).take s) vs' f'∧(∀ b,f' b→¬ f2 b)∧(∀ b,f' b→f0 b)∧vs'.length=s∧∀ j,j<s→us[k'*s+j]?=vs'[j]?:=by
  rcases Nat.lt_or_gt_of_ne hne with hlt|hgt
  ·have hk2:=zB (s:=s) hlt
   obtain⟨f',h1,h2⟩:=SA hl1 (p:=k'*s) (s:=s) (by rw[List.length_take];omega)
   have e2:(((ds.take (k*s)).drop (k'*s)).take s)=(ds.drop (k'*s)).take s:=by
    rw[List.drop_take,List.take_take,Nat.min_eq_left (by omega)]
   rw[e2] at h1;have hn:((u1.drop (k'*s)).take s).length=s:=by rw[List.length_take,List.length_drop];omega
   refine⟨f',_,h1,fun b hb hb2=>hd1 b (h2 b hb) ((hf2 b).2 (.inl hb2)),fun b hb=>(hf1 b).2 (.inl (h2 b hb)),hn,fun j hj=>?_⟩
   rw[eus,List.getElem?_append_left (by omega),List.getElem?_take_of_lt hj,List.getElem?_drop]
  ·have hk2:=zB (s:=s) hgt
   obtain⟨f',h1,h2⟩:=SA hl3 (p:=k'*s-(k*s+s)) (s:=s) (by rw[List.length_drop];omega)
   have e2:(((ds.drop (k*s+s)).drop (k'*s-(k*s+s))).take s)=(ds.drop (k'*s)).take s:=by
    rw[List.drop_drop,show k*s+s+(k'*s-(k*s+s))=k'*s by omega]
   rw[e2] at h1;have n3:u3.length=n*s-(k*s+s):=by rw[fJ hl3,List.length_drop];omega
   have hn:((u3.drop (k'*s-(k*s+s))).take s).length=s:=by rw[List.length_take,List.length_drop];omega
   refine⟨f',_,h1,fun b hb hb2=>hd2 b hb2 (h2 b hb),fun b hb=>(hf1 b).2 (.inr ((hf2 b).2 (.inr (h2 b hb)))),hn,fun j hj=>?_⟩
   rw[eus,List.getElem?_append_right (by omega),List.getElem?_append_right (by omega),List.getElem?_take_of_lt hj,List.getElem?_drop]
   congr 1
   omega
 obtain⟨f',vs',q1,q2,q3,q4,q5⟩:=key;subst eus;refine⟨f2,f',vs',⟨u2,⟨fun j hj=>?_,fun j hj=>?_,hblk⟩,hl2,fun hb=>hgn (hfg g hb)⟩,⟨⟨fun j hj=>?_,fun j hj=>?_,hblk⟩,q1,fun hb=>hgn (q3 g hb)⟩,q2,q4,fun b hb=>(hf b).2 (.inr (hfg b hb)),(hf g).2 (.inl rfl),fun w1 es hes hb=>?_⟩
 ·have:=ho.cell (k*s+j) (by omega)
  rw[Nat.add_assoc,this,List.getElem?_append_right (by omega),List.getElem?_append_left (by omega),n1]
  congr 1
  omega
 ·have:=ho.free (k*s+j) (by omega)
  rw[Nat.add_assoc];exact this
 ·rw[Nat.add_assoc,ho.cell (k'*s+j) (by omega)]
  exact q5 j (by omega)
 ·rw[Nat.add_assoc]
  exact ho.free (k'*s+j) (by omega)
 ·obtain⟨⟨dD,⟨vs,hv1,hv2,hv3⟩,hx⟩,hout,hfr,hw⟩:=hb
  have nv:vs.length=s:=by rw[fJ hv2,hes]
  have hlt1:=eX hl1;have hlt3:=eX hl3
  have k1 : bG w1 (ds.take (k * s)) u1 f1 := bP hl1 hw (fun b hb hk => by
   rcases hk with hk|hk
   ·exact hd1 b hb ((hf2 b).2 (.inl hk))
   ·exact hgn (hk ▸ (hf1 b).2 (.inl hb)))
  have k3 : bG w1 (ds.drop (k * s + s)) u3 f3 := bP hl3 hw (fun b hb hk => by
   rcases hk with hk|hk
   ·exact hd2 b hk hb
   ·exact hgn (hk ▸ (hf1 b).2 (.inr ((hf2 b).2 (.inr hb)))))
  have k12 := kZ k1 hv2 (fun b hb hb2 => by
   rcases hx b hb2 with hk|hk
   ·exact hd1 b hb ((hf2 b).2 (.inl hk))
   ·have:=hlt1 b hb;omega)
  have U7 := kZ k12 k3 (fun b hb hb2 => by
   rcases hb with hb|hb
   ·exact hd1 b hb ((hf2 b).2 (.inr hb2))
   ·rcases hx b hb with hk|hk
    ·exact hd2 b hk hb2
    ·have:=hlt3 b hb2;omega)
  have hin:∀ b,((f1 b∨dD b)∨f3 b)→f0 b∨w.heap.size≤b:=by
   rintro b ((hb|hb)|hb)
   ·exact .inl ((hf1 b).2 (.inl hb))
   ·exact (hx b hb).imp (hfg b) id
   ·exact .inl ((hf1 b).2 (.inr ((hf2 b).2 (.inr hb))))
  refine⟨fun b=>some g=some b∨((f1 b∨dD b)∨f3 b),⟨some ⟨g,off,none⟩,c,u1++vs++u3,some g,_,rfl,.inr ⟨g,off,rfl,⟨?_,hle,ho.max,Nat.lt_of_lt_of_le hblk hw.size,fun i hi=>?_,fun i hi=>?_,fun i hi=>by rw[hfr];exact ho.free i hi⟩,rfl⟩,U7,fun b hb hk=>?_,fun b=>Iff.rfl⟩,fun b hb=>?_,hw.mono (fun b _ hb=>?_)⟩
  ·simp only[List.length_append] at zQ ⊢;omega
  ·by_cases i1:i<k*s
   ·rw[hout (off+i) (by omega),ho.cell i hi,List.getElem?_append_left (by omega),List.append_assoc,List.getElem?_append_left (by omega)]
   ·by_cases i2:i<k*s+s
    ·have:=hv1.cell (i-k*s) (by omega)
     rw[show off+i=off+k*s+(i-k*s) by omega,this,List.append_assoc,List.getElem?_append_right (by omega),List.getElem?_append_left (by omega),n1]
    ·rw[hout (off+i) (by omega),ho.cell i hi,List.getElem?_append_right (by omega),List.getElem?_append_right (by omega),List.append_assoc,List.getElem?_append_right (by omega),List.getElem?_append_right (by omega),n1,n2,nv]
  ·by_cases i1:i<k*s∨k*s+s≤i
   ·rw[hout (off+i) (by omega)];exact ho.some i hi
   ·have:=hv1.cell (i-k*s) (by omega)
    rw[show off+i=off+k*s+(i-k*s) by omega,this,List.getElem?_eq_getElem (by omega)]
    rfl
  ·cases hb
   rcases hin _ hk with hk|hk
   ·exact hgn hk
   ·omega
  ·rcases hb with hb|hb
   ·cases hb;exact .inl ((hf g).2 (.inl rfl))
   ·exact (hin b hb).imp (fun h=>(hf b).2 (.inr h)) id
  ·rcases hb with hb|hb
   ·exact (hf b).2 (.inr (hfg b hb))
   ·exact (hf b).2 (.inl (by rw[hb]))
theorem dN.elO {α:Type} {F:α→List aI} {s:Nat} (hF:∀ x,(F x).length=s) (hs:0<s) {w:World} {B o:Nat} {cs:List aI} {fp:Fp} (h:dN w B o cs fp) {j:Nat} {L:List α} (hj:cs[j]?=some (dA s F L)) {k k':Nat} {x x':α} (hk:L[k]?=some x) (hk':L[k']?=some x') (hne:k'≠k):∃ g off c f f' vs',w.cell? ⟨B,o+j,none⟩=some (.slice (some ⟨g,off,none⟩) L.length c)∧g≠B∧(∀ b,f b→fp b)∧dN w g (off+k*s) (F x) f∧Bv w g (off+k'*s) (F x') vs' f'∧(∀ b,f' b→¬ f b)∧vs'.length=s ∧
  ∀ (w1:World) (y:α),bC w w1 g (off+k*s) (F y) f→bC w w1 B o (cs.set j (dA s F (L.set k y))) fp:=by
 have lt:∀ {q:Nat} {z:α},L[q]?=some z→q<L.length:=fun {q z} hq=>by
  rcases Nat.lt_or_ge q L.length with h|h
  ·exact h
  ·rw[List.getElem?_eq_none h] at hq;cases hq
 obtain⟨u,fj,hu,hfz,hc,hsub,hnB,hput⟩:=h.at hj;obtain⟨a,c,us,G,f0,rfl,ho⟩:=hc;have hc:aI.ow w (dA s F L) (.slice a L.length c) fj:=⟨a,c,us,G,f0,rfl,ho⟩;obtain⟨g,off,_,e,_⟩:=vZ hF hs hc hk;subst e;obtain⟨f,f',vs',h1,h2,h3,h4,h5,h6,h7⟩:=am5 (ds:=L.flatMap F) hc (lt hk) (lt hk') hne hs (oG hF L);rw[uh hF hk] at h1;rw[uh hF hk'] at h2;refine⟨g,off,c,f,f',vs',hu,fun e=>hnB (e ▸ h6),fun b hb=>hsub b (h5 b hb),h1,h2,h3,h4,fun w1 y hb=>?_⟩
 obtain⟨fp',k1,k2,k3⟩:=h7 w1 (F y) (hF y) hb;rw[DZ hF y (lt hk)] at k1
 have k1':aI.ow w1 (dA s F (L.set k y)) (.slice (some ⟨g,off,none⟩) L.length c) fp':=by
  unfold dA;rw[List.length_set];exact k1
 exact (hput w1 (dA s F (L.set k y)) _ fp' k3 k1' k2).2.2.2 rfl
theorem Oa {A A':Ra} {r:Rw} (h:(bD A r).toList=(bD A' r).toList):A=A':=by
 obtain⟨a1,a2,a3,a4,a5,a6,a7,a8⟩:=A;obtain⟨b1,b2,b3,b4,b5,b6,b7,b8⟩:=A';simp only[bD,List.cons.injEq,Value.slice.injEq,and_true,true_and] at h;obtain⟨⟨h1,h2⟩,⟨h3,h4⟩,⟨h5,h6⟩,h7,h8⟩:=h;subst h1 h2 h3 h4 h5 h6 h7 h8
 rfl
def RV (X:World) (g q:Nat) (A:Ra) (r:Rw):Prop:=C8 X g q (.int .i64 r.ver) (.slice A.ta r.txt.length A.tc) (.slice A.ga r.got.length A.gc) (.slice A.sa r.ak.length A.sc) (.bool r.wed) (.bool r.aB) (.int .i64 r.aC) (.slice A.ma r.aA.length A.mc)∧nJ X A r
theorem Bv.rv {X:World} {g q:Nat} {r:Rw} {vs:List Value} {f:Fp} (h:Bv X g q (eY r) vs f) {A:Ra} (hv:vs=(bD A r).toList) (hf:lV r):RV X g q A r:=by
 subst hv;obtain⟨A',e,hl⟩:=rU h.own;obtain rfl:=Oa e;have jm:(bD A r).toList.length=8:=rfl;have c:=h.pc.cell;refine⟨⟨⟨c 0 (by rw[jm];omega),c 1 (by rw[jm];omega),c 2 (by rw[jm];omega),c 3 (by rw[jm];omega)⟩,c 4 (by rw[jm];omega),c 5 (by rw[jm];omega),c 6 (by rw[jm];omega),c 7 (by rw[jm];omega)⟩, ?_⟩
 have hv:=yG hl;obtain⟨_,_,e1,v1,hv⟩:=hv
 cases e1
 obtain⟨_,_,e2,v2,hv⟩:=hv
 cases e2
 obtain⟨_,_,e3,v3,hv⟩:=hv
 cases e3
 obtain⟨_,_,e4,v4,hv⟩:=hv
 cases e4
 obtain⟨_,_,e,t1,t2,t3⟩:=Rh v1
 cases e
 obtain⟨_,_,e,g1,g2,g3⟩:=jV v2 hf.1
 cases e
 obtain⟨_,_,e,s1,s2,s3⟩:=jV v3 hf.2.1
 cases e
 obtain⟨_,_,e,m1,m2,m3⟩:=jV v4 hf.2.2
 cases e
 exact⟨t1,g1,s1,m1,by omega,by omega,by omega,by omega⟩
theorem Bv.vals {X:World} {g q:Nat} {r:Rw} {vs:List Value} {f:Fp} (h:Bv X g q (eY r) vs f) {A:Ra} (hr:RV X g q A r):vs=(bD A r).toList:=by
 have hl:vs.length=8:=fJ h.own;obtain⟨⟨⟨c0,c1,c2,c3⟩,c4,c5,c6,c7⟩,_⟩:=hr;have c:=h.pc.cell
 apply List.ext_getElem?
 intro j;rcases Nat.lt_or_ge j 8 with hj|hj
 ·have hcj:=c j (by omega)
  match j,hj,hcj with
  | 0,_,hc=>exact hc.symm.trans c0
  | 1,_,hc=>exact hc.symm.trans c1
  | 2,_,hc=>exact hc.symm.trans c2
  | 3,_,hc=>exact hc.symm.trans c3
  | 4,_,hc=>exact hc.symm.trans c4
  | 5,_,hc=>exact hc.symm.trans c5
  | 6,_,hc=>exact hc.symm.trans c6
  | 7,_,hc=>exact hc.symm.trans c7
 ·rw[List.getElem?_eq_none (by omega),List.getElem?_eq_none (by simpa[bD] using hj)]
theorem Mw.YQ {w X:World} {B o:Nat} {m:Mb} {fp:Fp} {g off c:Nat} (h:Mw w X B o m fp g off c) {k k':Nat} (hk:k<m.rows.length) (hk':k'<m.rows.length) (hne:k'≠k) (hf':lV (ah m.rows k')) {A':Ra} (Hu:RV X g (off+k'*8) A' (ah m.rows k')) {j:Nat} {cl:aI} (hj:(eY (ah m.rows k))[j]?=some cl):∃ u f,X.cell? ⟨g,off+k*8+j,none⟩=some u∧X.frozen? ⟨g,off+k*8+j,none⟩=false∧aI.ow X cl u f∧(∀ b,f b→b<X.heap.size) ∧
  ∀ (X1:World) (c':aI) (u':Value) (f':Fp) (r':Rw),(eY (ah m.rows k)).set j c'=eY r'→aO f X X1→aI.ow X1 c' u' f'→(∀ b,f' b→f b∨X.heap.size≤b)→X1.cell? ⟨g,off+k*8+j,none⟩=some u∧X1.frozen? ⟨g,off+k*8+j,none⟩=false∧Mw w (X1.setCell ⟨g,off+k*8+j,none⟩ u') B o { m with rows:=m.rows.set k r' } fp g off c∧RV (X1.setCell ⟨g,off+k*8+j,none⟩ u') g (off+k'*8) A' (ah m.rows k'):=by
 obtain⟨dD,hp,hf1,hgo⟩:=h.bU.next;obtain⟨g',off',c',f,f2,vs2,h1,hgB,hfs,hpl,hpv,hdis,hvl,hput⟩:=hp.elO (F:=eY) gI (by omega) (j:=2) (L:=m.rows) rfl (dW hk) (dW hk') hne
 have e:=Option.some.inj (h1.symm.trans h.rws)
 cases e
 obtain⟨u,fj,hu,hfz,hc,hsub,hnB,hset⟩:=hpl.at hj;have EM:=hp.lt;refine⟨u,fj,hu,hfz,hc,aI.iT hc,fun X1 c' u' f' r' er hw hc' ax5=>?_⟩
 obtain⟨k1,k2,k3,k4⟩:=hset X1 c' u' f' hw hc' ax5;rw[er] at k3;have RN:¬ fj B:=fun hb=>hp.nB (hfs B (hsub B hb))
 have hr1:X1.cell? ⟨B,o+2,none⟩=some (.slice (some ⟨g,off,none⟩) m.rows.length c):=(World.cell?_of_block (hw.block B EM RN)).trans h.rws;refine⟨k1,k2,⟨hgo _ (gW { m with rows:=m.rows.set k r' }) rfl (hput _ r' k3), ?_⟩, ?_⟩
 ·rw[World.cell?_setCell_other _ _ _ _ (by simp only[ne_eq,Addr.mk.injEq,not_and];intro e;exact absurd e hgB),hr1]
  simp
 ·have hm1:k'*8+8≤k*8∨k*8+8≤k'*8:=by omega
  exact (hpv.stay k3 hdis (by rw[hvl,gI];omega)).rv (hpv.vals Hu) hf'
theorem Dp {id:Nat} {s r:List Int} {j:Nat} (hj:j<r.length):gY id s (r.take (j+1))=if el r j=(id:Int) then gY id s (r.take j) else bT (gY id s (r.take j)) (el r j):=by
 have e:el r j=r[j]:=by simp[el,hj]
 unfold gY;rw[List.take_succ_eq_append_getElem hj,List.foldl_append,e]
 rfl
theorem ES {R:List Rw} {id:Nat} {o:Rw} {L:List Nat} {k:Nat} (hk:k<L.length):learn R id o (L.take (k+1))=jd id (learn R id o (L.take k)) (L.getD k 0) (ah R (L.getD k 0)):=by
 have e:L.getD k 0=L[k]:=by simp[List.getD,hk]
 unfold learn;rw[List.take_succ_eq_append_getElem hk,List.foldl_append,e]
 rfl
theorem zC {id:Nat}:∀ {r s:List Int},s.Pairwise (·<·)→(gY id s r).Pairwise (·<·)
 | [],s,h=>h
 | x::r,s,h=>by
  have ih:=zC (id:=id) (r:=r) (s:=if x=(id:Int) then s else bT s x)
  unfold gY at ih ⊢;rw[List.foldl_cons]
  apply ih
  split
  ·exact h
  ·exact rC h
theorem ET {o r:Rw} {n i:Nat} (ok:dL o n) (EH:dL r n) (j:Nat):dL { o with wed:=true,ak:=gY i o.ak (r.ak.take j) } n :=
 ⟨ok.n5,ok.ver,ok.tl,ok.ts,ok.got,ok.gl,ok.g12,fun x hx => by
  rcases rH.1 hx with h|⟨h,_⟩
  ·exact ok.ak x h
  ·exact EH.ak x (List.mem_of_mem_take h),iK.2 (zC (iK.1 ok.kF)),fun h=>⟨rfl,(ok.aB h).2⟩,ok.not⟩
theorem Bz {R:List Rw} {n i:Nat} (hR:∀ k,k<n→dL (ah R k) n):∀ {L:List Nat} {o:Rw},dL o n→(∀ k∈L,k<n)→dL (learn R i o L) n
 | [],o,h,_=>h
 | k::L,o,h,hL=>by
  refine Bz hR (L:=L) (o:=jd i o k (ah R k)) ?_ (fun x hx=>hL x (List.mem_cons_of_mem _ hx))
  unfold jd
  split
  ·exact h
  ·have:=ET (i:=i) h (hR k (hL k List.mem_cons_self)) (ah R k).ak.length
   rw[List.take_length] at this;exact this
theorem J8 {m:Mb} {i n:Nat} (ok:dO m i n) {k:Nat} {r:Rw} (hr:dL r n):kH { m with rows:=m.rows.set k r }:=by
 refine⟨fun x hx=>?_,ok.fit.2⟩
 rcases List.mem_or_eq_of_mem_set hx with h|h
 ·exact ok.fit.1 x h
 ·rw[h];exact hr.fit
theorem Mw.sub {w X X5:World} {B o:Nat} {m:Mb} {fp:Fp} {g off c:Nat} (h:Mw w X B o m fp g off c) (hb:Below X.heap.size X X5):∃ gy,(∀ b,gy b→b<X.heap.size)∧B<X.heap.size∧(∀ b,gy b→fp b∨w.heap.size≤b)∧Mw X5 X5 B o m gy g off c∧∀ (Y:World) (m':Mb),Mw X5 Y B o m' gy g off c→Mw w Y B o m' fp g off c:=by
 obtain⟨dD,hp,hf1,hgo⟩:=h.bU.next;have hlt:=hp.flt;have hB:=hp.lt;refine⟨dD,hlt,hB,hf1,⟨bC.refl (hp.below hb),(hb.cell (World.block_lt_of_cell? _ _ h.rws)).trans h.rws⟩,fun Y m' hY=>⟨hgo Y _ rfl (hY.bU.first hb hB hlt),hY.rws⟩⟩
theorem Mw.bx {w X:World} {B o:Nat} {m:Mb} {fp:Fp} {g off c:Nat} (h:Mw w X B o m fp g off c) {b:Nat} {T:TypeId} {cs:Array Value} (hx:Bx w b T cs) (h1:¬ fp b) (h2:b≠B):Bx X b T cs:=hx.wrt h.bU.wrt (fun k=>k.elim h1 h2)
theorem Mw.Ob {w X:World} {B o:Nat} {m:Mb} {fp:Fp} {g off c:Nat} (h:Mw w X B o m fp g off c) {cl:aI} {u:Value} {f:Fp} (hx:aI.ow w cl u f) (h1:∀ b,f b→¬ fp b∧b≠B):aI.ow X cl u f:=aI.lU hx h.bU.wrt (fun b hb k=>k.elim (h1 b hb).1 (h1 b hb).2)
structure Mk (w X:World) (B o:Nat) (m:Mb) (fp:Fp):Prop where
 bU:bC w X B o (gW m) fp
 rws:X.cell? ⟨B,o+2,none⟩=w.cell? ⟨B,o+2,none⟩
theorem Mw.mk' {w X:World} {B o:Nat} {m:Mb} {fp:Fp} {g off c n:Nat} (h:Mw w X B o m fp g off c) (hc:w.cell? ⟨B,o+2,none⟩=some (.slice (some ⟨g,off,none⟩) n c)) (hl:m.rows.length=n):Mk w X B o m fp:=⟨h.bU,by rw[h.rws,hc,hl]⟩
theorem jD {m:Mb} {i:Nat} (r:Rw):({ m with rows:=m.rows.set i r }:Mb).rows.length=m.rows.length:=by simp
end Go.Proofs.YtafimeakbdmkjaaGreat