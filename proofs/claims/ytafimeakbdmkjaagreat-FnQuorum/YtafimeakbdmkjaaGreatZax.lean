/-
  Texts in one.
-/
import Derived.Test.YtafimeakbdmkjaaGreatZaa
import Derived.Test.YtafimeakbdmkjaaGreatZat
import Derived.Test.YtafimeakbdmkjaaGreatZar
import Derived.Test.YtafimeakbdmkjaaGreatZaw
import Derived.Test.YtafimeakbdmkjaaGreatZas
import Derived.Test.YtafimeakbdmkjaaGreatZaq
import Derived.Test.YtafimeakbdmkjaaGreatZap
import Derived.Test.YtafimeakbdmkjaaGreatZam
import Derived.Test.YtafimeakbdmkjaaGreatZaf
import Derived.Test.YtafimeakbdmkjaaGreatZal
namespace Go.Proofs.YtafimeakbdmkjaaGreat
set_option linter.unusedVariables false
set_option linter.unusedSimpArgs false
open Go.RowKit Go.Sort
set_option maxRecDepth 100000
set_option maxHeartbeats 12800000
section
theorem XQ (v:Value) (w:World):(Instr.typeAssert (.iface 153 v) 77 153 true).run Tryz.prog w=.ok (.tuple #[v,.bool true]) w:=by kernel_rfl
theorem XR (v:Value) (w:World):(Instr.typeAssert (.iface 155 v) 77 153 true).run Tryz.prog w=.ok (.tuple #[.agg #[.int .i64 0,.string .empty],.bool false]) w:=by kernel_rfl
theorem XT (v:Value) (w:World):(Instr.typeAssert (.iface 155 v) 77 155 true).run Tryz.prog w=.ok (.tuple #[v,.bool true]) w:=by kernel_rfl
theorem XU (v:Value) (w:World):(Instr.typeAssert (.iface 156 v) 77 153 true).run Tryz.prog w=.ok (.tuple #[.agg #[.int .i64 0,.string .empty],.bool false]) w:=by kernel_rfl
theorem XV (v:Value) (w:World):(Instr.typeAssert (.iface 156 v) 77 155 true).run Tryz.prog w=.ok (.tuple #[.agg #[.int .i64 0,.int .i64 0],.bool false]) w:=by kernel_rfl
theorem XW (v:Value) (w:World):(Instr.typeAssert (.iface 156 v) 77 156 true).run Tryz.prog w=.ok (.tuple #[v,.bool true]) w:=by kernel_rfl
theorem XY (v:Value) (w:World):(Instr.typeAssert (.iface 158 v) 77 153 true).run Tryz.prog w=.ok (.tuple #[.agg #[.int .i64 0,.string .empty],.bool false]) w:=by kernel_rfl
theorem XZ (v:Value) (w:World):(Instr.typeAssert (.iface 158 v) 77 155 true).run Tryz.prog w=.ok (.tuple #[.agg #[.int .i64 0,.int .i64 0],.bool false]) w:=by kernel_rfl
theorem Ya (v:Value) (w:World):(Instr.typeAssert (.iface 158 v) 77 156 true).run Tryz.prog w=.ok (.tuple #[.agg #[.int .i64 0,.int .i64 0],.bool false]) w:=by kernel_rfl
theorem Yc (v:Value) (w:World):(Instr.typeAssert (.iface 158 v) 77 158 true).run Tryz.prog w=.ok (.tuple #[v,.bool true]) w:=by kernel_rfl
theorem Yd (v:Value) (w:World):(Instr.typeAssert (.iface 159 v) 77 153 true).run Tryz.prog w=.ok (.tuple #[.agg #[.int .i64 0,.string .empty],.bool false]) w:=by kernel_rfl
theorem Ye (v:Value) (w:World):(Instr.typeAssert (.iface 159 v) 77 155 true).run Tryz.prog w=.ok (.tuple #[.agg #[.int .i64 0,.int .i64 0],.bool false]) w:=by kernel_rfl
theorem Yf (v:Value) (w:World):(Instr.typeAssert (.iface 159 v) 77 156 true).run Tryz.prog w=.ok (.tuple #[.agg #[.int .i64 0,.int .i64 0],.bool false]) w:=by kernel_rfl
theorem Yg (v:Value) (w:World):(Instr.typeAssert (.iface 159 v) 77 158 true).run Tryz.prog w=.ok (.tuple #[.agg #[.int .i64 0],.bool false]) w:=by kernel_rfl
theorem Yh (v:Value) (w:World):(Instr.typeAssert (.iface 159 v) 77 159 true).run Tryz.prog w=.ok (.tuple #[v,.bool true]) w:=by kernel_rfl
theorem Yi (v:Value) (w:World):(Instr.typeAssert (.iface 160 v) 77 153 true).run Tryz.prog w=.ok (.tuple #[.agg #[.int .i64 0,.string .empty],.bool false]) w:=by kernel_rfl
theorem Yj (v:Value) (w:World):(Instr.typeAssert (.iface 160 v) 77 155 true).run Tryz.prog w=.ok (.tuple #[.agg #[.int .i64 0,.int .i64 0],.bool false]) w:=by kernel_rfl
theorem Yk (v:Value) (w:World):(Instr.typeAssert (.iface 160 v) 77 156 true).run Tryz.prog w=.ok (.tuple #[.agg #[.int .i64 0,.int .i64 0],.bool false]) w:=by kernel_rfl
theorem Yl (v:Value) (w:World):(Instr.typeAssert (.iface 160 v) 77 158 true).run Tryz.prog w=.ok (.tuple #[.agg #[.int .i64 0],.bool false]) w:=by kernel_rfl
theorem Ym (v:Value) (w:World):(Instr.typeAssert (.iface 160 v) 77 159 true).run Tryz.prog w=.ok (.tuple #[.agg #[.int .i64 0,.int .i64 0],.bool false]) w:=by kernel_rfl
theorem Yn (v:Value) (w:World):(Instr.typeAssert (.iface 160 v) 77 160 true).run Tryz.prog w=.ok (.tuple #[v,.bool true]) w:=by kernel_rfl
theorem Yo (v:Value) (w:World):(Instr.typeAssert (.iface 161 v) 77 153 true).run Tryz.prog w=.ok (.tuple #[.agg #[.int .i64 0,.string .empty],.bool false]) w:=by kernel_rfl
theorem Yp (v:Value) (w:World):(Instr.typeAssert (.iface 161 v) 77 155 true).run Tryz.prog w=.ok (.tuple #[.agg #[.int .i64 0,.int .i64 0],.bool false]) w:=by kernel_rfl
theorem Yq (v:Value) (w:World):(Instr.typeAssert (.iface 161 v) 77 156 true).run Tryz.prog w=.ok (.tuple #[.agg #[.int .i64 0,.int .i64 0],.bool false]) w:=by kernel_rfl
theorem Yr (v:Value) (w:World):(Instr.typeAssert (.iface 161 v) 77 158 true).run Tryz.prog w=.ok (.tuple #[.agg #[.int .i64 0],.bool false]) w:=by kernel_rfl
theorem Yt (v:Value) (w:World):(Instr.typeAssert (.iface 161 v) 77 159 true).run Tryz.prog w=.ok (.tuple #[.agg #[.int .i64 0,.int .i64 0],.bool false]) w:=by kernel_rfl
theorem Yu (v:Value) (w:World):(Instr.typeAssert (.iface 161 v) 77 160 true).run Tryz.prog w=.ok (.tuple #[.agg #[.int .i64 0],.bool false]) w:=by kernel_rfl
theorem Yv (v:Value) (w:World):(Instr.typeAssert (.iface 161 v) 77 161 true).run Tryz.prog w=.ok (.tuple #[v,.bool true]) w:=by kernel_rfl
attribute [local irreducible] sv
theorem ai2 (B:Nat) (g:Gr) (n a:Nat) (t:List UInt8) (fp:Fp) (w:World) (h:dN w B 0 (dB g) fp) (ok:OkG g n) (ha:a<n) (ht:t.length≤1048576) :
  Calls Tryz.prog 83 #[.pointer (some ⟨B,0,none⟩),.iface 153 (.agg #[.int .i64 (a:Int),.string (sv t)])] w fun e w'=>e=.returned (.bool (bW (aN g a) t).2)∧bC w w' B 0 (dB { g with mem:=g.mem.set a (bW (aN g a) t).1 }) fp:=by
 have bH:=dH;have hal:a<g.mem.length:=by rw[ok.ml];exact ha
 obtain⟨bb,off,c,G0⟩:=Gw.start h (by omega)
 have hba:=aF w (.cells #[.int .i64 (a:Int),.string (sv t)] 153);have hxm:=Bx.new w 153 #[.int .i64 (a:Int),.string (sv t)];have G1:=G0.step hba;obtain⟨A,hc5,hf5,hmp⟩:=G1.LW ok hal
 have hbw:bb<w.heap.size:=by
  obtain⟨_,⟨p0,_⟩,_⟩:=G0.LW ok hal;exact World.block_lt_of_cell? _ _ p0
 have kU:=aj G1;have HX:=aj hxm;have LX:=aj hmp;have kQ:=aj hc5;have nO:=aj hf5;have om:=ok.mem a ha;have yD:fO (aN g a)=true:=je.2 ⟨a,n,om⟩;have b0:(0:Int)≤(a:Int):=by omega
 have b1:(a:Int)<(g.mem.length:Int):=by omega
 clear h ok G0 G1 hba hxm hmp om hc5 hf5;have q1:=XQ (.agg #[.int .i64 (a:Int),.string (sv t)]);go_enter Tryz.func83,Tryz.ntmps83
 go_upto_region 5 with fail
 generalize (w.alloc (.cells #[.int .i64 (a:Int),.string (sv t)] 153))=W1 at *;have hbd:=(Same.drewN W1 1).below;have sF:=ae6 A (aN g a) t W1.drew (LX.out.below hbd) ht;have HH:Gj (aN g a) t=(bW (aN g a) t):=by rw[Gj,if_pos yD]
 rw[HH] at sF;clear HH yD ht;generalize hq2:(bW (aN g a) t).2=hf2 at *;generalize hq1:(bW (aN g a) t).1=m2 at *;have HE2:=aj hq2;have IB:=aj hq1;clear hq1 hq2;generalize hmm:aN g a=m at *;have KS:∀ Z,Below W1.heap.size W1 Z→Z.cell? ⟨B,0,none⟩=some (.slice (some ⟨bb,off,none⟩) g.mem.length c)∧Z.cell? ⟨w.heap.size,0,none⟩=some (.int .i64 (a:Int))∧Z.cell? ⟨w.heap.size,1,none⟩=some (.string (sv t)):=fun Z hZ=>⟨(kU.out.step hZ).mem,(HX.out.below hZ).at 0 rfl,(HX.out.below hZ).at 1 rfl⟩
 unfold eG dZ at sF;clear q1;refine jE (S:=fun Z:World=>Z.cell? ⟨B,0,none⟩=some (.slice (some ⟨bb,off,none⟩) g.mem.length c)∧Z.cell? ⟨w.heap.size,0,none⟩=some (.int .i64 (a:Int))∧Z.cell? ⟨w.heap.size,1,none⟩=some (.string (sv t))) 25 bH ((KS _ hbd)) fun hHeld=>?_
 refine aS (i:=0) rfl ?_;refine aS (i:=1) rfl ?_;refine aS (i:=2) rfl ?_;refine kJ (i:=3) rfl hHeld ?_;refine aS (i:=4) rfl ?_;refine aS (i:=5) rfl ?_;refine kJ (i:=6) rfl hHeld ?_;refine aS (i:=7) rfl ?_;refine aS (i:=8) rfl ?_;refine aS (i:=9) rfl ?_;refine kJ (i:=10) rfl hHeld ?_;refine aS (i:=11) rfl ?_;refine aS (i:=12) rfl ?_;refine kJ (i:=13) rfl hHeld ?_;refine aS (i:=14) rfl ?_;refine aS (i:=16) rfl ?_;refine kJ (i:=17) rfl hHeld ?_;obtain⟨k0,k1,k2,k3,k4⟩:=kQ.out;refine dI (i:=15) rfl fun K hK=>?_
 go_simp;refine hK.out _ _ (KS _ hbd) (fun aK=>?_)
 clear hK hHeld;have hHeld:=aK;try simp only[dw]
 clear k0 k1 k2 k3 k4;refine dI (i:=18) rfl fun K hK=>?_
 go_simp
 go_at_call 124
 refine sF.mono ?_;rintro e w1 ⟨A2,rfl,fr,hr1,hr2,hr3⟩;have hb1:=hbd.trans (hr3.mono hbd.size);have xW:=kU.out.FI hal hb1 hr1 (fun b h=>Nat.le_trans hbd.size (hr2 b h))
 have FK:=aj xW;have xO:Bx (((((w1.setCell ⟨bb,off+a*5,none⟩ (.int .i64 m2.id)).setCell ⟨bb,off+a*5+1,none⟩ (.int .i64 m2.n)).setCell ⟨bb,off+a*5+2,none⟩ (.slice A2.ra m2.rows.length A2.rc)).setCell ⟨bb,off+a*5+3,none⟩ (.slice A2.sa m2.au.length A2.sc)).setCell ⟨bb,off+a*5+4,none⟩ (.bool m2.done)) w.heap.size 153 #[.int .i64 (a:Int),.string (sv t)]:=(((((HX.out.below hb1).far (g:=bb) (by omega) _).far (g:=bb) (by omega) _).far (g:=bb) (by omega) _).far (g:=bb) (by omega) _).far (g:=bb) (by omega) _
 have zW:=xW.mem;rw[show ({ g with mem:=g.mem.set a m2 }:Gr).mem.length=g.mem.length from List.length_set] at zW
 have UO:Hid ((fun Z:World=>Z.cell? ⟨B,0,none⟩=some (.slice (some ⟨bb,off,none⟩) g.mem.length c)∧Z.cell? ⟨w.heap.size,0,none⟩=some (.int .i64 (a:Int))∧Z.cell? ⟨w.heap.size,1,none⟩=some (.string (sv t))) (((((w1.setCell ⟨bb,off+a*5,none⟩ (.int .i64 m2.id)).setCell ⟨bb,off+a*5+1,none⟩ (.int .i64 m2.n)).setCell ⟨bb,off+a*5+2,none⟩ (.slice A2.ra m2.rows.length A2.rc)).setCell ⟨bb,off+a*5+3,none⟩ (.slice A2.sa m2.au.length A2.sc)).setCell ⟨bb,off+a*5+4,none⟩ (.bool m2.done))):=⟨zW,xO.at 0 rfl,xO.at 1 rfl⟩
 obtain⟨k0,k1,k2,k3,k4⟩:=kQ.out;have t:∀ {x v},W1.cell? x=some v→w1.cell? x=some v:=fun h=>(hb1.cell (World.block_lt_of_cell? _ _ h)).trans h
 replace k0:=t k0;replace k1:=t k1;replace k2:=t k2;replace k3:=t k3;replace k4:=t k4;obtain⟨z0,z1,z2,z3,z4⟩:=nO.out
 have tz:∀ {x v},W1.cell? x=some v→W1.frozen? x=false→w1.frozen? x=false:=fun {x v} h hz=>by
  have e:=hb1.block x.block (World.block_lt_of_cell? _ _ h);simpa only[World.frozen?,e] using hz
 replace z0:=tz kQ.out.1 z0;replace z1:=tz kQ.out.2.1 z1;replace z2:=tz kQ.out.2.2.1 z2;replace z3:=tz kQ.out.2.2.2.1 z3;replace z4:=tz kQ.out.2.2.2.2 z4;unfold eG dZ;refine hK.out _ _ (KS _ hb1) (fun aK=>?_)
 clear hK hHeld;have hHeld:=aK;try simp only[dw]
 refine aS (i:=19) rfl ?_;refine aS (i:=20) rfl ?_;refine aS (i:=21) rfl ?_;refine aS (i:=22) rfl ?_;refine dI (i:=23) rfl fun K hK=>?_
 go_simp;refine hK.out _ _ UO.out (fun aK=>?_)
 clear hK hHeld;have hHeld:=aK;try simp only[dw]
 clear k0 k1 k2 k3 k4 z0 z1 z2 z3 z4 t tz hr1 hr2 hr3 hb1 hbd KS sF xW xO zW;generalize (((((w1.setCell ⟨bb,off+a*5,none⟩ (.int .i64 m2.id)).setCell ⟨bb,off+a*5+1,none⟩ (.int .i64 m2.n)).setCell ⟨bb,off+a*5+2,none⟩ (.slice A2.ra m2.rows.length A2.rc)).setCell ⟨bb,off+a*5+3,none⟩ (.slice A2.sa m2.au.length A2.sc)).setCell ⟨bb,off+a*5+4,none⟩ (.bool m2.done))=W9 at *;refine aS (i:=24) rfl ?_;refine pX (by kernel_rfl) ?_
 clear hHeld;go_wp2
 first|go_end0|go_ret
 exact⟨by rw[HE2.out];rfl,by rw[IB.out];exact FK.out.bU⟩
theorem ai3 (B:Nat) (g:Gr) (n a:Nat) (fp:Fp) (w:World) (h:dN w B 0 (dB g) fp) (ok:OkG g n) (ha:a<n) (hv:(aN g a).own.ver<1000000) :
  Calls Tryz.prog 83 #[.pointer (some ⟨B,0,none⟩),.iface 158 (.agg #[.int .i64 (a:Int)])] w fun e w'=>e=.returned (.bool true)∧bC w w' B 0 (dB { g with mem:=g.mem.set a (bJ (aN g a)) }) fp:=by
 have bH:=dH;have hal:a<g.mem.length:=by rw[ok.ml];exact ha
 obtain⟨bb,off,c,G0⟩:=Gw.start h (by omega)
 have hba:=aF w (.cells #[.int .i64 (a:Int)] 158);have hxm:=Bx.new w 158 #[.int .i64 (a:Int)];have G1:=G0.step hba;obtain⟨A,hc5,hf5,hmp⟩:=G1.LW ok hal
 have hbw:bb<w.heap.size:=by
  obtain⟨_,⟨p0,_⟩,_⟩:=G0.LW ok hal;exact World.block_lt_of_cell? _ _ p0
 have kU:=aj G1;have HX:=aj hxm;have LX:=aj hmp;have kQ:=aj hc5;have nO:=aj hf5;have om:=ok.mem a ha;have yD:fO (aN g a)=true:=je.2 ⟨a,n,om⟩;have b0:(0:Int)≤(a:Int):=by omega
 have b1:(a:Int)<(g.mem.length:Int):=by omega
 clear h ok G0 G1 hba hxm hmp om hc5 hf5;have q1:=XY (.agg #[.int .i64 (a:Int)]);have q2:=XZ (.agg #[.int .i64 (a:Int)]);have q3:=Ya (.agg #[.int .i64 (a:Int)]);have q4:=Yc (.agg #[.int .i64 (a:Int)]);go_enter Tryz.func83,Tryz.ntmps83
 go_upto_region 14 with fail
 generalize (w.alloc (.cells #[.int .i64 (a:Int)] 158))=W1 at *;have hbd:=(Same.drewN W1 1).below;have sF:=UL A (aN g a) W1.drew (LX.out.below hbd) (fun _=>hv)
 have HH:Lh (aN g a)=(bJ (aN g a)):=by rw[Lh,if_pos yD]
 rw[HH] at sF;clear HH yD hv;generalize hq1:(bJ (aN g a))=m2 at *;have IB:=aj hq1;clear hq1;generalize hmm:aN g a=m at *;have KS:∀ Z,Below W1.heap.size W1 Z→Z.cell? ⟨B,0,none⟩=some (.slice (some ⟨bb,off,none⟩) g.mem.length c)∧Z.cell? ⟨w.heap.size,0,none⟩=some (.int .i64 (a:Int)):=fun Z hZ=>⟨(kU.out.step hZ).mem,(HX.out.below hZ).at 0 rfl⟩
 unfold eG dZ at sF;clear q1 q2 q3 q4;refine jE (S:=fun Z:World=>Z.cell? ⟨B,0,none⟩=some (.slice (some ⟨bb,off,none⟩) g.mem.length c)∧Z.cell? ⟨w.heap.size,0,none⟩=some (.int .i64 (a:Int))) 19 bH ((KS _ hbd)) fun hHeld=>?_
 refine aS (i:=0) rfl ?_;refine aS (i:=1) rfl ?_;refine aS (i:=2) rfl ?_;refine kJ (i:=3) rfl hHeld ?_;refine aS (i:=4) rfl ?_;refine aS (i:=5) rfl ?_;refine kJ (i:=6) rfl hHeld ?_;refine aS (i:=7) rfl ?_;refine aS (i:=8) rfl ?_;refine aS (i:=9) rfl ?_;refine kJ (i:=10) rfl hHeld ?_;refine aS (i:=11) rfl ?_;refine aS (i:=12) rfl ?_;refine kJ (i:=13) rfl hHeld ?_;refine aS (i:=14) rfl ?_;obtain⟨k0,k1,k2,k3,k4⟩:=kQ.out;refine dI (i:=15) rfl fun K hK=>?_
 go_simp;refine hK.out _ _ (KS _ hbd) (fun aK=>?_)
 clear hK hHeld;have hHeld:=aK;try simp only[dw]
 clear k0 k1 k2 k3 k4;refine dI (i:=16) rfl fun K hK=>?_
 go_simp
 go_at_call 70
 refine sF.mono ?_;rintro e w1 ⟨A2,rfl,fr,hr1,hr2,hr3⟩;have hb1:=hbd.trans (hr3.mono hbd.size);have xW:=kU.out.FI hal hb1 hr1 (fun b h=>Nat.le_trans hbd.size (hr2 b h))
 have FK:=aj xW;have xO:Bx (((((w1.setCell ⟨bb,off+a*5,none⟩ (.int .i64 m2.id)).setCell ⟨bb,off+a*5+1,none⟩ (.int .i64 m2.n)).setCell ⟨bb,off+a*5+2,none⟩ (.slice A2.ra m2.rows.length A2.rc)).setCell ⟨bb,off+a*5+3,none⟩ (.slice A2.sa m2.au.length A2.sc)).setCell ⟨bb,off+a*5+4,none⟩ (.bool m2.done)) w.heap.size 158 #[.int .i64 (a:Int)]:=(((((HX.out.below hb1).far (g:=bb) (by omega) _).far (g:=bb) (by omega) _).far (g:=bb) (by omega) _).far (g:=bb) (by omega) _).far (g:=bb) (by omega) _
 have zW:=xW.mem;rw[show ({ g with mem:=g.mem.set a m2 }:Gr).mem.length=g.mem.length from List.length_set] at zW
 have UO:Hid ((fun Z:World=>Z.cell? ⟨B,0,none⟩=some (.slice (some ⟨bb,off,none⟩) g.mem.length c)∧Z.cell? ⟨w.heap.size,0,none⟩=some (.int .i64 (a:Int))) (((((w1.setCell ⟨bb,off+a*5,none⟩ (.int .i64 m2.id)).setCell ⟨bb,off+a*5+1,none⟩ (.int .i64 m2.n)).setCell ⟨bb,off+a*5+2,none⟩ (.slice A2.ra m2.rows.length A2.rc)).setCell ⟨bb,off+a*5+3,none⟩ (.slice A2.sa m2.au.length A2.sc)).setCell ⟨bb,off+a*5+4,none⟩ (.bool m2.done))):=⟨zW,xO.at 0 rfl⟩
 obtain⟨k0,k1,k2,k3,k4⟩:=kQ.out;have t:∀ {x v},W1.cell? x=some v→w1.cell? x=some v:=fun h=>(hb1.cell (World.block_lt_of_cell? _ _ h)).trans h
 replace k0:=t k0;replace k1:=t k1;replace k2:=t k2;replace k3:=t k3;replace k4:=t k4;obtain⟨z0,z1,z2,z3,z4⟩:=nO.out
 have tz:∀ {x v},W1.cell? x=some v→W1.frozen? x=false→w1.frozen? x=false:=fun {x v} h hz=>by
  have e:=hb1.block x.block (World.block_lt_of_cell? _ _ h);simpa only[World.frozen?,e] using hz
 replace z0:=tz kQ.out.1 z0;replace z1:=tz kQ.out.2.1 z1;replace z2:=tz kQ.out.2.2.1 z2;replace z3:=tz kQ.out.2.2.2.1 z3;replace z4:=tz kQ.out.2.2.2.2 z4;unfold eG dZ;refine hK.out _ _ (KS _ hb1) (fun aK=>?_)
 clear hK hHeld;have hHeld:=aK;try simp only[dw]
 refine aS (i:=17) rfl ?_;refine dI (i:=18) rfl fun K hK=>?_
 go_simp;refine hK.out _ _ UO.out (fun aK=>?_)
 clear hK hHeld;have hHeld:=aK;try simp only[dw]
 clear k0 k1 k2 k3 k4 z0 z1 z2 z3 z4 t tz hr1 hr2 hr3 hb1 hbd KS sF xW xO zW;generalize (((((w1.setCell ⟨bb,off+a*5,none⟩ (.int .i64 m2.id)).setCell ⟨bb,off+a*5+1,none⟩ (.int .i64 m2.n)).setCell ⟨bb,off+a*5+2,none⟩ (.slice A2.ra m2.rows.length A2.rc)).setCell ⟨bb,off+a*5+3,none⟩ (.slice A2.sa m2.au.length A2.sc)).setCell ⟨bb,off+a*5+4,none⟩ (.bool m2.done))=W9 at *;refine pX (by kernel_rfl) ?_
 clear hHeld;go_wp2
 first|go_end0|go_ret
 exact⟨rfl,by rw[IB.out];exact FK.out.bU⟩
theorem ai4 (B:Nat) (g:Gr) (n a:Nat) (b:Int) (fp:Fp) (w:World) (h:dN w B 0 (dB g) fp) (ok:OkG g n) (ha:a<n) (hb:eH b) :
  Calls Tryz.prog 83 #[.pointer (some ⟨B,0,none⟩),.iface 159 (.agg #[.int .i64 (a:Int),.int .i64 b])] w fun e w'=>e=.returned (.bool (aW (aN g a) b).2)∧bC w w' B 0 (dB { g with mem:=g.mem.set a (aW (aN g a) b).1 }) fp:=by
 have bH:=dH;have hal:a<g.mem.length:=by rw[ok.ml];exact ha
 obtain⟨bb,off,c,G0⟩:=Gw.start h (by omega)
 have hba:=aF w (.cells #[.int .i64 (a:Int),.int .i64 b] 159);have hxm:=Bx.new w 159 #[.int .i64 (a:Int),.int .i64 b];have G1:=G0.step hba;obtain⟨A,hc5,hf5,hmp⟩:=G1.LW ok hal
 have hbw:bb<w.heap.size:=by
  obtain⟨_,⟨p0,_⟩,_⟩:=G0.LW ok hal;exact World.block_lt_of_cell? _ _ p0
 have kU:=aj G1;have HX:=aj hxm;have LX:=aj hmp;have kQ:=aj hc5;have nO:=aj hf5;have om:=ok.mem a ha;have yD:fO (aN g a)=true:=je.2 ⟨a,n,om⟩;have b0:(0:Int)≤(a:Int):=by omega
 have b1:(a:Int)<(g.mem.length:Int):=by omega
 clear h ok G0 G1 hba hxm hmp om hc5 hf5;have q1:=Yd (.agg #[.int .i64 (a:Int),.int .i64 b]);have q2:=Ye (.agg #[.int .i64 (a:Int),.int .i64 b]);have q3:=Yf (.agg #[.int .i64 (a:Int),.int .i64 b]);have q4:=Yg (.agg #[.int .i64 (a:Int),.int .i64 b]);have q5:=Yh (.agg #[.int .i64 (a:Int),.int .i64 b]);go_enter Tryz.func83,Tryz.ntmps83
 go_upto_region 17 with fail
 generalize (w.alloc (.cells #[.int .i64 (a:Int),.int .i64 b] 159))=W1 at *;have hbd:=(Same.drewN W1 1).below;have sF:=UN A (aN g a) b W1.drew (LX.out.below hbd) hb;have HH:Gl (aN g a) b=(aW (aN g a) b):=by rw[Gl,if_pos yD]
 rw[HH] at sF;clear HH yD hb;generalize hq2:(aW (aN g a) b).2=hf2 at *;generalize hq1:(aW (aN g a) b).1=m2 at *;have HE2:=aj hq2;have IB:=aj hq1;clear hq1 hq2;generalize hmm:aN g a=m at *;have KS:∀ Z,Below W1.heap.size W1 Z→Z.cell? ⟨B,0,none⟩=some (.slice (some ⟨bb,off,none⟩) g.mem.length c)∧Z.cell? ⟨w.heap.size,0,none⟩=some (.int .i64 (a:Int))∧Z.cell? ⟨w.heap.size,1,none⟩=some (.int .i64 b):=fun Z hZ=>⟨(kU.out.step hZ).mem,(HX.out.below hZ).at 0 rfl,(HX.out.below hZ).at 1 rfl⟩
 unfold eG dZ at sF;clear q1 q2 q3 q4 q5;refine jE (S:=fun Z:World=>Z.cell? ⟨B,0,none⟩=some (.slice (some ⟨bb,off,none⟩) g.mem.length c)∧Z.cell? ⟨w.heap.size,0,none⟩=some (.int .i64 (a:Int))∧Z.cell? ⟨w.heap.size,1,none⟩=some (.int .i64 b)) 26 bH ((KS _ hbd)) fun hHeld=>?_
 refine aS (i:=0) rfl ?_;refine aS (i:=1) rfl ?_;refine aS (i:=2) rfl ?_;refine kJ (i:=3) rfl hHeld ?_;refine aS (i:=4) rfl ?_;refine aS (i:=5) rfl ?_;refine kJ (i:=6) rfl hHeld ?_;refine aS (i:=7) rfl ?_;refine aS (i:=8) rfl ?_;refine aS (i:=9) rfl ?_;refine kJ (i:=10) rfl hHeld ?_;refine aS (i:=11) rfl ?_;refine aS (i:=12) rfl ?_;refine kJ (i:=13) rfl hHeld ?_;refine aS (i:=14) rfl ?_;refine aS (i:=16) rfl ?_;refine aS (i:=17) rfl ?_;refine kJ (i:=18) rfl hHeld ?_;obtain⟨k0,k1,k2,k3,k4⟩:=kQ.out;refine dI (i:=15) rfl fun K hK=>?_
 go_simp;refine hK.out _ _ (KS _ hbd) (fun aK=>?_)
 clear hK hHeld;have hHeld:=aK;try simp only[dw]
 clear k0 k1 k2 k3 k4;refine dI (i:=19) rfl fun K hK=>?_
 go_simp
 go_at_call 126
 refine sF.mono ?_;rintro e w1 ⟨A2,rfl,fr,hr1,hr2,hr3⟩;have hb1:=hbd.trans (hr3.mono hbd.size);have xW:=kU.out.FI hal hb1 hr1 (fun b h=>Nat.le_trans hbd.size (hr2 b h))
 have FK:=aj xW;have xO:Bx (((((w1.setCell ⟨bb,off+a*5,none⟩ (.int .i64 m2.id)).setCell ⟨bb,off+a*5+1,none⟩ (.int .i64 m2.n)).setCell ⟨bb,off+a*5+2,none⟩ (.slice A2.ra m2.rows.length A2.rc)).setCell ⟨bb,off+a*5+3,none⟩ (.slice A2.sa m2.au.length A2.sc)).setCell ⟨bb,off+a*5+4,none⟩ (.bool m2.done)) w.heap.size 159 #[.int .i64 (a:Int),.int .i64 b]:=(((((HX.out.below hb1).far (g:=bb) (by omega) _).far (g:=bb) (by omega) _).far (g:=bb) (by omega) _).far (g:=bb) (by omega) _).far (g:=bb) (by omega) _
 have zW:=xW.mem;rw[show ({ g with mem:=g.mem.set a m2 }:Gr).mem.length=g.mem.length from List.length_set] at zW
 have UO:Hid ((fun Z:World=>Z.cell? ⟨B,0,none⟩=some (.slice (some ⟨bb,off,none⟩) g.mem.length c)∧Z.cell? ⟨w.heap.size,0,none⟩=some (.int .i64 (a:Int))∧Z.cell? ⟨w.heap.size,1,none⟩=some (.int .i64 b)) (((((w1.setCell ⟨bb,off+a*5,none⟩ (.int .i64 m2.id)).setCell ⟨bb,off+a*5+1,none⟩ (.int .i64 m2.n)).setCell ⟨bb,off+a*5+2,none⟩ (.slice A2.ra m2.rows.length A2.rc)).setCell ⟨bb,off+a*5+3,none⟩ (.slice A2.sa m2.au.length A2.sc)).setCell ⟨bb,off+a*5+4,none⟩ (.bool m2.done))):=⟨zW,xO.at 0 rfl,xO.at 1 rfl⟩
 obtain⟨k0,k1,k2,k3,k4⟩:=kQ.out;have t:∀ {x v},W1.cell? x=some v→w1.cell? x=some v:=fun h=>(hb1.cell (World.block_lt_of_cell? _ _ h)).trans h
 replace k0:=t k0;replace k1:=t k1;replace k2:=t k2;replace k3:=t k3;replace k4:=t k4;obtain⟨z0,z1,z2,z3,z4⟩:=nO.out
 have tz:∀ {x v},W1.cell? x=some v→W1.frozen? x=false→w1.frozen? x=false:=fun {x v} h hz=>by
  have e:=hb1.block x.block (World.block_lt_of_cell? _ _ h);simpa only[World.frozen?,e] using hz
 replace z0:=tz kQ.out.1 z0;replace z1:=tz kQ.out.2.1 z1;replace z2:=tz kQ.out.2.2.1 z2;replace z3:=tz kQ.out.2.2.2.1 z3;replace z4:=tz kQ.out.2.2.2.2 z4;unfold eG dZ;refine hK.out _ _ (KS _ hb1) (fun aK=>?_)
 clear hK hHeld;have hHeld:=aK;try simp only[dw]
 refine aS (i:=20) rfl ?_;refine aS (i:=21) rfl ?_;refine aS (i:=22) rfl ?_;refine aS (i:=23) rfl ?_;refine dI (i:=24) rfl fun K hK=>?_
 go_simp;refine hK.out _ _ UO.out (fun aK=>?_)
 clear hK hHeld;have hHeld:=aK;try simp only[dw]
 clear k0 k1 k2 k3 k4 z0 z1 z2 z3 z4 t tz hr1 hr2 hr3 hb1 hbd KS sF xW xO zW;generalize (((((w1.setCell ⟨bb,off+a*5,none⟩ (.int .i64 m2.id)).setCell ⟨bb,off+a*5+1,none⟩ (.int .i64 m2.n)).setCell ⟨bb,off+a*5+2,none⟩ (.slice A2.ra m2.rows.length A2.rc)).setCell ⟨bb,off+a*5+3,none⟩ (.slice A2.sa m2.au.length A2.sc)).setCell ⟨bb,off+a*5+4,none⟩ (.bool m2.done))=W9 at *;refine aS (i:=25) rfl ?_;refine pX (by kernel_rfl) ?_
 clear hHeld;go_wp2
 first|go_end0|go_ret
 exact⟨by rw[HE2.out];rfl,by rw[IB.out];exact FK.out.bU⟩
end
theorem ai5 (B:Nat) (g:Gr) (n a:Nat) (b:Nat) (fp:Fp) (w:World) (h:dN w B 0 (dB g) fp) (ok:OkG g n) (ha:a<n)  :
  Calls Tryz.prog 83 #[.pointer (some ⟨B,0,none⟩),.iface 155 (.agg #[.int .i64 (a:Int),.int .i64 (b:Int)])] w fun e w'=>e=.returned (.bool true)∧bC w w' B 0 (dB (fZ g (a:Int) (b:Int))) fp:=by
 obtain⟨bb,off,c,G0⟩:=Gw.start h (by rw[ok.ml];have:=ok.n5;omega)
 have hba:=aF w (.cells #[.int .i64 (a:Int),.int .i64 (b:Int)] 155);have hxm:=Bx.new w 155 #[.int .i64 (a:Int),.int .i64 (b:Int)];have G1:=G0.step hba;obtain⟨dD,hp,_,hgo⟩:=G1.bU.next;have hP:=OU B 0 g n a b dD _ hp ok ha;have DR:=aj hgo;have x0:=hxm.at 0 rfl;have x1:=hxm.at 1 rfl;clear h ok G0 G1 hba hxm hp hgo ;have q1:=XR (.agg #[.int .i64 (a:Int),.int .i64 (b:Int)]);have q2:=XT (.agg #[.int .i64 (a:Int),.int .i64 (b:Int)]);go_enter Tryz.func83,Tryz.ntmps83
 go_wp2_with fail
 refine hP.mono ?_;rintro e w1 ⟨rfl,hb1⟩;have HB1:Hid (bC w w1 B 0 (dB (fZ g (a:Int) (b:Int))) fp):=DR.out _ _ rfl hb1;clear hb1 hP x0 x1 DR;go_wp2;go_ret
 exact⟨rfl,HB1.out⟩
theorem ai6 (B:Nat) (g:Gr) (n a:Nat) (b:Nat) (x:Ac) (ea:x.a=(a:Int)) (eb:x.b=(b:Int)) (fp:Fp) (w:World) (h:dN w B 0 (dB g) fp) (ok:OkG g n) (ha:a<n) (hb:b<n) :
  Calls Tryz.prog 83 #[.pointer (some ⟨B,0,none⟩),.iface 156 (.agg #[.int .i64 x.a,.int .i64 x.b])] w fun e w'=>e=.returned (.bool (BZ g x).2)∧bC w w' B 0 (dB (BZ g x).1) fp:=by
 obtain⟨bb,off,c,G0⟩:=Gw.start h (by rw[ok.ml];have:=ok.n5;omega)
 have hba:=aF w (.cells #[.int .i64 x.a,.int .i64 x.b] 156);have hxm:=Bx.new w 156 #[.int .i64 x.a,.int .i64 x.b];have G1:=G0.step hba;obtain⟨dD,hp,_,hgo⟩:=G1.bU.next;have hP:=af5 B g n a b x ea eb dD _ hp ok ha hb;rw[← ea,← eb] at hP;have DR:=aj hgo;have x0:=hxm.at 0 rfl;have x1:=hxm.at 1 rfl;clear h ok G0 G1 hba hxm hp hgo ea eb hb;have q1:=XU (.agg #[.int .i64 x.a,.int .i64 x.b]);have q2:=XV (.agg #[.int .i64 x.a,.int .i64 x.b]);have q3:=XW (.agg #[.int .i64 x.a,.int .i64 x.b]);go_enter Tryz.func83,Tryz.ntmps83
 go_wp2_with fail
 refine hP.mono ?_;rintro e w1 ⟨rfl,hb1⟩;have HB1:Hid (bC w w1 B 0 (dB (BZ g x).1) fp):=DR.out _ _ rfl hb1;clear hb1 hP x0 x1 DR;go_wp2;go_ret
 exact⟨rfl,HB1.out⟩
theorem ai7 (B:Nat) (g:Gr) (n a:Nat) (fp:Fp) (w:World) (h:dN w B 0 (dB g) fp) (ok:OkG g n) (ha:a<n)  :
  Calls Tryz.prog 83 #[.pointer (some ⟨B,0,none⟩),.iface 161 (.agg #[.int .i64 (a:Int)])] w fun e w'=>e=.returned (.bool true)∧bC w w' B 0 (dB (rO g (a:Int))) fp:=by
 obtain⟨bb,off,c,G0⟩:=Gw.start h (by rw[ok.ml];have:=ok.n5;omega)
 have hba:=aF w (.cells #[.int .i64 (a:Int)] 161);have hxm:=Bx.new w 161 #[.int .i64 (a:Int)];have G1:=G0.step hba;obtain⟨dD,hp,_,hgo⟩:=G1.bU.next;have hP:=ae2 B 0 g n a dD _ hp ok ha;have DR:=aj hgo;have x0:=hxm.at 0 rfl;clear h ok G0 G1 hba hxm hp hgo ;have q1:=Yo (.agg #[.int .i64 (a:Int)]);have q2:=Yp (.agg #[.int .i64 (a:Int)]);have q3:=Yq (.agg #[.int .i64 (a:Int)]);have q4:=Yr (.agg #[.int .i64 (a:Int)]);have q5:=Yt (.agg #[.int .i64 (a:Int)]);have q6:=Yu (.agg #[.int .i64 (a:Int)]);have q7:=Yv (.agg #[.int .i64 (a:Int)]);go_enter Tryz.func83,Tryz.ntmps83
 go_wp2_with fail
 refine hP.mono ?_;rintro e w1 ⟨rfl,hb1⟩;have HB1:Hid (bC w w1 B 0 (dB (rO g (a:Int))) fp):=DR.out _ _ rfl hb1;clear hb1 hP x0  DR;go_wp2;go_ret
 exact⟨rfl,HB1.out⟩
theorem ai8 (B:Nat) (g:Gr) (n a:Nat) (fp:Fp) (w:World) (h:dN w B 0 (dB g) fp) (ok:OkG g n) (ha:a<n) :
  Calls Tryz.prog 83 #[.pointer (some ⟨B,0,none⟩),.iface 160 (.agg #[.int .i64 (a:Int)])] w fun e w'=>e=.returned (.bool true)∧bC w w' B 0 (dB { g with up:=g.up.set a false }) fp:=by
 have bH:=dH;have zQ:a<g.up.length:=by rw[ok.ul];exact ha
 obtain⟨bb,off,c,G0⟩:=Gw.start h (by rw[ok.ml];have:=ok.n5;omega)
 have hba:=aF w (.cells #[.int .i64 (a:Int)] 160);have hxm:=Bx.new w 160 #[.int .i64 (a:Int)];have hbd:Below (w.alloc (.cells #[.int .i64 (a:Int)] 160)).heap.size (w.alloc (.cells #[.int .i64 (a:Int)] 160)) (w.alloc (.cells #[.int .i64 (a:Int)] 160)).drew:=(Same.drewN _ 1).below;have G1:=(G0.step hba).step hbd;obtain⟨ub,uo,uc,u1,u2,u3,hput⟩:=G1.bit zQ;simp only[Nat.zero_add] at u1;have x0:=hxm.at 0 rfl;have x0':=(hbd.cell (World.block_lt_of_cell? _ _ x0)).trans x0;have HP:Hid (Gw w ((w.alloc (.cells #[.int .i64 (a:Int)] 160)).drew.setCell ⟨ub,uo+a,none⟩ (.bool false)) B 0 { g with up:=g.up.set a false } fp bb off c):=hput false
 have b0:(0:Int)≤(a:Int):=by omega
 have b1:(a:Int)<(g.up.length:Int):=by omega
 have HS:(fun Z:World=>Z.cell? ⟨B,1,none⟩=some (.slice (some ⟨ub,uo,none⟩) g.up.length uc)∧Z.cell? ⟨w.heap.size,0,none⟩=some (.int .i64 (a:Int))) (w.alloc (.cells #[.int .i64 (a:Int)] 160)).drew:=⟨u1,x0'⟩
 clear h ok G0 G1 hba hxm hbd hput u1 x0';have q1:=Yi (.agg #[.int .i64 (a:Int)]);have q2:=Yj (.agg #[.int .i64 (a:Int)]);have q3:=Yk (.agg #[.int .i64 (a:Int)]);have q4:=Yl (.agg #[.int .i64 (a:Int)]);have q5:=Ym (.agg #[.int .i64 (a:Int)]);have q6:=Yn (.agg #[.int .i64 (a:Int)]);go_enter Tryz.func83,Tryz.ntmps83
 go_upto_region 20 with fail
 clear q1 q2 q3 q4 q5 q6;generalize (w.alloc (.cells #[.int .i64 (a:Int)] 160))=W1 at *;refine jE (S:=fun Z:World=>Z.cell? ⟨B,1,none⟩=some (.slice (some ⟨ub,uo,none⟩) g.up.length uc)∧Z.cell? ⟨w.heap.size,0,none⟩=some (.int .i64 (a:Int))) 8 bH (HS) fun hHeld=>?_
 refine aS (i:=0) rfl ?_;refine aS (i:=1) rfl ?_;refine aS (i:=2) rfl ?_;refine aY (i:=3) rfl hHeld ?_;refine aS (i:=4) rfl ?_;refine aS (i:=5) rfl ?_;refine aY (i:=6) rfl hHeld ?_;refine aS (i:=7) rfl ?_;refine lQ rfl fun K hK=>?_
 go_simp;refine hK.out _ _ ?_;clear hHeld HS hK;go_wp2
 first|go_end0|go_ret
 exact⟨rfl,HP.out.bU⟩
section
theorem UQ {n m:Int} {xs:List Int} (h:jL n xs=true) (hm:n≤m):jL m xs=true:=by
 rw[jL,List.all_eq_true] at h ⊢;intro i hi;have:=h i hi;rw[Bool.and_eq_true,dP] at this ⊢;exact⟨by omega,this.2⟩
theorem ai9 {x:Ac} (h:x.kind≠2) (h':x.kind≠3) (h'':x.kind≠5):qh x=[x.a]:=by
 rw[qh,if_neg (by omega)]
theorem zh {x:Ac} (h:x.kind=2∨x.kind=3∨x.kind=5):qh x=[x.a,x.b]:=by rw[qh,if_pos h]
theorem xg (g:Gr) (x:Ac):jL (g.mem.length:Int) [x.a,x.b]=jw g x:=by rw[LH,jw]
theorem as7 {g:Gr} {x:Ac} (h:vG x=false∨oW g x=false):dQ g x=(g,false):=by
 by_cases h3:x.kind=3
 ·rw[KX h3]
  rcases h with h|h
  ·rw[vG,decide_eq_false_iff_not] at h
   omega
  ·rw[oW,zh (by omega),xg,decide_eq_true h3,Bool.true_or,Bool.and_true] at h
   rw[h]
   rfl
 ·by_cases hn:inB x.a 0 ((g.mem.length:Int)-1)=false∨nM g x.a.toNat=false
  ·exact KY h3 hn
  ·have h1:inB x.a 0 ((g.mem.length:Int)-1)=true:=by
    cases e:inB x.a 0 ((g.mem.length:Int)-1) with
    | true=>rfl
    | false=>exact absurd (.inl e) hn
   have h2:nM g x.a.toNat=true:=by
    cases e:nM g x.a.toNat with
    | true=>rfl
    | false=>exact absurd (.inr e) hn
   rw[uM h3 h1 h2];rcases h with h|h
   ·rw[vG,decide_eq_false_iff_not] at h
    rw[if_neg (by omega),if_neg (by omega),if_neg (by omega),if_neg (by omega),if_neg (by omega),if_neg (by omega)]
   ·by_cases h25:x.kind=2∨x.kind=3∨x.kind=5
    ·rw[oW,zh h25,xg,h2,Bool.or_true,Bool.and_true] at h
     rcases h25 with e|e|e
     ·rw[if_neg (by omega),if_pos e,if_neg (by rw[h];decide)]
     ·exact absurd e h3
     ·rw[if_neg (by omega),if_neg (by omega),if_neg (by omega),if_pos e,if_neg (by rw[h];decide)]
    ·rw[oW,ai9 (by omega) (by omega) (by omega),WO,h1,h2,Bool.or_true] at h
     cases h
theorem aj0 {g:Gr} {x:Ac} {n:Nat} (ok:OkG g n) (h:DT x=false):vG x=false∨oW g x=false:=by
 cases hk:vG x with
 | false=>exact .inl rfl
 | true =>
  refine .inr ?_;rw[DT,hk,Bool.true_and] at h;rw[oW]
  cases e:jL (g.mem.length:Int) (qh x) with
  | false=>rfl
  | true =>
   have:=UQ e (m:=5) (by have:=ok.ml;have:=ok.n5;omega)
   rw[h] at this
   cases this
def MI (p:Bool):Int:=if p=true then 0 else 1
def GH (g:Gr) (x:Ac):Prop:=x.kind=4→(aN g x.a.toNat).own.ver<1000000
theorem aj1 (B:Nat) (g:Gr) (n:Nat) (x:Ac) (fp:Fp) (w:World) (h:dN w B 0 (dB g) fp) (ok:OkG g n) (hk:vG x=true) (hm:oW g x=true) (ha:eH x.a) (hb:eH x.b) (ht:x.txt.length≤1048576) (hv:GH g x) :
  Calls Tryz.prog 83 #[.pointer (some ⟨B,0,none⟩),jB x] w fun e w'=>e=.returned (.bool (dQ g x).2)∧bC w w' B 0 (dB (dQ g x).1) fp:=by
 rw[oW,Bool.and_eq_true] at hm;obtain⟨hbl,hup⟩:=hm;have hf:=FM hbl (Gy x).1;rw[Ci,ok.ml] at hf;obtain⟨a,ea⟩:∃ a:Nat,x.a=(a:Int):=⟨x.a.toNat,by omega⟩
 have han:a<n:=by omega
 have hin:inB x.a 0 ((g.mem.length:Int)-1)=true:=dP.2 ⟨by omega,by rw[ok.ml];omega⟩
 have hta:x.a.toNat=a:=by omega
 rw[vG,decide_eq_true_eq] at hk;unfold GH at hv;rw[hta] at hv;rcases (by omega:x.kind=1∨x.kind=2∨x.kind=3∨x.kind=4∨x.kind=5∨x.kind=6∨x.kind=7) with e|e|e|e|e|e|e
 ·have hS:jB x=.iface 153 (.agg #[.int .i64 x.a,.string (sv x.txt)]):=by rw[jB,if_pos e]
  rw[hS];rw[decide_eq_false (by omega:¬ x.kind=3),Bool.false_or] at hup
  rw[uM (by omega) hin hup,if_pos e,hta,ea]
  exact ai2 B g n a x.txt fp w h ok han ht
 ·have hS:jB x=.iface 155 (.agg #[.int .i64 x.a,.int .i64 x.b]):=by rw[jB,if_neg (by omega),if_pos e]
  rw[hS];rw[decide_eq_false (by omega:¬ x.kind=3),Bool.false_or] at hup
  rw[zh (by omega),xg] at hbl
  rw[uM (by omega) hin hup,if_neg (by omega),if_pos e,if_pos hbl]
  have h2:=hbl;rw[jw,Bool.and_eq_true,Bool.and_eq_true,dP,dP] at h2;obtain⟨b,eb⟩:∃ b:Nat,x.b=(b:Int):=⟨x.b.toNat,by omega⟩
  rw[ea,eb];exact ai5 B g n a b fp w h ok han
 ·have hS:jB x=.iface 156 (.agg #[.int .i64 x.a,.int .i64 x.b]):=by rw[jB,if_neg (by omega),if_neg (by omega),if_pos e]
  rw[hS];rw[zh (by omega),xg] at hbl
  have h2:=hbl;rw[jw,Bool.and_eq_true,Bool.and_eq_true,dP,dP,ok.ml] at h2;obtain⟨b,eb⟩:∃ b:Nat,x.b=(b:Int):=⟨x.b.toNat,by omega⟩
  rw[KX e,if_pos hbl];exact ai6 B g n a b x ea eb fp w h ok han (by omega)
 ·have hS:jB x=.iface 158 (.agg #[.int .i64 x.a]):=by rw[jB,if_neg (by omega),if_neg (by omega),if_neg (by omega),if_pos e]
  rw[hS];rw[decide_eq_false (by omega:¬ x.kind=3),Bool.false_or] at hup
  rw[uM (by omega) hin hup,if_neg (by omega),if_neg (by omega),if_pos e,hta,ea]
  exact ai3 B g n a fp w h ok han (hv e)
 ·have hS:jB x=.iface 159 (.agg #[.int .i64 x.a,.int .i64 x.b]):=by rw[jB,if_neg (by omega),if_neg (by omega),if_neg (by omega),if_neg (by omega),if_pos e]
  rw[hS];rw[decide_eq_false (by omega:¬ x.kind=3),Bool.false_or] at hup
  rw[zh (by omega),xg] at hbl
  rw[uM (by omega) hin hup,if_neg (by omega),if_neg (by omega),if_neg (by omega),if_pos e,if_pos hbl]
  rw[hta,ea];exact ai4 B g n a x.b fp w h ok han hb
 ·have hS:jB x=.iface 160 (.agg #[.int .i64 x.a]):=by rw[jB,if_neg (by omega),if_neg (by omega),if_neg (by omega),if_neg (by omega),if_neg (by omega),if_pos e]
  rw[hS];rw[decide_eq_false (by omega:¬ x.kind=3),Bool.false_or] at hup
  rw[uM (by omega) hin hup,if_neg (by omega),if_neg (by omega),if_neg (by omega),if_neg (by omega),if_pos e,hta,ea]
  exact ai8 B g n a fp w h ok han
 ·have hS:jB x=.iface 161 (.agg #[.int .i64 x.a]):=by rw[jB,if_neg (by omega),if_neg (by omega),if_neg (by omega),if_neg (by omega),if_neg (by omega),if_neg (by omega),if_pos e]
  rw[hS];rw[decide_eq_false (by omega:¬ x.kind=3),Bool.false_or] at hup
  rw[uM (by omega) hin hup,if_neg (by omega),if_neg (by omega),if_neg (by omega),if_neg (by omega),if_neg (by omega),if_pos e,ea]
  exact ai7 B g n a fp w h ok han
attribute [local irreducible] sv
theorem Py (B:Nat) (g:Gr) (n:Nat) (x:Ac) (fp:Fp) (w:World) (h:dN w B 0 (dB g) fp) (ok:OkG g n) (ha:eH x.a) (hb:eH x.b) (ht:x.txt.length≤1048576) (hv:GH g x) :
  Calls Tryz.prog 43 #[.pointer (some ⟨B,0,none⟩),.agg #[.int .i64 x.kind,.int .i64 x.a,.int .i64 x.b,.string (sv x.txt)]] w fun e w'=>e=.returned (.int .i64 (MI (dQ g x).2))∧bC w w' B 0 (dB (dQ g x).1) fp:=by
 have hba:=aF w (.cells #[.int .i64 x.kind,.int .i64 x.a,.int .i64 x.b,.string (sv x.txt)] 38);have hx:=Bx.new w 38 #[.int .i64 x.kind,.int .i64 x.a,.int .i64 x.b,.string (sv x.txt)];obtain⟨y0,y1,y2,y3⟩:=Bx.a4 hx;have hS:=OY x ha hb (w.alloc (.cells #[.int .i64 x.kind,.int .i64 x.a,.int .i64 x.b,.string (sv x.txt)] 38));have HB:Hid (Below w.heap.size w (w.alloc (.cells #[.int .i64 x.kind,.int .i64 x.a,.int .i64 x.b,.string (sv x.txt)] 38))):=hba;have H0:Hid (bC w w B 0 (dB g) fp):=bC.refl h;have cO:Hid (OkG g n):=ok;have jA:Hid (vG x=false∨oW g x=false→dQ g x=(g,false)):=as7;clear hba hx h ok
 cases hs:DT x with
 | false =>
  have HZ:=aj (jA.out (aj0 cO.out hs));rw[hs] at hS;generalize jB x=V at *;clear hs ha hb ht hv jA;go_enter Tryz.func43,Tryz.ntmps43
  go_wp2_with fail
  refine hS.mono ?_;rintro e w1 ⟨rfl,hb1⟩;have HB1:=aj (H0.out.below (HB.out.trans (hb1.mono HB.out.size)));clear hb1 hS y0 y1 y2 y3;go_wp2;go_ret
  exact⟨by rw[HZ.out];rfl,by rw[HZ.out];exact HB1.out⟩
 | true =>
  have hk:vG x=true:=by
   cases e:vG x with
   | true=>rfl
   | false=>rw[DT,e] at hs;cases hs
  rw[hs] at hS
  have HM:Hid (∀ w1,Below w.heap.size w w1→Calls Tryz.prog 82 #[.pointer (some ⟨B,0,none⟩),jB x] w1 fun e w'=>e=.returned (.bool (oW g x))∧bC w w' B 0 (dB g) fp):=fun w1 h1=>by
   obtain⟨dD,hp,_,hgo⟩:=(H0.out.below h1).next;exact (af9 B g n x dD w1 hp cO.out hk ha hb).mono (fun e w' h=>⟨h.1,(H0.out.below h1).below h.2⟩)
  have HT:Hid (oW g x=true→∀ w1,bC w w1 B 0 (dB g) fp→Calls Tryz.prog 83 #[.pointer (some ⟨B,0,none⟩),jB x] w1 fun e w'=>e=.returned (.bool (dQ g x).2)∧bC w w' B 0 (dB (dQ g x).1) fp):=fun hm w1 h1=>by
   obtain⟨dD,hp,_,hgo⟩:=h1.next;exact (aj1 B g n x dD w1 hp cO.out hk hm ha hb ht hv).mono (fun e w' h=>⟨h.1,hgo _ _ rfl h.2⟩)
  clear hs hk ha hb ht hv;generalize jB x=V at *;go_enter Tryz.func43,Tryz.ntmps43
  go_wp2_with fail
  refine hS.mono ?_;rintro e w1 ⟨rfl,hb1⟩;have hM:=HM.out w1 (HB.out.trans (hb1.mono HB.out.size));clear hb1 hS y0 y1 y2 y3;go_wp2_with fail
  refine hM.mono ?_;rintro e w2 ⟨rfl,hb2⟩;have HB2:=aj hb2;clear hM hb2 HM
  cases hmt:oW g x with
  | false =>
   have HZ:=aj (jA.out (.inr hmt));clear hmt HT;go_wp2;go_ret
   exact⟨by rw[HZ.out];rfl,by rw[HZ.out];exact HB2.out⟩
  | true =>
   have hT:=HT.out hmt w2 HB2.out;clear hmt HT jA;go_wp2_with fail
   refine hT.mono ?_;rintro e w3 ⟨rfl,hb3⟩;have HB3:=aj hb3;clear hT hb3
   cases hz:(dQ g x).2 with
   | false =>
    have HZ:=aj hz;clear hz;go_wp2;go_ret
    exact⟨by rw[HZ.out];rfl,HB3.out⟩
   | true =>
    have HZ:=aj hz;clear hz;go_wp2;go_ret
    exact⟨by rw[HZ.out];rfl,HB3.out⟩
end
section
def DW:Prop:=∀ (A:Ga) (g:Gr) (n:Nat) (x:Ac) (w:World),uO w A g→OkG g n→eH x.a→eH x.b→x.txt.length≤1048576→GH g x→Calls Tryz.prog 13 #[iO A g,nZ x] w fun e w'=>Zh w w' e (dQ g x).1 (MI (dQ g x).2)
attribute [local irreducible] sv
theorem Nw:DW:=by
 intro A g n x w hv ok ha hb ht gU;have hb0:Below w.heap.size w (((w.alloc (.cells #[.slice A.ma g.mem.length A.mc,.slice A.ua g.up.length A.uc,.slice A.la g.aG.length A.lc] 28)).alloc (.cells #[.int .i64 x.kind,.int .i64 x.a,.int .i64 x.b,.string (sv x.txt)] 38)).alloc (.cells #[.slice none 0 0,.slice none 0 0,.slice none 0 0] 28)):=((Below.refl _ _).alloc (Nat.le_refl _) _).alloc (by simp) _ |>.alloc (by simp only[World.size_alloc];omega) _
 have hx0:Bx (((w.alloc (.cells #[.slice A.ma g.mem.length A.mc,.slice A.ua g.up.length A.uc,.slice A.la g.aG.length A.lc] 28)).alloc (.cells #[.int .i64 x.kind,.int .i64 x.a,.int .i64 x.b,.string (sv x.txt)] 38)).alloc (.cells #[.slice none 0 0,.slice none 0 0,.slice none 0 0] 28)) w.heap.size 28 #[.slice A.ma g.mem.length A.mc,.slice A.ua g.up.length A.uc,.slice A.la g.aG.length A.lc]:=((Bx.new w _ _).alloc _).alloc _
 have hx1:Bx (((w.alloc (.cells #[.slice A.ma g.mem.length A.mc,.slice A.ua g.up.length A.uc,.slice A.la g.aG.length A.lc] 28)).alloc (.cells #[.int .i64 x.kind,.int .i64 x.a,.int .i64 x.b,.string (sv x.txt)] 38)).alloc (.cells #[.slice none 0 0,.slice none 0 0,.slice none 0 0] 28)) (w.heap.size+1) 38 #[.int .i64 x.kind,.int .i64 x.a,.int .i64 x.b,.string (sv x.txt)]:=by
  have:=(Bx.new (w.alloc (.cells #[.slice A.ma g.mem.length A.mc,.slice A.ua g.up.length A.uc,.slice A.la g.aG.length A.lc] 28)) 38 #[.int .i64 x.kind,.int .i64 x.a,.int .i64 x.b,.string (sv x.txt)]).alloc (.cells #[.slice none 0 0,.slice none 0 0,.slice none 0 0] 28);simp only[World.size_alloc] at this;exact this
 have hx2:Bx (((w.alloc (.cells #[.slice A.ma g.mem.length A.mc,.slice A.ua g.up.length A.uc,.slice A.la g.aG.length A.lc] 28)).alloc (.cells #[.int .i64 x.kind,.int .i64 x.a,.int .i64 x.b,.string (sv x.txt)] 38)).alloc (.cells #[.slice none 0 0,.slice none 0 0,.slice none 0 0] 28)) (w.heap.size+2) 28 #[.slice none 0 0,.slice none 0 0,.slice none 0 0]:=by
  have:=Bx.new ((w.alloc (.cells #[.slice A.ma g.mem.length A.mc,.slice A.ua g.up.length A.uc,.slice A.la g.aG.length A.lc] 28)).alloc (.cells #[.int .i64 x.kind,.int .i64 x.a,.int .i64 x.b,.string (sv x.txt)] 38)) 28 #[.slice none 0 0,.slice none 0 0,.slice none 0 0];simp only[World.size_alloc] at this;exact this
 have hv0:=hv.below hb0;unfold iO jF nZ pR;generalize xG:((w.alloc (.cells #[.slice A.ma g.mem.length A.mc,.slice A.ua g.up.length A.uc,.slice A.la g.aG.length A.lc] 28)).alloc (.cells #[.int .i64 x.kind,.int .i64 x.a,.int .i64 x.b,.string (sv x.txt)] 38)).alloc (.cells #[.slice none 0 0,.slice none 0 0,.slice none 0 0] 28)=W0 at *;have hS:=OY x ha hb W0;have HX0:=aj hx0;have sJ:=aj hx1;have jZ:=aj hx2;have HV0:=aj hv0;have HB0:=aj hb0;have cO:=aj ok;have HI:Hid (eH x.a∧eH x.b∧x.txt.length≤1048576∧GH g x):=⟨ha,hb,ht,gU⟩;obtain⟨d0,d1,d2,d3⟩:=Bx.a4 hx1;clear hv hb0 hx0 hx1 hx2 hv0 ok ha hb ht gU;generalize jB x=V at *
 cases hs:DT x with
 | false =>
  rw[hs] at hS;clear hs;go_enter Tryz.func13,Tryz.ntmps13
  go_wp2_with fail
  refine hS.mono ?_;rintro e w1 ⟨rfl,hb1⟩;have qW:=aj hb1;clear hb1 hS d0 d1 d2 d3;have hC:=OQ A g n w1 (HV0.out.below qW.out) cO.out;unfold iO jF at hC;obtain⟨c0,c1,c2⟩:=Bx.g3 (HX0.out.below qW.out);go_wp2_with fail
  refine hC.mono ?_;rintro e w2 ⟨A2,rfl,fp,hl2,hf2,hb2⟩;have hlt2:=eX hl2;have hB2:=qW.out.trans (hb2.mono qW.out.size);have hba:=aF w2 (.cells #[.slice A2.ma g.mem.length A2.mc,.slice A2.ua g.up.length A2.uc,.slice A2.la g.aG.length A2.lc] 28);have hxb:=Bx.new w2 28 #[.slice A2.ma g.mem.length A2.mc,.slice A2.ua g.up.length A2.uc,.slice A2.la g.aG.length A2.lc];have hP:dN (w2.alloc (.cells #[.slice A2.ma g.mem.length A2.mc,.slice A2.ua g.up.length A2.uc,.slice A2.la g.aG.length A2.lc] 28)) w2.heap.size 0 (dB g) fp:=Ej (A:=A2) hxb (bM hl2 hba) (fun k=>by have:=hlt2 _ k;omega)
  have hB3:=hB2.trans (hba.mono hB2.size);have HZ3:=aj (jZ.out.below hB3);have HBB:=aj (HB0.out.trans (hB3.mono HB0.out.size));have hH:=Py w2.heap.size g n x fp _ hP cO.out HI.out.1 HI.out.2.1 HI.out.2.2.1 HI.out.2.2.2;obtain⟨e0,e1,e2,e3⟩:=Bx.a4 (sJ.out.below hB3);have hs2:=hB2.size;have hsx:=hb2.size;have hr1:=(jZ.out.below qW.out).lt;have HF2:=aj hf2;unfold iO jF;generalize hV3:w2.alloc (.cells #[.slice A2.ma g.mem.length A2.mc,.slice A2.ua g.up.length A2.uc,.slice A2.la g.aG.length A2.lc] 28)=V3 at *;have aB5:=hxb.lt;clear hxb hP hl2 hf2 hlt2 hb2 hba c0 c1 c2 hC hB2 hB3;go_wp2_with fail
  refine hH.mono ?_;rintro e Y ⟨rfl,hBc⟩;have hsw:=HB0.out.size;obtain⟨A3,⟨y0,y1,y2⟩,hz3,HN⟩:=Ij (w:=w) (r:=w.heap.size+2) hBc (fun b hb=>by have:=HF2.out b hb;exact⟨by omega,by omega⟩) (by omega) (by omega) (by omega) (by have:=HZ3.out.lt;omega) HBB.out HZ3.out
  obtain⟨z0,z1,z2⟩:=Bx.g3 hz3;obtain⟨f0,f1,f2⟩:=hz3.f3;have KZ:Hid (∀ {a b c:Value},iL w (((Y.setCell ⟨w.heap.size+2,0,none⟩ a).setCell ⟨w.heap.size+2,1,none⟩ b).setCell ⟨w.heap.size+2,2,none⟩ c) (dB (dQ g x).1) (gq A3 (dQ g x).1)):=HN Y (Below.refl _ _);generalize hpm:(dQ g x).1=pm at *;generalize hcd:MI (dQ g x).2=cd at *;have HPm:Hid ((dQ g x).1=pm):=hpm;have HCd:Hid (MI (dQ g x).2=cd):=hcd;clear hH hBc HN hz3 hpm hcd e0 e1 e2 e3;go_wp2;refine bodyPost_ret (v:=.tuple #[iO A3 pm,.int .i64 cd]) (by simp[results,Tryz.results13,go_sem,iO,jF, *]) rfl ?_
  rw[HPm.out,HCd.out];exact⟨_,rfl,KZ.out⟩
 | true =>
  rw[hs] at hS;clear hs;go_enter Tryz.func13,Tryz.ntmps13
  go_wp2_with fail
  refine hS.mono ?_;rintro e w0 ⟨rfl,hb1⟩;have hK:=DN A g w0 (HV0.out.below hb1);rw[JO.2 ⟨n,cO.out⟩] at hK;unfold iO jF at hK;have HB1:=aj hb1;obtain⟨c0,c1,c2⟩:=Bx.g3 (HX0.out.below hb1);clear hb1 hS d0 d1 d2 d3;go_wp2_with fail
  refine hK.mono ?_;rintro e w1 ⟨rfl,hb2⟩;have qW:=aj (HB1.out.trans (hb2.mono HB1.out.size));clear hb2 hK c0 c1 c2 HB1;have hC:=OQ A g n w1 (HV0.out.below qW.out) cO.out;unfold iO jF at hC;obtain⟨c0,c1,c2⟩:=Bx.g3 (HX0.out.below qW.out);go_wp2_with fail
  refine hC.mono ?_;rintro e w2 ⟨A2,rfl,fp,hl2,hf2,hb2⟩;have hlt2:=eX hl2;have hB2:=qW.out.trans (hb2.mono qW.out.size);have hba:=aF w2 (.cells #[.slice A2.ma g.mem.length A2.mc,.slice A2.ua g.up.length A2.uc,.slice A2.la g.aG.length A2.lc] 28);have hxb:=Bx.new w2 28 #[.slice A2.ma g.mem.length A2.mc,.slice A2.ua g.up.length A2.uc,.slice A2.la g.aG.length A2.lc];have hP:dN (w2.alloc (.cells #[.slice A2.ma g.mem.length A2.mc,.slice A2.ua g.up.length A2.uc,.slice A2.la g.aG.length A2.lc] 28)) w2.heap.size 0 (dB g) fp:=Ej (A:=A2) hxb (bM hl2 hba) (fun k=>by have:=hlt2 _ k;omega)
  have hB3:=hB2.trans (hba.mono hB2.size);have HZ3:=aj (jZ.out.below hB3);have HBB:=aj (HB0.out.trans (hB3.mono HB0.out.size));have hH:=Py w2.heap.size g n x fp _ hP cO.out HI.out.1 HI.out.2.1 HI.out.2.2.1 HI.out.2.2.2;obtain⟨e0,e1,e2,e3⟩:=Bx.a4 (sJ.out.below hB3);have hs2:=hB2.size;have hsx:=hb2.size;have hr1:=(jZ.out.below qW.out).lt;have HF2:=aj hf2;unfold iO jF;generalize hV3:w2.alloc (.cells #[.slice A2.ma g.mem.length A2.mc,.slice A2.ua g.up.length A2.uc,.slice A2.la g.aG.length A2.lc] 28)=V3 at *;have aB5:=hxb.lt;clear hxb hP hl2 hf2 hlt2 hb2 hba c0 c1 c2 hC hB2 hB3;go_wp2_with fail
  refine hH.mono ?_;rintro e Y ⟨rfl,hBc⟩;have hsw:=HB0.out.size;obtain⟨A3,⟨y0,y1,y2⟩,hz3,HN⟩:=Ij (w:=w) (r:=w.heap.size+2) hBc (fun b hb=>by have:=HF2.out b hb;exact⟨by omega,by omega⟩) (by omega) (by omega) (by omega) (by have:=HZ3.out.lt;omega) HBB.out HZ3.out
  obtain⟨z0,z1,z2⟩:=Bx.g3 hz3;obtain⟨f0,f1,f2⟩:=hz3.f3;have KZ:Hid (∀ {a b c:Value},iL w (((Y.setCell ⟨w.heap.size+2,0,none⟩ a).setCell ⟨w.heap.size+2,1,none⟩ b).setCell ⟨w.heap.size+2,2,none⟩ c) (dB (dQ g x).1) (gq A3 (dQ g x).1)):=HN Y (Below.refl _ _);generalize hpm:(dQ g x).1=pm at *;generalize hcd:MI (dQ g x).2=cd at *;have HPm:Hid ((dQ g x).1=pm):=hpm;have HCd:Hid (MI (dQ g x).2=cd):=hcd;clear hH hBc HN hz3 hpm hcd e0 e1 e2 e3;go_wp2;refine bodyPost_ret (v:=.tuple #[iO A3 pm,.int .i64 cd]) (by simp[results,Tryz.results13,go_sem,iO,jF, *]) rfl ?_
  rw[HPm.out,HCd.out];exact⟨_,rfl,KZ.out⟩
end
def NoD (r:Rw):Prop:=r.wed=false∧r.ak=[]
def Sy (r o:Rw):Prop:=r.ver<o.ver∨r=o
theorem Sy.refl (a:Rw):Sy a a:=.inr rfl
def tJ (g:Gr) (i:Nat):Rw:=ah (aN g i).rows i
structure ND (n c:Nat) (g:Gr):Prop where
 G:wF n g
 up:∀ i,i<n→nM g i=true
 dn:∀ i,i<n→(aN g i).done=false
 rows:∀ i j,i<n→j<n→NoD (ah (aN g i).rows j)∧Sy (ah (aN g i).rows j) (tJ g j)
 aG:∀ x∈g.aG,NoD x.row∧Sy x.row (tJ g x.fr.toNat)
 ver:∀ i,i<n→(tJ g i).ver≤(c:Int)
theorem ND.new {n:Nat} (hn:1≤n∧n≤5):ND n 0 (dV (n:Int)).1:=by
 obtain⟨ok,e⟩:=Ec hn;have hb:inB (n:Int) 1 5=true:=dP.2 (by omega)
 have hmN:∀ i,i<n→aN (dV (n:Int)).1 i=⟨(i:Int),(n:Int),List.replicate n (gB (n:Int)),[],false⟩:=fun i hi=>by
  rw[dV,if_pos hb];unfold aN;simp only[Int.toNat_natCast]
  rw[List.getD_eq_getElem?_getD,List.getElem?_map,List.getElem?_range hi];simp only[Option.map_some,Option.getD_some]
  rw[iE,if_pos ⟨hb,dP.2 (by omega)⟩]
  simp
 have hrow:∀ j,j<n→ah (List.replicate n (gB (n:Int))) j=gB (n:Int):=fun j hj=>by simp[ah,List.getElem?_replicate,hj]
 have ho:∀ j,j<n→tJ (dV (n:Int)).1 j=gB (n:Int):=fun j hj=>by unfold tJ;rw[hmN j hj];exact hrow j hj
 refine⟨zx hn,fun i hi=>?_,fun i hi=>by rw[hmN i hi],fun i j hi hj=>?_, ?_,fun i hi=>by rw[ho i hi,e];simp⟩
 ·rw[dV,if_pos hb];simp[nM,List.getElem?_replicate,hi]
 ·rw[ho j hj,hmN i hi]
  simp only[hrow j hj]
  exact⟨by rw[e];exact⟨rfl,rfl⟩,Sy.refl _⟩
 ·rw[dV,if_pos hb];intro x hx;cases hx
theorem aj2 {m:Mb} {i n:Nat} (M:dO m i n) (t:List UInt8):(ah (bW m t).1.rows i).ver≤(ah m.rows i).ver+1:=by
 have hi:i<m.rows.length:=by rw[M.len];exact M.lt
 unfold bW
 split
 ·simp only;omega
 ·simp only[Mb.put,M.i,M.own]
  rw[bZ hi,if_pos rfl];simp only;omega
theorem UR {m:Mb} {i n:Nat} (M:dO m i n) (x:Int):(ah (aW m x).1.rows i).ver≤(ah m.rows i).ver+1:=by
 have hi:i<m.rows.length:=by rw[M.len];exact M.lt
 unfold aW
 split
 ·simp only;omega
 ·simp only[Mb.put,M.i,M.own]
  rw[bZ hi,if_pos rfl];simp only;omega
theorem Yw {m:Mb} {i n:Nat} (M:dO m i n):(ah (bJ m).rows i).ver≤(ah m.rows i).ver+1:=by
 have hi:i<m.rows.length:=by rw[M.len];exact M.lt
 unfold bJ
 split
 ·omega
 ·rename_i hn
  have S:=zG M (by cases e:m.done with|false=>rfl|true=>exact absurd (.inl e) hn)
  have hv:=S.ver;simp only[M.i]
  rw[bZ hi,if_pos rfl,S.e5]
  split
  ·omega
  ·simp only;omega
def kC (g:Gr) (n:Nat) (q:Int):Prop:=∀ k,k<n→(tJ g k).ver≤q
theorem kC.mono {g:Gr} {n:Nat} {p q:Int} (h:kC g n p) (hq:p≤q):kC g n q:=fun k hk=>Int.le_trans (h k hk) hq
theorem kC.set {g:Gr} {n:Nat} {q:Int} (G:OkG g n) (h:kC g n q) {i:Nat} (hi:i<n) {m':Mb} (hm:(ah m'.rows i).ver≤(tJ g i).ver+1):kC (g.set i m') n (q+1):=fun k hk=>by
 have hil:i<g.mem.length:=by rw[G.ml];exact hi
 unfold tJ;rw[qH hil]
 split
 ·rename_i e
  subst e;have:=h k hk;omega
 ·have:=h k hk
  unfold tJ at this;omega
theorem kC.Cm {g g':Gr} {n:Nat} {q:Int} (h:kC g n q) (e:g'.mem=g.mem):kC g' n q:=fun k hk=>by
 have:=h k hk;unfold tJ aN at this ⊢;rw[e];exact this
theorem kC.land {g:Gr} {n:Nat} {q:Int} (G:OkG g n) (h:kC g n q) {i:Nat} (hi:i<g.aG.length):kC (iU g i) n q:=fun k hk=>by
 have h0:=h k hk;unfold tJ at h0 ⊢;rcases (G.land hi).2.2.2 k hk with e|⟨r,a,_,e⟩
 ·rw[e];exact h0
 ·rw[e]
  obtain⟨h1,h2,h3,h4,h5,h6⟩:=qQ (G.mem k hk) (a:Int) r;rw[h4];exact h0
theorem kC.act {g:Gr} {n:Nat} {q:Int} (G:OkG g n) (h:kC g n q) (x:Ac):kC (dQ g x).1 n (q+1):=by
 have hs:kC g n (q+1):=h.mono (by omega)
 have JD:jw g x=true→∃ a b:Nat,x.a=(a:Int)∧x.b=(b:Int)∧a<n∧b<n∧a≠b:=fun ht=>by
  simp only[jw,Bool.and_eq_true,decide_eq_true_eq] at ht;rw[G.ml] at ht;obtain⟨a,e1,h1⟩:=lY ht.1;obtain⟨b,e2,h2⟩:=lY ht.2.1;exact⟨a,b,e1,e2,h1,h2,fun e=>ht.2.2 (by rw[e1,e2,e])⟩
 unfold dQ;by_cases c3:x.kind=3
 ·rw[if_pos c3]
  by_cases c2:jw g x=true
  ·rw[if_pos c2]
   cases e:g.aG.findIdx? (fun y=>decide (y.fr=x.a∧y.to=x.b)) with
   | none=>exact hs
   | some i=>exact (kC.land G h (List.findIdx?_eq_some_iff_getElem.1 e).1).mono (by omega)
  ·rw[if_neg c2];exact hs
 ·rw[if_neg c3]
  by_cases c0:inB x.a 0 ((g.mem.length:Int)-1)=false∨nM g x.a.toNat=false
  ·rw[if_pos c0];exact hs
  ·rw[if_neg c0]
   simp only[not_or] at c0;rw[G.ml] at c0;obtain⟨a,ea,ha⟩:=lY (by simpa using c0.1)
   have M:=G.mem a ha;have et:x.a.toNat=a:=by rw[ea];rfl
   rw[et];by_cases c1:x.kind=1
   ·rw[if_pos c1];exact kC.set G h ha (aj2 M x.txt)
   ·rw[if_neg c1]
    by_cases c2:x.kind=2
    ·rw[if_pos c2]
     by_cases c4:jw g x=true
     ·rw[if_pos c4]
      obtain⟨a',b,e1,e2,h1,h2,h3⟩:=JD c4;rw[e1,e2];exact hs.Cm (G.push h1 h2 h3).2.1
     ·rw[if_neg c4];exact hs
    ·rw[if_neg c2]
     by_cases c4:x.kind=4
     ·rw[if_pos c4];exact kC.set G h ha (Yw M)
     ·rw[if_neg c4]
      by_cases c5:x.kind=5
      ·rw[if_pos c5]
       by_cases c6:jw g x=true
       ·rw[if_pos c6];exact kC.set G h ha (UR M x.b)
       ·rw[if_neg c6];exact hs
      ·rw[if_neg c5]
       by_cases c6:x.kind=6
       ·rw[if_pos c6];exact hs.Cm rfl
       ·rw[if_neg c6]
        by_cases c7:x.kind=7
        ·rw[if_pos c7,ea]
         exact hs.Cm (OkG.all ha (List.range g.mem.length) G (fun y hy=>by rw[G.ml] at hy;exact List.mem_range.1 hy)).2.1
        ·rw[if_neg c7];exact hs
theorem aj3 {g:Gr} {n:Nat} {q:Int} (G:OkG g n) (h:kC g n q) (hq:q<1000000) (x:Ac):GH g x:=fun _=>by
 rcases Nat.lt_or_ge x.a.toNat n with hk|hk
 ·have:=h _ hk
  rw[(G.mem _ hk).own];unfold tJ at this;omega
 ·have e:aN g x.a.toNat=iG:=by
   unfold aN;rw[List.getD_eq_getElem?_getD,List.getElem?_eq_none (by rw[G.ml];exact hk)]
   rfl
  rw[e];simp[Mb.own,iG,ah,jH]
theorem ND.owV {n c:Nat} {g:Gr} (D:ND n c g):kC g n (c:Int):=D.ver
theorem IJ {n:Nat} (hn:1≤n∧n≤5):kC (dV (n:Int)).1 n 0:=(ND.new hn).owV
end Go.Proofs.YtafimeakbdmkjaaGreat