/-
  Texts in one.
-/
import Derived.Test.YtafimeakbdmkjaaGreatZaa
import Derived.Test.YtafimeakbdmkjaaGreatZao
import Derived.Test.YtafimeakbdmkjaaGreatZah
import Derived.Test.YtafimeakbdmkjaaGreatZag
import Derived.Test.YtafimeakbdmkjaaGreatZan
import Derived.Test.YtafimeakbdmkjaaGreatZaf
import Derived.Test.YtafimeakbdmkjaaGreatZab
import Derived.Test.YtafimeakbdmkjaaGreatZai
import Derived.Test.YtafimeakbdmkjaaGreatZae
import Derived.Test.YtafimeakbdmkjaaGreatZac
import Derived.Shelf.Strconv.Clone
import Derived.Shelf.SlGeneric
import Derived.Lib.SliceRun
namespace Go.Proofs.YtafimeakbdmkjaaGreat
set_option linter.unusedVariables false
set_option linter.unusedSimpArgs false
open Go.RowKit Go.Sort
set_option maxRecDepth 100000
set_option maxHeartbeats 12800000
theorem Bx.yC {w:World} {B:Nat} {T:TypeId} {x0 x1 x2 x3 x4 x5 x6 x7 x8 x9:Value} (h:Bx w B T #[x0,x1,x2,x3,x4,x5,x6,x7,x8,x9]):(w.cell? ⟨B,0,none⟩=some x0∧w.cell? ⟨B,1,none⟩=some x1∧w.cell? ⟨B,2,none⟩=some x2∧w.cell? ⟨B,3,none⟩=some x3∧w.cell? ⟨B,4,none⟩=some x4)∧w.cell? ⟨B,5,none⟩=some x5∧w.cell? ⟨B,6,none⟩=some x6∧w.cell? ⟨B,7,none⟩=some x7∧w.cell? ⟨B,8,none⟩=some x8∧w.cell? ⟨B,9,none⟩=some x9 :=
 ⟨⟨h.at 0 rfl,h.at 1 rfl,h.at 2 rfl,h.at 3 rfl,h.at 4 rfl⟩,h.at 5 rfl,h.at 6 rfl,h.at 7 rfl,h.at 8 rfl,h.at 9 rfl⟩
theorem QE (x:Ml) (n:Int):qG x n=(jL n [x.fr,x.to]&&bI x.row n):=by
 rw[LH,qG]
 cases inB x.fr 0 (n-1)<;>cases inB x.to 0 (n-1)<;>simp
theorem WR (w:World) (x y:Int) (hx:eH x) (hy:eH y):Vec (w.alloc (.cells #[.int .i64 x,.int .i64 y] 2)) (some ⟨w.heap.size,0,none⟩) [x,y].length [x,y]:=by
 refine⟨rfl,fun z hz=>?_,.inr ⟨w.heap.size,0,rfl,fun k hk=>?_⟩⟩
 ·rcases List.mem_cons.1 hz with h|h
  ·rw[h];exact hx
  ·rw[List.mem_singleton.1 h];exact hy
 ·have hb:=Bx.new w 2 #[.int .i64 x,.int .i64 y]
  match k,hk with
  | 0,_=>exact hb.at 0 rfl
  | 1,_=>exact hb.at 1 rfl
theorem WS (A:Ga) (g:Gr) (w:World) (hv:uO w A g) :
  Calls Tryz.prog 18 #[iO A g] w fun e w'=>e=.returned (.bool (jf g))∧Below w.heap.size w w':=by
 have hb0:=aF w (.cells #[.slice A.ma g.mem.length A.mc,.slice A.ua g.up.length A.uc,.slice A.la g.aG.length A.lc] 28);have hx0:=Bx.new w 28 #[.slice A.ma g.mem.length A.mc,.slice A.ua g.up.length A.uc,.slice A.la g.aG.length A.lc];have HV:=aj (hv.below hb0);have HX:=aj hx0;have HB0:=aj hb0;have hI:=qL (g.mem.length:Int) (w.alloc (.cells #[.slice A.ma g.mem.length A.mc,.slice A.ua g.up.length A.uc,.slice A.la g.aG.length A.lc] 28));have hgs:=hv.grs;have hlm:=hgs.lm;have RU:=hgs.lu;have hll:=hgs.ll;unfold maxLen at hlm RU hll;obtain⟨c0,c1,c2⟩:=Bx.g3 hx0;unfold iO jF;clear hv hb0 hx0 hgs;by_cases hn:inB (g.mem.length:Int) 1 5=true;rotate_left
 ·have hn':inB (g.mem.length:Int) 1 5=false:=by simpa using hn
  have HZ:Hid (jf g=false):=by
   by_cases h1:1≤g.mem.length
   ·exact al7 (fun h2=>hn (dP.2 ⟨by omega,by omega⟩))
   ·exact al6 h1
  rw[hn'] at hI;clear hn hn';go_enter Tryz.func18,Tryz.ntmps18
  go_upto_region 1 with fail
  generalize w.alloc (.cells #[.slice A.ma g.mem.length A.mc,.slice A.ua g.up.length A.uc,.slice A.la g.aG.length A.lc] 28)=W0 at *;go_wp2_with (go_at_call 52;refine hI.mono ?_;rintro e w' ⟨rfl,hw'⟩;rw[hw'];clear hw')
  go_ret
  exact⟨aH (by rw[HZ.out]),HB0.out⟩
 rw[hn] at hI;have fG:=dP.1 hn;clear hn;by_cases hu:g.up.length=g.mem.length;rotate_left
 ·have HZ:Hid (jf g=false):=al8 hu
  have e1:((g.up.length:Int) != (g.mem.length:Int))=true:=by simp;omega
  clear hu;go_enter Tryz.func18,Tryz.ntmps18
  go_upto_region 1 with fail
  generalize w.alloc (.cells #[.slice A.ma g.mem.length A.mc,.slice A.ua g.up.length A.uc,.slice A.la g.aG.length A.lc] 28)=W0 at *;go_wp2_with (go_at_call 52;refine hI.mono ?_;rintro e w' ⟨rfl,hw'⟩;rw[hw'];clear hw')
  go_ret
  exact⟨aH (by rw[HZ.out]),HB0.out⟩
 have e1:((g.up.length:Int) != (g.mem.length:Int))=false:=by simp;omega
 have HU:=aj hu;clear hu;by_cases hm:g.aG.length≤200;rotate_left
 ·have HZ:Hid (jf g=false):=al9 hm
  have e2:(g.aG.length:Int)>200:=by omega
  clear hm;go_enter Tryz.func18,Tryz.ntmps18
  go_upto_region 1 with fail
  generalize w.alloc (.cells #[.slice A.ma g.mem.length A.mc,.slice A.ua g.up.length A.uc,.slice A.la g.aG.length A.lc] 28)=W0 at *;go_wp2_with (go_at_call 52;refine hI.mono ?_;rintro e w' ⟨rfl,hw'⟩;rw[hw'];clear hw')
  go_ret
  exact⟨aH (by rw[HZ.out]),HB0.out⟩
 have e2:¬ (g.aG.length:Int)>200:=by omega
 go_enter Tryz.func18,Tryz.ntmps18
 go_upto_region 1 with fail
 generalize w.alloc (.cells #[.slice A.ma g.mem.length A.mc,.slice A.ua g.up.length A.uc,.slice A.la g.aG.length A.lc] 28)=W0 at *;go_wp2_with (go_at_call 52;refine hI.mono ?_;rintro e w' ⟨rfl,hw'⟩;rw[hw'];clear hw')
 clear c0 c1 c2 hI e1 e2
 go_loopw [32] (fun v wr=>∃ k:Nat,k≤g.mem.length∧v=.int .i64 (k:Int)∧Hid (∀ j,j<k→tN g j=true)∧Below W0.heap.size W0 wr) (fun v _=>g.mem.length-(intOf v).toNat)
 case atStart=>exact⟨0,Nat.zero_le _,rfl,fun j hj=>by omega,Below.refl _ _⟩
 case round =>
  obtain⟨k,hk,rfl,HA,hb⟩:=hrel;have HB:=aj hb;by_cases hlt:k<g.mem.length
  ·obtain⟨bb,off,Ak,hma,⟨d0,d1,d2,d3,d4⟩,hmp⟩:=(HV.out.below hb).member hlt
   have HF:Hid (tN g k=false→jf g=false):=fun h=>am0 hlt h
   have HT:Hid (tN g k=true→∀ j,j<k+1→tN g j=true):=fun h j hj=>by
    rcases Nat.lt_succ_iff_lt_or_eq.1 hj with h1|h1
    ·exact HA.out j h1
    ·rw[h1];exact h
   have HO:Hid (tN g k=(fO (aN g k)&&(decide ((aN g k).id=(k:Int))&&decide ((aN g k).n=(g.mem.length:Int))))):=rfl;have k1:(k:Int)<(g.mem.length:Int):=by omega
   have k0:(0:Int)≤(k:Int):=by omega
   generalize tN g k=on at *;generalize aN g k=m at *;rw[hma];have OB:=aj hma;have hba:=aF wr (.cells #[.int .i64 m.id,.int .i64 m.n,.slice Ak.ra m.rows.length Ak.rc,.slice Ak.sa m.au.length Ak.sc,.bool m.done] 47);have hxm:=Bx.new wr 47 #[.int .i64 m.id,.int .i64 m.n,.slice Ak.ra m.rows.length Ak.rc,.slice Ak.sa m.au.length Ak.sc,.bool m.done];have iw:=aj (HB.out.trans (hba.mono HB.out.size));have hMk:=LD Ak m (wr.alloc (.cells #[.int .i64 m.id,.int .i64 m.n,.slice Ak.ra m.rows.length Ak.rc,.slice Ak.sa m.au.length Ak.sc,.bool m.done] 47)) (hmp.below hba);unfold eG dZ at hMk;obtain⟨y0,y1,y2,y3,y4⟩:=Bx.r5 hxm;clear hmp hb hba hxm hma;go_upto_region 7 with fail
   clear d0 d1 d2 d3 d4;generalize wr.alloc (.cells #[.int .i64 m.id,.int .i64 m.n,.slice Ak.ra m.rows.length Ak.rc,.slice Ak.sa m.au.length Ak.sc,.bool m.done] 47)=W5 at *;by_cases q1:m.id=(k:Int);rotate_left
   ·have z1:(m.id != (k:Int))=true:=by simp[q1]
    have HZ:Hid (jf g=false):=HF.out (by rw[HO.out,decide_eq_false q1];simp)
    clear HF HT HO q1;go_wp2_with fail
    go_ret
    exact⟨aH (by rw[HZ.out]),HB0.out.trans (iw.out.mono HB0.out.size)⟩
   have z1:(m.id != (k:Int))=false:=by simp[q1]
   by_cases q2:m.n=(g.mem.length:Int);rotate_left
   ·have z2:(m.n != (g.mem.length:Int))=true:=by simp[q2]
    have HZ:Hid (jf g=false):=HF.out (by rw[HO.out,decide_eq_false q2];simp)
    clear HF HT HO q1 q2;go_wp2_with fail
    go_ret
    exact⟨aH (by rw[HZ.out]),HB0.out.trans (iw.out.mono HB0.out.size)⟩
   have z2:(m.n != (g.mem.length:Int))=false:=by simp[q2]
   have yJ:Hid (on=fO m):=by rw[Hid,HO.out,decide_eq_true q1,decide_eq_true q2];simp
   clear HO q1 q2;generalize fO m=ob at *;go_wp2_with fail
   refine hMk.mono ?_;rintro e w6 ⟨rfl,hb6⟩;have vg:=aj (iw.out.trans (hb6.mono iw.out.size));clear hMk hb6 y0 y1 y2 y3 y4 z1 z2
   cases ob with
   | false =>
    have HZ:=aj (HF.out yJ.out);clear HF HT yJ;go_wp2_with fail
    go_ret
    exact⟨aH (by rw[HZ.out]),HB0.out.trans (vg.out.mono HB0.out.size)⟩
   | true =>
    have HZ:=aj (HT.out yJ.out);clear HF HT yJ;go_wp2_with fail
    go_roundw
    case rel=>exact⟨k+1,by omega,by go_num,HZ.out,vg.out⟩
    case measure=>simp[intOf];omega
  ·have k1:¬ ((k:Int)<(g.mem.length:Int)):=by omega
   have HM:Hid (∀ j,j<g.mem.length→tN g j=true):=fun j hj=>HA.out j (by omega)
   obtain⟨c0,c1,c2⟩:=Bx.g3 (HX.out.below hb);clear hb HA;go_wp2_with fail
   clear c0 c1 c2 k1;generalize wr=V at *
   go_loopw [56] (fun v wr=>∃ k:Nat,k≤g.aG.length∧v=.int .i64 (k:Int)∧Hid (∀ j,j<k→qG (aU g j) (g.mem.length:Int)=true)∧Below W0.heap.size W0 wr) (fun v _=>g.aG.length-(intOf v).toNat)
   case atStart=>exact⟨0,Nat.zero_le _,rfl,fun j hj=>by omega,HB.out⟩
   case round =>
    obtain⟨k,hk,rfl,HA,hb⟩:=hrel;have HB2:=aj hb;by_cases hlt:k<g.aG.length
    ·obtain⟨bb,off,Ak,hla,d0,d1,⟨⟨d2,d3,d4,d5⟩,d6,d7,d8,d9⟩,kV⟩:=(HV.out.below hb).letter hlt
     have WT:=HV.out.i64.2 _ (BO hlt);have HF:Hid (qG (aU g k) (g.mem.length:Int)=false→jf g=false):=fun h=>am1 hlt h
     have HT:Hid (qG (aU g k) (g.mem.length:Int)=true→∀ j,j<k+1→qG (aU g j) (g.mem.length:Int)=true):=fun h j hj=>by
      rcases Nat.lt_succ_iff_lt_or_eq.1 hj with h1|h1
      ·exact HA.out j h1
      ·rw[h1];exact h
     have HO:Hid (qG (aU g k) (g.mem.length:Int)=(jL (g.mem.length:Int) [(aU g k).fr,(aU g k).to]&&bI (aU g k).row (g.mem.length:Int))):=QE _ _;have k1:(k:Int)<(g.aG.length:Int):=by omega
     have k0:(0:Int)≤(k:Int):=by omega
     generalize qG (aU g k) (g.mem.length:Int)=on at *;generalize (aU g k).row=r at *;generalize (aU g k).fr=fr at *;generalize (aU g k).to=tt at *;rw[hla];have Zm:=aj hla;have hba:=aF wr (.cells #[.int .i64 fr,.int .i64 tt,.int .i64 r.ver,.slice Ak.ta r.txt.length Ak.tc,.slice Ak.ga r.got.length Ak.gc,.slice Ak.sa r.ak.length Ak.sc,.bool r.wed,.bool r.aB,.int .i64 r.aC,.slice Ak.ma r.aA.length Ak.mc] 68);have hxm:=Bx.new wr 68 #[.int .i64 fr,.int .i64 tt,.int .i64 r.ver,.slice Ak.ta r.txt.length Ak.tc,.slice Ak.ga r.got.length Ak.gc,.slice Ak.sa r.ak.length Ak.sc,.bool r.wed,.bool r.aB,.int .i64 r.aC,.slice Ak.ma r.aA.length Ak.mc];have iw:=aj (HB2.out.trans (hba.mono HB2.out.size));have aq0:=kV.below hba;have TV:=aj aq0;have HXm:=aj hxm;obtain⟨⟨y0,y1,_,_,_⟩,_⟩:=Bx.yC hxm;clear kV aq0 hb hba hxm hla;go_upto_region 13 with fail
     clear d0 d1 d2 d3 d4 d5 d6 d7 d8 d9;generalize wr.alloc (.cells #[.int .i64 fr,.int .i64 tt,.int .i64 r.ver,.slice Ak.ta r.txt.length Ak.tc,.slice Ak.ga r.got.length Ak.gc,.slice Ak.sa r.ak.length Ak.sc,.bool r.wed,.bool r.aB,.int .i64 r.aC,.slice Ak.ma r.aA.length Ak.mc] 68)=W5 at *;have hb7:=aF W5 (.cells #[.int .i64 fr,.int .i64 tt] 2);have OD:=Gp (g.mem.length:Int) W5.heap.size 0 2 [fr,tt] (W5.alloc (.cells #[.int .i64 fr,.int .i64 tt] 2)) (WR W5 fr tt WT.1 WT.2.1) (by simp) (by simp) (by unfold maxLen;omega) (by omega)
     have Dz:=aj (iw.out.trans (hb7.mono iw.out.size));have sD:=TR Ak r (g.mem.length:Int) (W5.alloc (.cells #[.int .i64 fr,.int .i64 tt] 2)) (TV.out.below hb7) (by unfold eH;omega)
     obtain⟨_,y5,y6,y7,y8,y9⟩:=Bx.yC (HXm.out.below hb7);obtain⟨⟨_,_,y2,y3,y4⟩,_⟩:=Bx.yC (HXm.out.below hb7);unfold bV bD at sD;simp only[List.length_cons,List.length_nil,Nat.zero_add,Nat.reduceAdd] at OD;generalize jL (g.mem.length:Int) [fr,tt]=p at *;clear hb7 WT
     cases p with
     | false =>
      have HZ:Hid (jf g=false):=HF.out (by rw[HO.out];rfl)
      clear HF HT HO sD y2 y3 y4 y5 y6 y7 y8 y9;go_wp2_with (go_at_call 54;refine OD.mono ?_;rintro e w' ⟨rfl,hw'⟩;rw[hw'];clear hw')
      go_ret
      exact⟨aH (by rw[HZ.out]),HB0.out.trans (Dz.out.mono HB0.out.size)⟩
     | true =>
      have yJ:Hid (on=bI r (g.mem.length:Int)):=by rw[Hid,HO.out,Bool.true_and]
      clear HO;generalize bI r (g.mem.length:Int)=ob at *;go_wp2_with (go_at_call 54;refine OD.mono ?_;rintro e w' ⟨rfl,hw'⟩;rw[hw'];clear hw')
      refine sD.mono ?_;rintro e w6 ⟨rfl,hb6⟩;have vg:=aj (Dz.out.trans (hb6.mono Dz.out.size));clear sD hb6 OD y0 y1 y2 y3 y4 y5 y6 y7 y8 y9
      cases ob with
      | false =>
       have HZ:=aj (HF.out yJ.out);clear HF HT yJ;go_wp2_with fail
       go_ret
       exact⟨aH (by rw[HZ.out]),HB0.out.trans (vg.out.mono HB0.out.size)⟩
      | true =>
       have HZ:=aj (HT.out yJ.out);clear HF HT yJ;go_wp2_with fail
       go_roundw
       case rel=>exact⟨k+1,by omega,by go_num,HZ.out,vg.out⟩
       case measure=>simp[intOf];omega
    ·have k1:¬ ((k:Int)<(g.aG.length:Int)):=by omega
     have HZ:Hid (jf g=true):=VD (by omega) (by omega) HU.out hm HM.out (fun j hj=>HA.out j (by omega))
     clear hb HA;go_wp2_with fail
     go_ret
     exact⟨aH (by rw[HZ.out]),HB0.out.trans (HB2.out.mono HB0.out.size)⟩
theorem DN:DL:=fun A g w h=>WS A g w h
def iJ (m:Mb):List aI:=[.v (.int .i64 m.id),dA 8 eY m.rows,bQ m.au,.v (.bool m.done)]
def C4 (w:World) (B:Nat) (x0 x1 x2 x3:Value):Prop:=w.cell? ⟨B,0,none⟩=some x0∧w.cell? ⟨B,1,none⟩=some x1∧w.cell? ⟨B,2,none⟩=some x2∧w.cell? ⟨B,3,none⟩=some x3
structure Iw (w X:World) (B:Nat) (m:Mb) (fp:Fp) (g off c:Nat):Prop where
 bU:bC w X B 0 (iJ m) fp
 rws:X.cell? ⟨B,1,none⟩=some (.slice (some ⟨g,off,none⟩) m.rows.length c)
theorem Iw.start {w:World} {B:Nat} {m:Mb} {fp:Fp} (h:dN w B 0 (iJ m) fp) (hn:0<m.rows.length):∃ g off c,Iw w w B m fp g off c:=by
 obtain⟨g,off,c,f,h1,_⟩:=h.el (F:=eY) gI (by omega) (j:=1) (L:=m.rows) rfl (dW hn)
 exact⟨g,off,c,bC.refl h,h1⟩
theorem Iw.step {w X X':World} {B:Nat} {m:Mb} {fp:Fp} {g off c:Nat} (h:Iw w X B m fp g off c) (hb:Below X.heap.size X X'):Iw w X' B m fp g off c:=⟨h.bU.below hb,(hb.cell (World.block_lt_of_cell? _ _ h.rws)).trans h.rws⟩
theorem Iw.box {w X:World} {B:Nat} {m:Mb} {fp:Fp} {g off c:Nat} (h:Iw w X B m fp g off c) (hf:kH m):∃ sa sc,C4 X B (.int .i64 m.id) (.slice (some ⟨g,off,none⟩) m.rows.length c) (.slice sa m.au.length sc) (.bool m.done)∧NS X ⟨some ⟨g,off,none⟩,c,sa,sc⟩ m:=by
 obtain⟨dD,hp,_⟩:=h.bU.next;have hv:=hp.pv;obtain⟨u0,c0,rfl⟩:=hv.at (j:=0) rfl;obtain⟨u2,c2,v2⟩:=hv.at (j:=1) rfl;obtain⟨u3,c3,v3⟩:=hv.at (j:=2) rfl;obtain⟨u4,c4,rfl⟩:=hv.at (j:=3) rfl;have e2:=Option.some.inj (c2.symm.trans h.rws);subst e2;obtain⟨sa,sc,rfl,s1,s2,s3⟩:=jV v3 hf.2;have k:=v2;obtain⟨_,_,_,e,k1,k2,_⟩:=k
 cases e
 exact⟨sa,sc,⟨c0,c2,c3,c4⟩,v2,s1,by omega,by omega,hf.1⟩
theorem Iw.id' {w X:World} {B:Nat} {m:Mb} {fp:Fp} {g off c:Nat} (h:Iw w X B m fp g off c):X.cell? ⟨B,0,none⟩=some (.int .i64 m.id)∧X.cell? ⟨B,3,none⟩=some (.bool m.done):=by
 obtain⟨dD,hp,_⟩:=h.bU.next;have hv:=hp.pv;obtain⟨u0,c0,rfl⟩:=hv.at (j:=0) rfl;obtain⟨u4,c4,rfl⟩:=hv.at (j:=3) rfl;exact⟨c0,c4⟩
theorem Iw.row {w X:World} {B:Nat} {m:Mb} {fp:Fp} {g off c:Nat} (h:Iw w X B m fp g off c) (hf:kH m) {k:Nat} (hk:k<m.rows.length):∃ Ak:Ra,C8 X g (off+k*8) (.int .i64 (ah m.rows k).ver) (.slice Ak.ta (ah m.rows k).txt.length Ak.tc) (.slice Ak.ga (ah m.rows k).got.length Ak.gc) (.slice Ak.sa (ah m.rows k).ak.length Ak.sc) (.bool (ah m.rows k).wed) (.bool (ah m.rows k).aB) (.int .i64 (ah m.rows k).aC) (.slice Ak.ma (ah m.rows k).aA.length Ak.mc)∧nJ X Ak (ah m.rows k):=by
 obtain⟨sa,sc,_,h2⟩:=h.box hf;obtain⟨g',off',Ak,e,h3,h4⟩:=h2.row hk
 cases e
 exact⟨Ak,h3,h4⟩
theorem Iw.at {w X:World} {B:Nat} {m:Mb} {fp:Fp} {g off c:Nat} (h:Iw w X B m fp g off c) {k:Nat} (hk:k<m.rows.length) {j:Nat} {cl:aI} (hj:(eY (ah m.rows k))[j]?=some cl):∃ u f,X.cell? ⟨g,off+k*8+j,none⟩=some u∧X.frozen? ⟨g,off+k*8+j,none⟩=false∧aI.ow X cl u f∧(∀ b,f b→b<X.heap.size) ∧
  ∀ (X1:World) (c':aI) (u':Value) (f':Fp) (r':Rw),(eY (ah m.rows k)).set j c'=eY r'→aO f X X1→aI.ow X1 c' u' f'→(∀ b,f' b→f b∨X.heap.size≤b)→X1.cell? ⟨g,off+k*8+j,none⟩=some u∧X1.frozen? ⟨g,off+k*8+j,none⟩=false∧Iw w (X1.setCell ⟨g,off+k*8+j,none⟩ u') B { m with rows:=m.rows.set k r' } fp g off c∧(u'=u→Iw w X1 B { m with rows:=m.rows.set k r' } fp g off c):=by
 obtain⟨dD,hp,hf1,hgo⟩:=h.bU.next;obtain⟨g',off',c',f,h1,hgB,hfg,hfs,hpl,hput⟩:=hp.el (F:=eY) gI (by omega) (j:=1) (L:=m.rows) rfl (dW hk)
 have e:=Option.some.inj (h1.symm.trans h.rws)
 cases e
 obtain⟨u,fj,hu,hfz,hc,hsub,hnB,hset⟩:=hpl.at hj;have EM:=hp.lt;refine⟨u,fj,hu,hfz,hc,aI.iT hc,fun X1 c' u' f' r' er hw hc' hf'=>?_⟩
 obtain⟨k1,k2,k3,k4⟩:=hset X1 c' u' f' hw hc' hf';rw[er] at k3 k4;have RN:¬ fj B:=fun hb=>hp.nB (hfs B (hsub B hb))
 have hr1:X1.cell? ⟨B,1,none⟩=some (.slice (some ⟨g,off,none⟩) m.rows.length c):=(World.cell?_of_block (hw.block B EM RN)).trans h.rws;have key:∀ Z,bC X Z g (off+k*8) (eY r') f→bC w Z B 0 (iJ { m with rows:=m.rows.set k r' }) fp:=fun Z hZ=>hgo Z _ rfl (hput Z r' hZ)
 refine⟨k1,k2,⟨key _ k3, ?_⟩,fun e=>⟨key _ (k4 e), ?_⟩⟩
 ·rw[World.cell?_setCell_other _ _ _ _ (by simp only[ne_eq,Addr.mk.injEq,not_and];intro e;exact absurd e hgB),hr1]
  simp
 ·rw[hr1];simp
theorem Iw.put {w X:World} {B:Nat} {m:Mb} {fp:Fp} {g off c:Nat} (h:Iw w X B m fp g off c) {k:Nat} (hk:k<m.rows.length) {j:Nat} {x y:Value} (hj:(eY (ah m.rows k))[j]?=some (.v x)) {r':Rw} (er:(eY (ah m.rows k)).set j (.v y)=eY r') :
  X.cell? ⟨g,off+k*8+j,none⟩=some x∧X.frozen? ⟨g,off+k*8+j,none⟩=false∧Iw w (X.setCell ⟨g,off+k*8+j,none⟩ y) B { m with rows:=m.rows.set k r' } fp g off c:=by
 obtain⟨u,f,h1,h2,⟨rfl,h3⟩,_,h4⟩:=h.at hk hj;exact⟨h1,h2,(h4 X (.v y) y (fun _=>False) r' er (aO.refl _ _) ⟨rfl,fun _ h=>h⟩ (fun b hb=>hb.elim)).2.2.1⟩
theorem Iw.He {w X:World} {B:Nat} {m:Mb} {fp:Fp} {g off c:Nat} (h:Iw w X B m fp g off c) {j:Nat} {cl:aI} (hj:(iJ m)[j]?=some cl) (hj2:j≠1):∃ u f,X.cell? ⟨B,0+j,none⟩=some u∧X.frozen? ⟨B,0+j,none⟩=false∧aI.ow X cl u f∧(∀ b,f b→b<X.heap.size) ∧
  ∀ (X1:World) (c':aI) (u':Value) (f':Fp) (m':Mb),(iJ m).set j c'=iJ m'→m'.rows.length=m.rows.length→aO f X X1→aI.ow X1 c' u' f'→(∀ b,f' b→f b∨X.heap.size≤b)→X1.cell? ⟨B,0+j,none⟩=some u∧X1.frozen? ⟨B,0+j,none⟩=false∧Iw w (X1.setCell ⟨B,0+j,none⟩ u') B m' fp g off c:=by
 obtain⟨dD,hp,hf1,hgo⟩:=h.bU.next;obtain⟨u,fj,hu,hfz,hc,hsub,hnB,hset⟩:=hp.at hj;refine⟨u,fj,hu,hfz,hc,aI.iT hc,fun X1 c' u' f' m' er hl hw hc' hf'=>?_⟩
 obtain⟨k1,k2,k3,k4⟩:=hset X1 c' u' f' hw hc' hf';rw[er] at k3;refine⟨k1,k2,hgo _ _ rfl k3, ?_⟩;rw[World.cell?_setCell_other _ _ _ _ (by simp only[ne_eq,Addr.mk.injEq,not_and];intro _ e;omega),World.cell?_of_block (hw.block B hp.lt hnB),h.rws,hl]
theorem Iw.J3 {w X X1:World} {B:Nat} {m:Mb} {fp:Fp} {g off c:Nat} (h:Iw w X B m fp g off c) {k:Nat} (hk:k<m.rows.length) (hb:Below X.heap.size X X1) {r':Rw} {Ar:Ra} {fr:Fp} (hr:bG X1 (fM r') (fC Ar r') fr) (hfr:∀ b,fr b→X.heap.size≤b) :
  Iw w ((((((((X1.setCell ⟨g,off+k*8,none⟩ (.int .i64 r'.ver)).setCell ⟨g,off+k*8+1,none⟩ (.slice Ar.ta r'.txt.length Ar.tc)).setCell ⟨g,off+k*8+2,none⟩ (.slice Ar.ga r'.got.length Ar.gc)).setCell ⟨g,off+k*8+3,none⟩ (.slice Ar.sa r'.ak.length Ar.sc)).setCell ⟨g,off+k*8+4,none⟩ (.bool r'.wed)).setCell ⟨g,off+k*8+5,none⟩ (.bool r'.aB)).setCell ⟨g,off+k*8+6,none⟩ (.int .i64 r'.aC)).setCell ⟨g,off+k*8+7,none⟩ (.slice Ar.ma r'.aA.length Ar.mc)) B { m with rows:=m.rows.set k r' } fp g off c:=by
 obtain⟨dD,hp,hf1,hgo⟩:=h.bU.next;obtain⟨g',off',c',f,h1,hgB,hfg,hfs,hpl,hput⟩:=hp.el (F:=eY) gI (by omega) (j:=1) (L:=m.rows) rfl (dW hk)
 have e:=Option.some.inj (h1.symm.trans h.rws)
 cases e
 have hA:=hpl.all hb (AZ hr) rfl hfr;have hB:=hgo _ (iJ { m with rows:=m.rows.set k r' }) rfl (hput _ r' hA)
 refine⟨hB, ?_⟩;have hr1:X1.cell? ⟨B,1,none⟩=some (.slice (some ⟨g,off,none⟩) m.rows.length c):=(World.cell?_of_block (hb.block B hp.lt)).trans h.rws;have:=World.cell?_setCells_out g (bD Ar r').toList (off+k*8) X1 ⟨B,1,none⟩ (fun e _=>absurd e.symm hgB)
 have e2:=this.trans hr1;simp only[List.length_set]
 exact e2
theorem Iw.free {w X:World} {B:Nat} {m:Mb} {fp:Fp} {g off c:Nat} (h:Iw w X B m fp g off c) {k:Nat} (hk:k<m.rows.length):(X.frozen? ⟨g,off+k*8,none⟩=false∧X.frozen? ⟨g,off+k*8+1,none⟩=false∧X.frozen? ⟨g,off+k*8+2,none⟩=false∧X.frozen? ⟨g,off+k*8+3,none⟩=false)∧X.frozen? ⟨g,off+k*8+4,none⟩=false∧X.frozen? ⟨g,off+k*8+5,none⟩=false∧X.frozen? ⟨g,off+k*8+6,none⟩=false∧X.frozen? ⟨g,off+k*8+7,none⟩=false:=by
 obtain⟨dD,hp,hf1,hgo⟩:=h.bU.next;obtain⟨g',off',c',f,h1,hgB,hfg,hfs,⟨vs,hpc,hov,_⟩,hput⟩:=hp.el (F:=eY) gI (by omega) (j:=1) (L:=m.rows) rfl (dW hk)
 have e:=Option.some.inj (h1.symm.trans h.rws)
 cases e
 have hl:vs.length=8:=fJ hov;exact⟨⟨hpc.free 0 (by omega),hpc.free 1 (by omega),hpc.free 2 (by omega),hpc.free 3 (by omega)⟩,hpc.free 4 (by omega),hpc.free 5 (by omega),hpc.free 6 (by omega),hpc.free 7 (by omega)⟩
theorem Iw.sub {w X X5:World} {B:Nat} {m:Mb} {fp:Fp} {g off c:Nat} (h:Iw w X B m fp g off c) (hb:Below X.heap.size X X5):∃ gy,(∀ b,gy b→b<X.heap.size)∧B<X.heap.size∧(∀ b,gy b→fp b∨w.heap.size≤b)∧Iw X5 X5 B m gy g off c∧∀ (Y:World) (m':Mb),Iw X5 Y B m' gy g off c→Iw w Y B m' fp g off c:=by
 obtain⟨dD,hp,hf1,hgo⟩:=h.bU.next;have hlt:=hp.flt;have hB:=hp.lt;refine⟨dD,hlt,hB,hf1,⟨bC.refl (hp.below hb),(hb.cell (World.block_lt_of_cell? _ _ h.rws)).trans h.rws⟩,fun Y m' hY=>⟨hgo Y _ rfl (hY.bU.first hb hB hlt),hY.rws⟩⟩
theorem Iw.bx {w X:World} {B:Nat} {m:Mb} {fp:Fp} {g off c:Nat} (h:Iw w X B m fp g off c) {b:Nat} {T:TypeId} {cs:Array Value} (hx:Bx w b T cs) (h1:¬ fp b) (h2:b≠B):Bx X b T cs:=hx.wrt h.bU.wrt (fun k=>k.elim h1 h2)
theorem Iw.Ob {w X:World} {B:Nat} {m:Mb} {fp:Fp} {g off c:Nat} (h:Iw w X B m fp g off c) {cl:aI} {u:Value} {f:Fp} (hx:aI.ow w cl u f) (h1:∀ b,f b→¬ fp b∧b≠B):aI.ow X cl u f:=aI.lU hx h.bU.wrt (fun b hb k=>k.elim (h1 b hb).1 (h1 b hb).2)
theorem vT (B:Nat) (a:Option Addr) (n c:Nat) (X:World) (h1:X.cell? ⟨B,1,none⟩=some (.slice a n c)) :
  Calls Tryz.prog 166 #[.pointer (some ⟨B,0,none⟩)] X fun e w'=>e=.returned (.int .i64 (n:Int))∧w'=X:=by
 go_enter Tryz.func166,Tryz.ntmps166
 go_wp2;go_ret
 exact⟨rfl,rfl⟩
theorem jQ (B i n g off c:Nat) (X:World) (h0:X.cell? ⟨B,0,none⟩=some (.int .i64 (i:Int))) (h1:X.cell? ⟨B,1,none⟩=some (.slice (some ⟨g,off,none⟩) n c)) (hi:i<n) :
  Calls Tryz.prog 140 #[.pointer (some ⟨B,0,none⟩)] X fun e w'=>e=.returned (.pointer (some ⟨g,off+i*8,none⟩))∧Below X.heap.size X w':=by
 have bH:=dH;have i0:(0:Int)≤(i:Int):=by omega
 have i1:(i:Int)<(n:Int):=by omega
 have T:∀ {x v},X.cell? x=some v→∀ q:Bk X,q.w.cell? x=some v:=fun h q=>(q.h.cell (World.block_lt_of_cell? _ _ h)).trans h
 have p0:=T h0;have p1:=T h1;clear T h0 h1;go_enter Tryz.func140,Tryz.ntmps140
 go_wp2_with fail
 refine eU ?_;repeat (go_big_quiet_step ((first|rfl)))
 refine wpQuiet_nil (dK fun wE aJ=>?_)
 have HB:=aj aJ;clear p0 p1 aJ;go_wp2;go_ret
 exact⟨rfl,HB.out⟩
def jM (i n:Nat) (ak:List Int) (who:Int):Bool:=decide (who≠(i:Int))&&(inB who 0 ((n:Int)-1)&&decide (who∉ak))
theorem Gq (B i n g off c:Nat) (sa:Option Addr) (sc:Nat) (ak:List Int) (who:Int) (X:World) (h0:X.cell? ⟨B,0,none⟩=some (.int .i64 (i:Int))) (h1:X.cell? ⟨B,1,none⟩=some (.slice (some ⟨g,off,none⟩) n c)) (hi:i<n) (hn:n≤5) (h3:X.cell? ⟨g,off+i*8+3,none⟩=some (.slice sa ak.length sc)) (hv:Vec X sa ak.length ak) (hm:ak.length≤maxLen) :
  Calls Tryz.prog 177 #[.pointer (some ⟨B,0,none⟩),.int .i64 who] X fun e w'=>e=.returned (.bool (jM i n ak who))∧Below X.heap.size X w':=by
 have HR:Hid (Below X.heap.size X X):=Below.refl _ _;by_cases e1:who=(i:Int)
 ·have HZ:Hid (jM i n ak who=false):=by rw[Hid,jM,e1];simp
  have e1':(who != (i:Int))=false:=by simp[e1]
  clear e1;go_enter Tryz.func177,Tryz.ntmps177
  go_wp2_with fail
  go_ret
  exact⟨aH (by rw[HZ.out]),HR.out⟩
 have e1':(who != (i:Int))=true:=by simp[e1]
 have hC:=fun X h=>vT B (some ⟨g,off,none⟩) n c X h
 have hwn:wrap64 ((n:Int)-1)=(n:Int)-1:=by unfold wrap64;omega
 cases e2:inB who 0 ((n:Int)-1) with
 | false =>
  have HZ:Hid (jM i n ak who=false):=by rw[Hid,jM,e2];simp
  clear e1;go_enter Tryz.func177,Tryz.ntmps177
  go_wp2_with (first|(go_at_call 166;refine (hC _ h1).mono ?_;rintro e w' ⟨rfl,hw'⟩;rw[hw'];clear hw')|(go_at_call 87;refine (iI _ _ _).mono ?_;rintro e w' ⟨rfl,hw'⟩;rw[hw',e2];clear hw'))
  go_ret
  exact⟨aH (by rw[HZ.out]),HR.out⟩
 | true =>
  have HZ:Hid (jM i n ak who=!decide (who∈ak)):=by rw[Hid,jM,e2,decide_eq_true e1];simp
  have hO:=jQ B i n g off c X h0 h1 hi;have aA1:Hid (∀ Y,Below X.heap.size X Y→Y.cell? ⟨g,off+i*8+3,none⟩=some (.slice sa ak.length sc)∧Calls Tryz.prog 88 #[.slice sa ak.length sc,.int .i64 who] Y fun e w'=>e=.returned (.bool (decide (who∈ak)))∧w'=Y):=fun Y hY=>⟨(hY.cell (World.block_lt_of_cell? _ _ h3)).trans h3,oV sa sc ak who Y (hv.below hY (Nat.le_refl _)) hm⟩
  clear e1 hv hm HR;generalize decide (who∈ak)=b at *;go_enter Tryz.func177,Tryz.ntmps177
  go_wp2_with (first|(go_at_call 166;refine (hC _ h1).mono ?_;rintro e w' ⟨rfl,hw'⟩;rw[hw'];clear hw')|(go_at_call 87;refine (iI _ _ _).mono ?_;rintro e w' ⟨rfl,hw'⟩;rw[hw',e2];clear hw')|(go_at_call 140;refine hO.mono ?_;rintro e w1 ⟨rfl,hb1⟩;obtain⟨g3,Iq⟩:=aA1.out w1 hb1;have HB1:Hid (Below X.heap.size X w1):=hb1;clear hb1 h0 h1 h3)|(go_at_call 88;refine Iq.mono ?_;rintro e w' ⟨rfl,hw'⟩;rw[hw'];clear hw'))
  go_ret
  exact⟨aH (by rw[HZ.out]),HB1.out⟩
theorem OE (B n c L lc:Nat) (a la:Option Addr) (X:World) (h1:X.cell? ⟨B,1,none⟩=some (.slice a n c)) (hL:L≤100) (hn:n≤5) :
  Calls Tryz.prog 171 #[.pointer (some ⟨B,0,none⟩),.slice la L lc] X fun e w'=>e=.returned (.bool (decide (n<2*L)))∧w'=X:=by
 have hC:=vT B a n c X h1;have hw:wrap64 (2*(L:Int))=2*(L:Int):=by unfold wrap64;omega
 have hd:decide (2*(L:Int)>(n:Int))=decide (n<2*L):=by
  by_cases h:n<2*L
  ·rw[decide_eq_true h,decide_eq_true (by omega)]
  ·rw[decide_eq_false h,decide_eq_false (by omega)]
 rw[← hd];clear hd;go_enter Tryz.func171,Tryz.ntmps171
 go_wp2_with (go_at_call 166;refine hC.mono ?_;rintro e w' ⟨rfl,hw'⟩;rw[hw'];clear hw')
 go_ret
 exact⟨rfl,rfl⟩
section
open Go.RowKit Go.Sort Go.Shelf
def Tryz.cloneL_ren:Go.Shelf.Ren:=⟨fun|316=>129|n=>n,fun|9=>9|3=>3|4=>4|37=>22|0=>0|127=>193|5=>5|n=>n,fun|n=>n⟩
theorem Tryz.cloneL : Go.Proofs.LaysM.n316 Tryz.prog Tryz.cloneL_ren := {
 mixed:=by kernel_rfl
 f316:=Tryz.func129.trans (congrArg some (by kernel_rfl))
 t0:=Tryz.underlying0
 a0:=Tryz.isAgg0
 z0:=Tryz.sizeOf0
 v0:=Tryz.zeroValue0
 t3:=Tryz.underlying3
 a3:=Tryz.isAgg3
 z3:=Tryz.sizeOf3
 v3:=Tryz.zeroValue3
 t4:=Tryz.underlying4
 a4:=Tryz.isAgg4
 z4:=Tryz.sizeOf4
 v4:=Tryz.zeroValue4
 t9:=Tryz.underlying9
 a9:=Tryz.isAgg9
 z9:=Tryz.sizeOf9
 v9:=Tryz.zeroValue9
 t37:=Tryz.underlying22
 a37:=Tryz.isAgg22
 z37:=Tryz.sizeOf22
 v37:=Tryz.zeroValue22
 t127:=Tryz.underlying193
 a127:=Tryz.isAgg193
 z127:=Tryz.sizeOf193
 v127:=Tryz.zeroValue193
 t5:=Tryz.underlying5
 a5:=Tryz.isAgg5
 z5:=Tryz.sizeOf5
 v5:=Tryz.zeroValue5
 i0:=by kernel_rfl
 i3:=by kernel_rfl
 i4:=by kernel_rfl
 i5:=by kernel_rfl
 i9:=by kernel_rfl
 i37:=by kernel_rfl
 i127:=by kernel_rfl }
theorem clone_any (l:List UInt8) (w:World) (hl:l.length≤1048576) :
  Calls Tryz.prog 93 #[.string (sv l)] w fun e w'=>e=.returned (.string (sv l))∧Below w.heap.size w w':=by
 have h:=Any.stringslite_Clone Tryz.cloneL (sv l) w (by rw[vO];omega)
 go_enter Tryz.func93,Tryz.ntmps93
 go_wp2_with fail
 refine h.mono ?_;rintro e w1 ⟨rfl,hb⟩;have HB:=aj hb;clear hb h;go_wp2;go_ret
 exact⟨rfl,HB.out⟩
end
section
variable {P:Program} {l:List Oper} {Q:Exit→Act→World→Prop} {S:World→Prop}
theorem OG {i z:Nat} {o:Oper} {fuel:Nat} {listed:Array Bool} {a:Act} {w:World} (hn:¬ S w) (hi:l[i]?=some o) (hr:Region.ready .any l.toArray listed=[i])
  (h:∀ K':Act→World→Prop,Shut (∀ a w,GT P l Q S z fuel (listed.setIfInBounds i true) a w→K' a w)→if Region.wanted o (yielded l.toArray a.tmps)=true then Oper.wp P o a w K' Q else K' (a.put o.dst undef) w):GT P l Q S z (fuel+1) listed a w:=by
 have hi':l.toArray[i]?=some o:=by simpa using hi
 refine⟨fun h0=>(by rw[hr] at h0;cases h0),fun j hj=>?_⟩
 rw[hr] at hj;simp at hj
 subst hj;exact wpOp_step hi' (fun K' hK=>h K' (fun a w hW=>hK a w ⟨fun _ hS=>absurd hS hn,hW⟩))
theorem ad3 {z:Nat} {o:Oper} {fuel:Nat} {listed:Array Bool} {a:Act} {w:World} (hi:l[z]?=some o) (hr:Region.ready .any l.toArray listed=[z])
  (h:∀ K':Act→World→Prop,Shut (∀ a w,GT P l Q S z fuel (listed.setIfInBounds z true) a w→K' a w)→if Region.wanted o (yielded l.toArray a.tmps)=true then Oper.wp P o a w K' Q else K' (a.put o.dst undef) w):GT P l Q S z (fuel+1) listed a w:=by
 have hi':l.toArray[z]?=some o:=by simpa using hi
 refine⟨fun h0=>(by rw[hr] at h0;cases h0),fun j hj=>?_⟩
 rw[hr] at hj;simp at hj
 subst hj;exact wpOp_step hi' (fun K' hK=>h K' (fun a w hW=>hK a w ⟨fun e _=>absurd rfl e,hW⟩))
end
theorem yV (a:Option Addr) (c:Nat) (xs:List Int) (w:World) (hv:Vec w a xs.length xs) (hl:xs.length≤1000000) :
  Calls Tryz.prog 167 #[.slice a xs.length c] w fun e w'=>J7 w w' e xs:=by
 have q25:∀ (w:World) (a:Option Addr) (n c n' c':Nat),(binOp .eql 41 (.slice a n c) (.slice none n' c')).run Tryz.prog w=.ok (.bool a.isNone) w:=fun w a n c n' c'=>Lib.run_eql_slice_nil w _ _ a n c n' c' Tryz.underlying41
 cases a with
 | none =>
  have hx:xs=[]:=by
   rcases hv.2.2 with h|⟨b,o,e,_⟩
   ·exact List.eq_nil_of_length_eq_zero h
   ·cases e
  subst hx;clear hv;go_enter Tryz.func167,Tryz.ntmps167
  go_wp2;go_ret
  exact⟨none,0,rfl,fun _=>False,fB.2 ⟨none,0,none,rfl,dR.nil _ _ (fun _ h=>by cases h),fun b=>by simp⟩,fun _ h=>h.elim,Below.refl _ _⟩
 | some ad =>
  have hA:=rY (c:=c) hv hl;clear hv;go_enter Tryz.func167,Tryz.ntmps167
  go_wp2_with (at_builtin;refine aZ (by rfl) _ _ _ _ (by rfl) _ _ (by rfl) (by rfl) hA ⟨rfl,rfl,rfl,rfl⟩ ?_;rintro v1 w1 ⟨a1,e1,f1,rfl,q1,q2,q3⟩;have HQ:Hid (oD w w1 (bQ xs) (.slice a1 xs.length e1)):=⟨f1,q1,q2,q3⟩;clear q1 q2 q3 hA)
  go_ret
  exact⟨a1,e1,rfl,HQ.out⟩
section
attribute [local irreducible] sv
theorem yX (A:Ra) (r:Rw) (w:World) (hv:iM w A r) (hg:0<r.got.length) (hs:iy r≤1000) :
  Calls Tryz.prog 141 #[bV A r] w fun e w'=>I4 w w' e r:=by
 have bH:=dH;unfold iy at hs;have hb1:=aF w (.cells #[.int .i64 r.ver,.slice A.ta r.txt.length A.tc,.slice A.ga r.got.length A.gc,.slice A.sa r.ak.length A.sc,.bool r.wed,.bool r.aB,.int .i64 r.aC,.slice A.ma r.aA.length A.mc] 44);have hb2:=aF (w.alloc (.cells #[.int .i64 r.ver,.slice A.ta r.txt.length A.tc,.slice A.ga r.got.length A.gc,.slice A.sa r.ak.length A.sc,.bool r.wed,.bool r.aB,.int .i64 r.aC,.slice A.ma r.aA.length A.mc] 44)) (.cells #[.int .i64 0,.slice none 0 0,.slice none 0 0,.slice none 0 0,.bool false,.bool false,.int .i64 0,.slice none 0 0] 44);have hb3:=aF ((w.alloc (.cells #[.int .i64 r.ver,.slice A.ta r.txt.length A.tc,.slice A.ga r.got.length A.gc,.slice A.sa r.ak.length A.sc,.bool r.wed,.bool r.aB,.int .i64 r.aC,.slice A.ma r.aA.length A.mc] 44)).alloc (.cells #[.int .i64 0,.slice none 0 0,.slice none 0 0,.slice none 0 0,.bool false,.bool false,.int .i64 0,.slice none 0 0] 44)) (.cells #[] 9);have hx1:Bx (((w.alloc (.cells #[.int .i64 r.ver,.slice A.ta r.txt.length A.tc,.slice A.ga r.got.length A.gc,.slice A.sa r.ak.length A.sc,.bool r.wed,.bool r.aB,.int .i64 r.aC,.slice A.ma r.aA.length A.mc] 44)).alloc (.cells #[.int .i64 0,.slice none 0 0,.slice none 0 0,.slice none 0 0,.bool false,.bool false,.int .i64 0,.slice none 0 0] 44)).alloc (.cells #[] 9)) w.heap.size 44 #[.int .i64 r.ver,.slice A.ta r.txt.length A.tc,.slice A.ga r.got.length A.gc,.slice A.sa r.ak.length A.sc,.bool r.wed,.bool r.aB,.int .i64 r.aC,.slice A.ma r.aA.length A.mc]:=((Bx.new w 44 #[.int .i64 r.ver,.slice A.ta r.txt.length A.tc,.slice A.ga r.got.length A.gc,.slice A.sa r.ak.length A.sc,.bool r.wed,.bool r.aB,.int .i64 r.aC,.slice A.ma r.aA.length A.mc]).alloc _).alloc _
 have hx2:Bx (((w.alloc (.cells #[.int .i64 r.ver,.slice A.ta r.txt.length A.tc,.slice A.ga r.got.length A.gc,.slice A.sa r.ak.length A.sc,.bool r.wed,.bool r.aB,.int .i64 r.aC,.slice A.ma r.aA.length A.mc] 44)).alloc (.cells #[.int .i64 0,.slice none 0 0,.slice none 0 0,.slice none 0 0,.bool false,.bool false,.int .i64 0,.slice none 0 0] 44)).alloc (.cells #[] 9)) (w.heap.size+1) 44 #[.int .i64 0,.slice none 0 0,.slice none 0 0,.slice none 0 0,.bool false,.bool false,.int .i64 0,.slice none 0 0]:=by
  have:=(Bx.new (w.alloc (.cells #[.int .i64 r.ver,.slice A.ta r.txt.length A.tc,.slice A.ga r.got.length A.gc,.slice A.sa r.ak.length A.sc,.bool r.wed,.bool r.aB,.int .i64 r.aC,.slice A.ma r.aA.length A.mc] 44)) 44 #[.int .i64 0,.slice none 0 0,.slice none 0 0,.slice none 0 0,.bool false,.bool false,.int .i64 0,.slice none 0 0]).alloc (.cells #[] 9);simp only[World.size_alloc] at this;exact this
 have kP:=hb1.trans (hb2.mono hb1.size);have Gs:=kP.trans (hb3.mono kP.size);have fH:Hid (aI.ow (((w.alloc (.cells #[.int .i64 r.ver,.slice A.ta r.txt.length A.tc,.slice A.ga r.got.length A.gc,.slice A.sa r.ak.length A.sc,.bool r.wed,.bool r.aB,.int .i64 r.aC,.slice A.ma r.aA.length A.mc] 44)).alloc (.cells #[.int .i64 0,.slice none 0 0,.slice none 0 0,.slice none 0 0,.bool false,.bool false,.int .i64 0,.slice none 0 0] 44)).alloc (.cells #[] 9)) (lM []) (.slice (some ⟨w.heap.size+1+1,0,none⟩) 0 0) (fun _=>False)):=oJ.2 ⟨_,0,none,rfl,dR.nil _ _ (jG _ _),fun b=>by simp⟩
 have sJ:=aj hx1;have jZ:=aj hx2;have HB0:=aj Gs;have HV:=aj hv;have hsz:w.heap.size+1+1≤(((w.alloc (.cells #[.int .i64 r.ver,.slice A.ta r.txt.length A.tc,.slice A.ga r.got.length A.gc,.slice A.sa r.ak.length A.sc,.bool r.wed,.bool r.aB,.int .i64 r.aC,.slice A.ma r.aA.length A.mc] 44)).alloc (.cells #[.int .i64 0,.slice none 0 0,.slice none 0 0,.slice none 0 0,.bool false,.bool false,.int .i64 0,.slice none 0 0] 44)).alloc (.cells #[] 9)).heap.size:=by simp only[World.size_alloc];omega
 have xU:=aj hsz;obtain⟨⟨c0,c1,c2,c3⟩,c4,c5,c6,c7⟩:=Bx.r8 hx1;clear hb1 hb2 hb3 kP Gs hx1 hx2 hv hsz;unfold bV bD;go_enter Tryz.func141,Tryz.ntmps141
 go_wp2_with fail
 generalize ((w.alloc (.cells #[.int .i64 r.ver,.slice A.ta r.txt.length A.tc,.slice A.ga r.got.length A.gc,.slice A.sa r.ak.length A.sc,.bool r.wed,.bool r.aB,.int .i64 r.aC,.slice A.ma r.aA.length A.mc] 44)).alloc (.cells #[.int .i64 0,.slice none 0 0,.slice none 0 0,.slice none 0 0,.bool false,.bool false,.int .i64 0,.slice none 0 0] 44)).alloc (.cells #[] 9)=W0 at *;clear c0 c1 c2 c3 c4 c5 c6 c7
 go_loopw [3,10] (fun v k wr=>∃ (j:Nat) (a:Option Addr) (cc:Nat) (Z:List (List UInt8)) (fz:Fp),j≤r.txt.length∧k=.int .i64 (j:Int)∧v=.slice a Z.length cc∧Hid (Z=r.txt.take j)∧aI.ow wr (lM Z) (.slice a Z.length cc) fz∧(∀ b,fz b→w.heap.size+1+1≤b)∧Bx wr w.heap.size 44 #[.int .i64 r.ver,.slice A.ta r.txt.length A.tc,.slice A.ga r.got.length A.gc,.slice A.sa r.ak.length A.sc,.bool r.wed,.bool r.aB,.int .i64 r.aC,.slice A.ma r.aA.length A.mc]∧Bx wr (w.heap.size+1) 44 #[.int .i64 0,.slice none 0 0,.slice none 0 0,.slice none 0 0,.bool false,.bool false,.int .i64 0,.slice none 0 0]∧Below w.heap.size w wr) (fun _ k _=>r.txt.length-(intOf k).toNat)
 case atStart=>exact⟨0,some ⟨w.heap.size+1+1,0,none⟩,0,[],_,Nat.zero_le _,rfl,rfl,rfl,fH.out,fun b h=>h.elim,sJ.out,jZ.out,HB0.out⟩
 case round =>
  obtain⟨j,a,cc,Z,fz,hj,rfl,rfl,hZ,hO,hfz,hx1,hx2,hb⟩:=hrel;have HO:=aj hO;have Dv:=aj hx1;have OH:=aj hx2;have HB:=aj hb;have hsr:=hx2.lt;clear hO sJ jZ HB0 fH xU;by_cases hlt:j<r.txt.length
  ·rcases (HV.out.below hb).txt.NM with h0|⟨tb,tq,hta,htc⟩
   ·omega
   have hck:=htc j hlt;have hlen:(r.txt.getD j []).length≤1048576:=by have:=NK r.txt hlt;omega
   have hC:=clone_any (r.txt.getD j []) wr hlen;have HN:Hid (r.txt.take (j+1)=Z++[r.txt.getD j []]):=by rw[Hid,hZ.out,List.take_succ_eq_append_getElem hlt];simp[List.getD,hlt]
   have HZl:Hid (Z.length≤1000000):=by rw[Hid,hZ.out,List.length_take];omega
   have k0:(0:Int)≤(j:Int):=by omega
   have k1:(j:Int)<(r.txt.length:Int):=by omega
   rw[hta];clear hx1 hx2 hb htc hZ hlen;generalize r.txt.getD j []=t at *;go_wp2_with (first|(go_at_call 93;refine hC.mono ?_;rintro e w1 ⟨rfl,hb1⟩;have aA2:Hid (Bx w1 w.heap.size 44 #[.int .i64 r.ver,.slice A.ta r.txt.length A.tc,.slice A.ga r.got.length A.gc,.slice A.sa r.ak.length A.sc,.bool r.wed,.bool r.aB,.int .i64 r.aC,.slice A.ma r.aA.length A.mc]):=Dv.out.below hb1;have aA3:Hid (Bx w1 (w.heap.size+1) 44 #[.int .i64 0,.slice none 0 0,.slice none 0 0,.slice none 0 0,.bool false,.bool false,.int .i64 0,.slice none 0 0]):=OH.out.below hb1;have HB1:Hid (Below w.heap.size w w1):=HB.out.trans (hb1.mono HB.out.size);have hs1:=hb1.size;obtain⟨a',c',ea,hA⟩:=zy t (aI.cZ HO.out hb1) HZl.out;cases ea;clear hb1 hck)|(at_builtin;refine aZ (by rfl) _ _ _ _ (by rfl) _ _ (by rfl) (by rfl) hA ⟨rfl,rfl,rfl,rfl⟩ ?_;rintro v1 w2 ⟨a1,e1,f1,rfl,q1,q2,q3⟩;have pY:Hid (aI.ow w2 (lM (Z++[t])) (.slice a1 (Z.length+1) e1) f1):=q1;have yK:Hid (∀ b,f1 b→fz b∨w1.heap.size≤b):=q2;have yL:Hid (aO fz w1 w2):=q3;clear q1 q2 q3 hA))
   have HL:Hid ((Z++[t]).length=Z.length+1):=by rw[Hid,List.length_append];rfl
   go_roundw
   case rel=>exact⟨j+1,a1,e1,Z++[t],f1,by omega,by go_num,by rw[HL.out],HN.out.symm,by rw[HL.out];exact pY.out,fun b hb=>(yK.out b hb).elim (hfz b) (fun h=>by omega),by rw[← hta];exact aA2.out.wrt yL.out (fun k=>by have:=hfz _ k;omega),aA3.out.wrt yL.out (fun k=>by have:=hfz _ k;omega),yL.out.below HB1.out HB1.out.size (fun b hb=>by have:=hfz b hb;omega)⟩
   case measure=>simp[intOf];omega
  ·have k1:¬ ((j:Int)<(r.txt.length:Int)):=by omega
   have ej:j=r.txt.length:=by omega
   have eZ:Z=r.txt:=by rw[hZ.out,ej,List.take_length]
   subst eZ;have kV:=HV.out.below hb
   have KS:∀ X,Below wr.heap.size wr X→X.cell? ⟨w.heap.size,2,none⟩=some (.slice A.ga r.got.length A.gc)∧X.cell? ⟨w.heap.size,3,none⟩=some (.slice A.sa r.ak.length A.sc)∧X.cell? ⟨w.heap.size,7,none⟩=some (.slice A.ma r.aA.length A.mc):=fun X hX=>by
    obtain⟨⟨d0,d1,d2,d3⟩,d4,d5,d6,d7⟩:=Bx.r8 (Dv.out.below hX);exact⟨d2,d3,d7⟩
   have hbd:=(Same.drewN wr 1).below;have Zn:=yV A.ga A.gc r.got wr.drew (kV.below hbd).got.vec (by omega)
   have HC2:Hid (∀ X,Below wr.heap.size wr X→Calls Tryz.prog 167 #[.slice A.sa r.ak.length A.sc] X fun e w'=>J7 X w' e r.ak):=fun X hX=>yV A.sa A.sc r.ak X (kV.below hX).ak.vec (by omega)
   have HC3:Hid (∀ X,Below wr.heap.size wr X→Calls Tryz.prog 167 #[.slice A.ma r.aA.length A.mc] X fun e w'=>J7 X w' e r.aA):=fun X hX=>yV A.ma A.mc r.aA X (kV.below hX).aA.vec (by omega)
   have Aa:Hid (∃ gb go,A.ga=some ⟨gb,go,none⟩∧gb<w.heap.size):=by
    rcases HV.out.got.vec.2.2 with h|⟨gb,go,e,h⟩
    ·omega
    ·exact⟨gb,go,e,World.block_lt_of_cell? _ _ (h 0 hg)⟩
   have hwr:=HB.out.size;clear kV hx1 hx2 hb hZ hs ej HV;go_wp2_with fail
   refine jE (S:=fun X:World=>X.cell? ⟨w.heap.size,2,none⟩=some (.slice A.ga r.got.length A.gc)∧X.cell? ⟨w.heap.size,3,none⟩=some (.slice A.sa r.ak.length A.sc)∧X.cell? ⟨w.heap.size,7,none⟩=some (.slice A.ma r.aA.length A.mc)) 13 bH ((KS _ hbd)) fun hHeld=>?_
   refine aY (i:=0) rfl hHeld ?_;refine aY (i:=1) rfl hHeld ?_;refine aY (i:=2) rfl hHeld ?_;refine aY (i:=4) rfl hHeld ?_;refine aY (i:=5) rfl hHeld ?_;refine aY (i:=7) rfl hHeld ?_;refine aY (i:=8) rfl hHeld ?_;refine aS (i:=10) rfl ?_;refine dI (i:=3) rfl fun K hK=>?_
   go_simp
   go_at_call 167
   refine Zn.mono ?_;rintro e V1 ⟨a1,e1,rfl,f1,o1,p1,b1⟩;have jU:=hbd.trans (b1.mono hbd.size);refine hK.out _ _ (KS _ jU) (fun aK=>?_)
   clear hK hHeld;have hHeld:=aK;try simp only[dw]
   refine dI (i:=6) rfl fun K hK=>?_
   go_simp
   go_at_call 167
   refine (HC2.out V1 jU).mono ?_;rintro e V2 ⟨a2,e2,rfl,f2,o2,p2,b2⟩;have Gt:=jU.trans (b2.mono jU.size);refine hK.out _ _ (KS _ Gt) (fun aK=>?_)
   clear hK hHeld;have hHeld:=aK;try simp only[dw]
   refine dI (i:=9) rfl fun K hK=>?_
   go_simp
   go_at_call 167
   refine (HC3.out V2 Gt).mono ?_;rintro e V3 ⟨a3,e3,rfl,f3,o3,p3,b3⟩;have Ep:=Gt.trans (b3.mono Gt.size);refine hK.out _ _ (KS _ Ep) (fun aK=>?_)
   clear hK hHeld;have hHeld:=aK;try simp only[dw]
   have Zo:=Dv.out.below Ep;have OJ:Bx (V3.setCell ⟨w.heap.size,1,none⟩ (.slice a r.txt.length cc)) w.heap.size 44 #[.int .i64 r.ver,.slice a r.txt.length cc,.slice A.ga r.got.length A.gc,.slice A.sa r.ak.length A.sc,.bool r.wed,.bool r.aB,.int .i64 r.aC,.slice A.ma r.aA.length A.mc]:=by simpa using Zo.iV 1 (.slice a r.txt.length cc)
   have BA:Bx ((V3.setCell ⟨w.heap.size,1,none⟩ (.slice a r.txt.length cc)).setCell ⟨w.heap.size,2,none⟩ (.slice a1 r.got.length e1)) w.heap.size 44 #[.int .i64 r.ver,.slice a r.txt.length cc,.slice a1 r.got.length e1,.slice A.sa r.ak.length A.sc,.bool r.wed,.bool r.aB,.int .i64 r.aC,.slice A.ma r.aA.length A.mc]:=by simpa using OJ.iV 2 (.slice a1 r.got.length e1)
   have EY:Bx (((V3.setCell ⟨w.heap.size,1,none⟩ (.slice a r.txt.length cc)).setCell ⟨w.heap.size,2,none⟩ (.slice a1 r.got.length e1)).setCell ⟨w.heap.size,3,none⟩ (.slice a2 r.ak.length e2)) w.heap.size 44 #[.int .i64 r.ver,.slice a r.txt.length cc,.slice a1 r.got.length e1,.slice a2 r.ak.length e2,.bool r.wed,.bool r.aB,.int .i64 r.aC,.slice A.ma r.aA.length A.mc]:=by simpa using BA.iV 3 (.slice a2 r.ak.length e2)
   have TW:Bx ((((V3.setCell ⟨w.heap.size,1,none⟩ (.slice a r.txt.length cc)).setCell ⟨w.heap.size,2,none⟩ (.slice a1 r.got.length e1)).setCell ⟨w.heap.size,3,none⟩ (.slice a2 r.ak.length e2)).setCell ⟨w.heap.size,7,none⟩ (.slice a3 r.aA.length e3)) w.heap.size 44 #[.int .i64 r.ver,.slice a r.txt.length cc,.slice a1 r.got.length e1,.slice a2 r.ak.length e2,.bool r.wed,.bool r.aB,.int .i64 r.aC,.slice a3 r.aA.length e3]:=by simpa using EY.iV 7 (.slice a3 r.aA.length e3)
   have hs3:=Ep.size;have aC9:=b2.size;have aD0:=b3.size;have hs2:=Gt.size;have hs1:=jU.size;have Zp:aO (fun x=>x=w.heap.size) V3 ((((V3.setCell ⟨w.heap.size,1,none⟩ (.slice a r.txt.length cc)).setCell ⟨w.heap.size,2,none⟩ (.slice a1 r.got.length e1)).setCell ⟨w.heap.size,3,none⟩ (.slice a2 r.ak.length e2)).setCell ⟨w.heap.size,7,none⟩ (.slice a3 r.aA.length e3)):=(((aO.set V3 w.heap.size 1 _).trans (aO.set _ w.heap.size 2 _) (fun _ _ h=>h)).trans (aO.set _ w.heap.size 3 _) (fun _ _ h=>h)).trans (aO.set _ w.heap.size 7 _) (fun _ _ h=>h)
   have RI:=OH.out.below Ep
   have LK:Hid (∀ X:World,X.cell? ⟨w.heap.size,2,none⟩=some (.slice a1 r.got.length e1)→¬ (X.cell? ⟨w.heap.size,2,none⟩=some (.slice A.ga r.got.length A.gc)∧X.cell? ⟨w.heap.size,3,none⟩=some (.slice A.sa r.ak.length A.sc)∧X.cell? ⟨w.heap.size,7,none⟩=some (.slice A.ma r.aA.length A.mc))):=fun X h hk=>by
    have e:=Option.some.inj (h.symm.trans hk.1);obtain⟨g1,q1,k1,e',hf1,_⟩:=jh o1 hg;obtain⟨gb,go,hga,hlt⟩:=Aa.out;rw[hga] at e;rw[e] at e'
    cases e'
    have:=p1 _ hf1;have hd:wr.drew.heap.size=wr.heap.size:=rfl;omega
   have HFin:Hid (Bx ((((V3.setCell ⟨w.heap.size,1,none⟩ (.slice a r.txt.length cc)).setCell ⟨w.heap.size,2,none⟩ (.slice a1 r.got.length e1)).setCell ⟨w.heap.size,3,none⟩ (.slice a2 r.ak.length e2)).setCell ⟨w.heap.size,7,none⟩ (.slice a3 r.aA.length e3)) w.heap.size 44 #[.int .i64 r.ver,.slice a r.txt.length cc,.slice a1 r.got.length e1,.slice a2 r.ak.length e2,.bool r.wed,.bool r.aB,.int .i64 r.aC,.slice a3 r.aA.length e3]∧Bx ((((V3.setCell ⟨w.heap.size,1,none⟩ (.slice a r.txt.length cc)).setCell ⟨w.heap.size,2,none⟩ (.slice a1 r.got.length e1)).setCell ⟨w.heap.size,3,none⟩ (.slice a2 r.ak.length e2)).setCell ⟨w.heap.size,7,none⟩ (.slice a3 r.aA.length e3)) (w.heap.size+1) 44 #[.int .i64 0,.slice none 0 0,.slice none 0 0,.slice none 0 0,.bool false,.bool false,.int .i64 0,.slice none 0 0]∧∃ f,bG ((((V3.setCell ⟨w.heap.size,1,none⟩ (.slice a r.txt.length cc)).setCell ⟨w.heap.size,2,none⟩ (.slice a1 r.got.length e1)).setCell ⟨w.heap.size,3,none⟩ (.slice a2 r.ak.length e2)).setCell ⟨w.heap.size,7,none⟩ (.slice a3 r.aA.length e3)) (fM r) (fC ⟨a,cc,a1,e1,a2,e2,a3,e3⟩ r) f∧(∀ b,f b→w.heap.size+1+1≤b)∧Below w.heap.size w ((((V3.setCell ⟨w.heap.size,1,none⟩ (.slice a r.txt.length cc)).setCell ⟨w.heap.size,2,none⟩ (.slice a1 r.got.length e1)).setCell ⟨w.heap.size,3,none⟩ (.slice a2 r.ak.length e2)).setCell ⟨w.heap.size,7,none⟩ (.slice a3 r.aA.length e3))):=by
    have hd:wr.drew.heap.size=wr.heap.size:=rfl;have q0:=aI.cZ HO.out Ep;have q1:=aI.cZ (aI.cZ o1 b2) b3;have q2:=aI.cZ o2 b3;have l0:=aI.iT HO.out;have l1:=aI.iT o1;have l2:=aI.iT o2
    have hall:∀ b,(fz b∨f1 b∨f2 b∨f3 b)→w.heap.size+1+1≤b:=by
     rintro b (k|k|k|k)
     ·exact hfz b k
     ·have:=p1 b k;omega
     ·have:=p2 b k;omega
     ·have:=p3 b k;omega
    have hL := Vh q0 q1 q2 o3 (fun b k k' => by
     have:=l0 b k;rcases k' with k'|k'|k'
     ·have:=p1 b k';omega
     ·have:=p2 b k';omega
     ·have:=p3 b k';omega) (fun b k k'=>by
     have:=l1 b k;rcases k' with k'|k'
     ·have:=p2 b k';omega
     ·have:=p3 b k';omega) (fun b k k'=>by
     have:=l2 b k;have:=p3 b k'
     omega)
    have hB3:=HB.out.trans (Ep.mono HB.out.size);exact⟨TW,RI.wrt Zp (fun e=>by omega),_,bP hL Zp (fun b hb e=>by have:=hall b hb;omega),hall,Zp.below hB3 hB3.size (fun b e=>by omega)⟩
   have x1:=Zo.at 1 (v:=.slice A.ta r.txt.length A.tc) rfl;have y1:=Zo.f 1;have x2:=OJ.at 2 (v:=.slice A.ga r.got.length A.gc) rfl;have y2:=OJ.f 2;have x3:=BA.at 3 (v:=.slice A.sa r.ak.length A.sc) rfl;have y3:=BA.f 3;have x7:=EY.at 7 (v:=.slice A.ma r.aA.length A.mc) rfl;have y7:=EY.f 7;have n5:=LK.out _ (BA.at 2 (v:=.slice a1 r.got.length e1) rfl);have n6:=LK.out _ (EY.at 2 (v:=.slice a1 r.got.length e1) rfl);have k4:(V3.setCell ⟨w.heap.size,1,none⟩ (.slice a r.txt.length cc)).cell? ⟨w.heap.size,2,none⟩=some (.slice A.ga r.got.length A.gc)∧(V3.setCell ⟨w.heap.size,1,none⟩ (.slice a r.txt.length cc)).cell? ⟨w.heap.size,3,none⟩=some (.slice A.sa r.ak.length A.sc)∧(V3.setCell ⟨w.heap.size,1,none⟩ (.slice a r.txt.length cc)).cell? ⟨w.heap.size,7,none⟩=some (.slice A.ma r.aA.length A.mc):=⟨x2,OJ.at 3 (v:=.slice A.sa r.ak.length A.sc) rfl,OJ.at 7 (v:=.slice A.ma r.aA.length A.mc) rfl⟩;clear o1 o2 o3 p1 p2 p3 b1 b2 b3 Zo OJ BA EY TW Zp RI LK Dv OH HC2 HC3 jU Gt Ep hbd KS Aa;refine dI (i:=11) rfl fun K hK=>?_
   go_simp;refine hK.out _ _ k4 (fun aK=>?_)
   clear hK hHeld;have hHeld:=aK;try simp only[dw]
   refine aS (i:=12) rfl ?_;refine ad3 rfl (by kernel_rfl) (fun K hK=>?_)
   go_simp;refine hK.out _ _ ?_;try simp only[dw]
   refine aS (i:=14) rfl ?_;refine OG (i:=15) n5 rfl (by kernel_rfl) (fun K hK=>?_)
   go_simp;refine hK.out _ _ ?_;try simp only[dw]
   refine aS (i:=16) rfl ?_;refine OG (i:=17) n6 rfl (by kernel_rfl) (fun K hK=>?_)
   go_simp;refine hK.out _ _ ?_;try simp only[dw]
   refine pX (by kernel_rfl) ?_
   clear hHeld x1 x2 x3 x7 y1 y2 y3 y7 n5 n6 k4;obtain⟨TW,Ot,f,hL7,hf7,Ad⟩:=HFin.out;generalize (((V3.setCell ⟨w.heap.size,1,none⟩ (.slice a r.txt.length cc)).setCell ⟨w.heap.size,2,none⟩ (.slice a1 r.got.length e1)).setCell ⟨w.heap.size,3,none⟩ (.slice a2 r.ak.length e2)).setCell ⟨w.heap.size,7,none⟩ (.slice a3 r.aA.length e3)=W7 at *;have HN:Hid (∀ {z0 z1 z2 z3 z4 z5 z6 z7:Value},iL w ((((((((W7.setCell ⟨w.heap.size+1,0,none⟩ z0).setCell ⟨w.heap.size+1,1,none⟩ z1).setCell ⟨w.heap.size+1,2,none⟩ z2).setCell ⟨w.heap.size+1,3,none⟩ z3).setCell ⟨w.heap.size+1,4,none⟩ z4).setCell ⟨w.heap.size+1,5,none⟩ z5).setCell ⟨w.heap.size+1,6,none⟩ z6).setCell ⟨w.heap.size+1,7,none⟩ z7) (fM r) (fC ⟨a,cc,a1,e1,a2,e2,a3,e3⟩ r)):=fun {z0 z1 z2 z3 z4 z5 z6 z7}=>⟨f,bP hL7 (FZ W7 (w.heap.size+1)) (fun b hb e=>by have:=hf7 b hb;omega),fun b hb=>by have:=hf7 b hb;omega,(FZ W7 (w.heap.size+1)).below Ad Ad.size (fun b e=>by omega)⟩
   obtain⟨⟨x0,x1,x2,x3⟩,x4,x5,x6,x7⟩:=Bx.r8 TW;obtain⟨⟨z0,z1,z2,z3⟩,z4,z5,z6,z7⟩:=Bx.r8 Ot;obtain⟨⟨f0,f1',f2',f3'⟩,f4,f5,f6,f7⟩:=Ot.f8;clear HFin TW Ot hL7 hf7 Ad;go_wp2;refine bodyPost_ret (v:=bV ⟨a,cc,a1,e1,a2,e2,a3,e3⟩ r) (by simp[results,Tryz.results141,go_sem,bV,bD, *]) rfl ?_
   exact⟨_,rfl,HN.out⟩
end
end Go.Proofs.YtafimeakbdmkjaaGreat