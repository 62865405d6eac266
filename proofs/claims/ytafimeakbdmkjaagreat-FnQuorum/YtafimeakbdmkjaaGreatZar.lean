/-
  Texts in one.
-/
import Derived.Test.YtafimeakbdmkjaaGreatZaa
import Derived.Test.YtafimeakbdmkjaaGreatZaq
import Derived.Test.YtafimeakbdmkjaaGreatZaf
import Derived.Test.YtafimeakbdmkjaaGreatZao
import Derived.Test.YtafimeakbdmkjaaGreatZap
import Derived.Test.YtafimeakbdmkjaaGreatZag
import Derived.Test.YtafimeakbdmkjaaGreatZae
import Derived.Test.YtafimeakbdmkjaaGreatZah
import Derived.Test.YtafimeakbdmkjaaGreatZam
namespace Go.Proofs.YtafimeakbdmkjaaGreat
set_option linter.unusedVariables false
set_option linter.unusedSimpArgs false
open Go.RowKit Go.Sort
set_option maxRecDepth 100000
set_option maxHeartbeats 12800000
theorem OT {r:Rw} {n:Nat} (h:dL r n):oM r∧iy r≤1000:=by
 have h5:=h.n5;have hv:=h.ver;have hc:=h.c8;refine⟨?_,by omega⟩
 unfold oM eH
 cases hr:r.aB with
 | false=>have:=(h.not hr).1;exact⟨by omega,by omega⟩
 | true=>have:=(h.aB hr).2.1;exact⟨by omega,by omega⟩
theorem WU {X:World} {b off c:Nat} {L:List Mb} {f0:Fp} (h:aI.ow X (dA 5 gW L) (.slice (some ⟨b,off,none⟩) L.length c) f0) {a k:Nat} {m:Mb} (ha:L[a]?=some m) (hk:k<m.rows.length) (hf:lV (ah m.rows k)) (h6:oM (ah m.rows k)) (hs:iy (ah m.rows k)≤1048576):∃ rb ro rc Ak,f0 b∧f0 rb∧X.cell? ⟨b,off+a*5+2,none⟩=some (.slice (some ⟨rb,ro,none⟩) m.rows.length rc) ∧
  C8 X rb (ro+k*8) (.int .i64 (ah m.rows k).ver) (.slice Ak.ta (ah m.rows k).txt.length Ak.tc) (.slice Ak.ga (ah m.rows k).got.length Ak.gc) (.slice Ak.sa (ah m.rows k).ak.length Ak.sc) (.bool (ah m.rows k).wed) (.bool (ah m.rows k).aB) (.int .i64 (ah m.rows k).aC) (.slice Ak.ma (ah m.rows k).aA.length Ak.mc)∧iM X Ak (ah m.rows k):=by
 obtain⟨g',off',f,e,h1,h2,h3,_⟩:=vZ sU (by omega) h ha
 cases e
 obtain⟨rb,ro,rc,f',r1,_,r3,r4,⟨vs,hpc,hov,_⟩,_⟩:=h3.el (F:=eY) gI (by omega) (j:=2) (L:=m.rows) rfl (dW hk)
 obtain⟨Ak,rfl,hl⟩:=rU hov;have jm:(bD Ak (ah m.rows k)).toList.length=8:=rfl;have q:=hpc.cell;exact⟨rb,ro,rc,Ak,h1,h2 _ r3,r1,⟨⟨q 0 (by rw[jm];omega),q 1 (by rw[jm];omega),q 2 (by rw[jm];omega),q 3 (by rw[jm];omega)⟩,q 4 (by rw[jm];omega),q 5 (by rw[jm];omega),q 6 (by rw[jm];omega),q 7 (by rw[jm];omega)⟩,yI (wP hl (lo:=0) (fun b _=>Nat.zero_le b)) hf h6 hs⟩
theorem OU (B o:Nat) (g:Gr) (n a b:Nat) (fp:Fp) (w:World) (h:dN w B o (dB g) fp) (ok:OkG g n) (ha:a<n) :
  Calls Tryz.prog 110 #[.pointer (some ⟨B,o,none⟩),.int .i64 (a:Int),.int .i64 (b:Int)] w fun e w'=>e=.returned (.tuple #[])∧bC w w' B o (dB (fZ g (a:Int) (b:Int))) fp:=by
 have bH:=dH;have fG:=ok.n5;have hal:a<g.mem.length:=by rw[ok.ml];exact ha
 have M:=ok.mem a ha;have har:a<(aN g a).rows.length:=by rw[M.len];exact ha
 have R:=M.ok a ha;have Bd:=ok.lX;obtain⟨bb,off,c,G0⟩:=Gw.start h (by omega)
 obtain⟨u,f,f0,hu,hfz,how,hfB,hBl,hfl,hmem,hap,hput⟩:=G0.full;have how':=how;obtain⟨la,lc,_,_,_,rfl,_⟩:=how';have r64:=OT R;obtain⟨rb,ro,rc,Ak,p1,p2,p3,⟨⟨d0,d1,d2,d3⟩,d4,d5,d6,d7⟩,hrs⟩:=WU hmem (vS hal) har R.fit r64.1 (by have:=r64.2;omega)
 have hg0:0<(ah (aN g a).rows a).got.length:=by rw[R.gl];omega
 have hsr:=r64.2;have c0:=G0.mem;have mP:=aj G0;have wH:=aj hput;have kL:=aj how;have EO:=aj hfl;have JQ:Hid (¬ f B∧¬ f bb∧¬ f rb):=⟨hfB,(hap _ p1).1,(hap _ p2).1⟩;have JR:Hid (fZ g (a:Int) (b:Int)=if g.aG.length<200 then { g with aG:=g.aG++[⟨(a:Int),(b:Int),ah (aN g a).rows a⟩] } else g):=by rw[Hid,fZ];simp only[Int.toNat_natCast]
 have RX:=aj hrs;clear hput how hfl hap hmem h hrs p1 p2 hfB G0 r64;by_cases hlt:g.aG.length<200;rotate_left
 ·have g2:¬ ((g.aG.length:Int)<200):=by omega
  have HZ:Hid (fZ g (a:Int) (b:Int)=g):=by rw[Hid,JR.out,if_neg hlt]
  clear d0 d1 d2 d3 d4 d5 d6 d7 p3;go_enter Tryz.func110,Tryz.ntmps110
  go_wp2;go_end0;exact⟨rfl,by rw[HZ.out];exact mP.out.bU⟩
 have g2:(g.aG.length:Int)<200:=by omega
 have HZ:Hid (fZ g (a:Int) (b:Int)={ g with aG:=g.aG++[⟨(a:Int),(b:Int),ah (aN g a).rows a⟩] }):=by rw[Hid,JR.out,if_pos hlt]
 have a0:(0:Int)≤(a:Int):=by omega
 have a1:(a:Int)<(g.mem.length:Int):=by omega
 have a2:(a:Int)<((aN g a).rows.length:Int):=by omega
 have hS0:PS B o bb (off+a*5+2) rb (ro+a*8) (.slice la g.aG.length lc) (.slice (some ⟨bb,off,none⟩) g.mem.length c) (.slice (some ⟨rb,ro,none⟩) (aN g a).rows.length rc) (.int .i64 (ah (aN g a).rows a).ver) (.slice Ak.ta (ah (aN g a).rows a).txt.length Ak.tc) (.slice Ak.ga (ah (aN g a).rows a).got.length Ak.gc) (.slice Ak.sa (ah (aN g a).rows a).ak.length Ak.sc) (.bool (ah (aN g a).rows a).wed) (.bool (ah (aN g a).rows a).aB) (.int .i64 (ah (aN g a).rows a).aC) (.slice Ak.ma (ah (aN g a).rows a).aA.length Ak.mc) w:=⟨hu,c0,p3,d0,d1,d2,d3,d4,d5,d6,d7⟩;have JU:=aj hS0;generalize hrr:ah (aN g a).rows a=r at *;have hbd:=(Same.drewN w 1).below;clear d0 d1 d2 d3 d4 d5 d6 d7 p3 c0 JR hrr M R;go_enter Tryz.func110,Tryz.ntmps110
 go_wp2_with fail
 clear hu;refine jE (S:=PS B o bb (off+a*5+2) rb (ro+a*8) (.slice la g.aG.length lc) (.slice (some ⟨bb,off,none⟩) g.mem.length c) (.slice (some ⟨rb,ro,none⟩) (aN g a).rows.length rc) (.int .i64 r.ver) (.slice Ak.ta r.txt.length Ak.tc) (.slice Ak.ga r.got.length Ak.gc) (.slice Ak.sa r.ak.length Ak.sc) (.bool r.wed) (.bool r.aB) (.int .i64 r.aC) (.slice Ak.ma r.aA.length Ak.mc)) 24 bH ((hS0.below hbd)) fun hHeld=>?_
 refine aS (i:=0) rfl ?_;refine aS (i:=1) rfl ?_;refine aS (i:=2) rfl ?_;refine aS (i:=3) rfl ?_;refine aY (i:=4) rfl hHeld ?_;refine aS (i:=5) rfl ?_;refine aS (i:=6) rfl ?_;refine aS (i:=7) rfl ?_;refine aS (i:=8) rfl ?_;refine aS (i:=9) rfl ?_;refine aY (i:=10) rfl hHeld ?_;refine aS (i:=11) rfl ?_;refine aS (i:=12) rfl ?_;refine aS (i:=13) rfl ?_;refine aY (i:=14) rfl hHeld ?_;refine aS (i:=15) rfl ?_;refine aS (i:=16) rfl ?_;refine aY (i:=17) rfl hHeld ?_;refine dI (i:=18) rfl fun K hK=>?_
 go_simp
 go_at_call 141
 refine (yX Ak r _ (RX.out.below hbd) hg0 hsr).mono ?_;rintro e w1 ⟨Ar,rfl,fr,hr1,hr2,hr3⟩;have hb1:=hbd.trans (hr3.mono hbd.size);have hA:=Gw.Qk (x:=⟨(a:Int),(b:Int),r⟩) kL.out EO.out wH.out hb1 hr1 (fun b hb=>hr2 b hb) (by omega)
 refine hK.out _ _ (JU.out.below hb1) (fun aK=>?_)
 clear hK hHeld;have hHeld:=aK;try simp only[dw]
 unfold bV;unfold bD;unfold xI at hA;refine aS (i:=19) rfl ?_;refine dI (i:=20) rfl fun K hK=>?_
 go_simp;refine hK.out _ _ (JU.out.below (hb1.trans ((aF w1 _).mono hb1.size))) (fun aK=>?_)
 clear hK hHeld;have hHeld:=aK;try simp only[dw]
 refine dI (i:=21) rfl fun K hK=>?_
 refine gQ (by rfl) _ _ _ _ (by rfl) (.slice la g.aG.length lc) _ (by rfl) (by rfl) hA ⟨rfl,rfl,rfl,rfl⟩ ?_
 rintro v9 w4 ⟨a9,c9,rfl,hw4,q1,q2,Bf⟩;refine hK.out _ _ (JU.out.wrt hw4 JQ.out.1 JQ.out.2.1 JQ.out.2.2) (fun aK=>?_)
 clear hK hHeld;have hHeld:=aK;try simp only[dw]
 refine aS (i:=22) rfl ?_;refine aS (i:=23) rfl ?_;refine lQ rfl fun K hK=>?_
 go_simp;refine hK.out _ _ ?_;have HG9:=aj Bf;clear Bf hA hr1 hr2 hr3 q1 q2 hw4;generalize w4.setCell ⟨B,o+2,none⟩ (.slice a9 (g.aG.length+1) c9)=W9 at *;go_wp2;go_end0;exact⟨rfl,by rw[HZ.out];exact HG9.out.bU⟩
theorem ae2 (B o:Nat) (g:Gr) (n a:Nat) (fp:Fp) (w:World) (h:dN w B o (dB g) fp) (ok:OkG g n) (ha:a<n) :
  Calls Tryz.prog 71 #[.pointer (some ⟨B,o,none⟩),.int .i64 (a:Int)] w fun e w'=>e=.returned (.tuple #[])∧bC w w' B o (dB (rO g (a:Int))) fp:=by
 have fG:=ok.n5;have HZ:Hid (rO g (a:Int)=kM g (a:Int) n):=by rw[Hid,rO,kM,ok.ml]
 have H0:=aj (bC.refl h);have cO:=aj (Gg ok ha)
 have HP:Hid (∀ (k:Nat) (wr:World),k<n→bC w wr B o (dB (kM g (a:Int) k)) fp→Calls Tryz.prog 110 #[.pointer (some ⟨B,o,none⟩),.int .i64 (a:Int),.int .i64 (k:Int)] wr fun e w'=>e=.returned (.tuple #[])∧bC w w' B o (dB (fZ (kM g (a:Int) k) (a:Int) (k:Int))) fp):=fun k wr hk hb=>by
  obtain⟨dD,hp,_,hgo⟩:=hb.next;exact (OU B o _ n a k dD wr hp (cO.out k (by omega)) ha).mono (fun e w' ⟨e1,e2⟩=>⟨e1,hgo _ _ rfl e2⟩)
 obtain⟨bb,off,c,G0⟩:=Gw.start h (by rw[ok.ml];omega)
 have c0:=G0.mem;rw[ok.ml] at c0;clear h G0;go_enter Tryz.func71,Tryz.ntmps71
 go_wp2_with fail
 clear c0
 go_loopw [10] (fun i wr=>∃ k:Nat,k≤n∧i=.int .i64 (k:Int)∧bC w wr B o (dB (kM g (a:Int) k)) fp) (fun i _=>n-(intOf i).toNat)
 case atStart=>exact⟨0,Nat.zero_le _,rfl,H0.out⟩
 case round =>
  obtain⟨k,hk,rfl,hb⟩:=hrel;have HB:=aj hb;clear hb;by_cases hlt:k<n
  ·have k1:(k:Int)<(n:Int):=by omega
   have RZ:=HP.out k wr hlt HB.out;by_cases hka:(k:Int)=(a:Int)
   ·have g1:((k:Int) != (a:Int))=false:=by simpa using hka
    have HN:Hid (bC w wr B o (dB (kM g (a:Int) (k+1))) fp):=by rw[Hid,uG,if_pos hka];exact HB.out
    clear hka RZ;go_wp2;go_roundw
    case rel=>exact⟨k+1,by omega,by go_num,HN.out⟩
    case measure=>simp[intOf];omega
   ·have g1:((k:Int) != (a:Int))=true:=by simpa using hka
    have HM:Hid (fZ (kM g (a:Int) k) (a:Int) (k:Int)=kM g (a:Int) (k+1)):=by rw[Hid,uG,if_neg hka]
    clear hka;go_wp2_with (go_at_call 110;refine RZ.mono ?_;rintro e w1 ⟨rfl,hb1⟩;have HB1:Hid (bC w w1 B o (dB (kM g (a:Int) (k+1))) fp):=(by rw[Hid,← HM.out];exact hb1);clear hb1)
    go_roundw
    case rel=>exact⟨k+1,by omega,by go_num,HB1.out⟩
    case measure=>simp[intOf];omega
  ·have k1:¬ ((k:Int)<(n:Int)):=by omega
   have e:k=n:=by omega
   have HF:Hid (bC w wr B o (dB (rO g (a:Int))) fp):=by rw[Hid,HZ.out,← e];exact HB.out
   clear e;go_wp2;go_end0;exact⟨rfl,HF.out⟩
theorem FH {m:Mb} {i n:Nat} (h:dO m i n):BI m:=by
 have h5:=h.n5;have hi:=h.lt;refine⟨by rw[h.hid];exact⟨by omega,by omega⟩,by rw[h.hn];exact⟨by omega,by omega⟩,fun r hr=>?_⟩
 have ok:=h.rowOk r hr;have hv:=ok.ver
 cases e:r.aB with
 | true=>have:=(ok.aB e).2.1;exact⟨⟨by omega,by omega⟩,by omega,by omega⟩
 | false=>rw[oM,(ok.not e).1];exact⟨⟨by omega,by omega⟩,by omega,by omega⟩
theorem Ud {g:Gr} {n:Nat} (h:OkG g n):Wp g:=by
 refine⟨fun m hm=>?_,fun x hx=>?_⟩
 ·obtain⟨k,hk,rfl⟩:=List.mem_iff_getElem.1 hm
  have:=h.mem k (by rw[← h.ml];exact hk)
  have e:aN g k=g.mem[k]:=by simp[aN,List.getD,hk]
  rw[e] at this;exact FH this
 ·obtain⟨a,b,e1,e2,h1,h2,_,ok⟩:=h.iP x hx
  have h5:=h.n5;have hv:=ok.ver;refine⟨by rw[e1];exact⟨by omega,by omega⟩,by rw[e2];exact⟨by omega,by omega⟩, ?_⟩
  cases e:x.row.aB with
  | true=>have:=(ok.aB e).2.1;exact⟨⟨by omega,by omega⟩,by omega,by omega⟩
  | false=>rw[oM,(ok.not e).1];exact⟨⟨by omega,by omega⟩,by omega,by omega⟩
theorem WV {i n:Nat} {ak:List Int} {j:Nat} (hj:j<n) (hi:(i:Int)∉ak):(decide ((j:Int)=(i:Int))||jM i n ak (j:Int))=!decide ((j:Int)∈ak):=by
 by_cases e:j=i
 ·subst e
  simp[hi]
 ·have e2:inB (j:Int) 0 ((n:Int)-1)=true:=dP.2 (by omega)
  have e3:¬ ((j:Int)=(i:Int)):=by omega
  rw[jM,e2,decide_eq_true e3,decide_eq_false e3];simp
theorem Gv (w0:World) (B:Nat) (m:Mb) (i n:Nat) (fp:Fp) (g off c:Nat) (w:World) (M:Iw w0 w B m fp g off c) (ok:dO m i n) :
  Calls Tryz.prog 168 #[.pointer (some ⟨B,0,none⟩)] w fun e w'=>J7 w w' e (lN (aP n (ah m.rows i).ak)):=by
 have hil:i<m.rows.length:=by rw[ok.len];exact ok.lt
 have HM:=aj M;have hr:=ok.ok i ok.lt;have fG:=hr.n5;have hln:=ok.len;have hb0:=aF w (.cells #[] 2);have HB0:=aj hb0;have fH:Hid (aI.ow (w.alloc (.cells #[] 2)) (bQ []) (.slice (some ⟨w.heap.size,0,none⟩) 0 0) (fun _=>False)):=fB.2 ⟨_,0,none,rfl,dR.nil _ _ (jG _ _),fun b=>by simp⟩
 have c1:=(M.step hb0).rws;rw[hln] at c1;have hC:=vT B (some ⟨g,off,none⟩) n c _ c1;clear M hb0 c1;go_enter Tryz.func168,Tryz.ntmps168
 go_wp2_with (go_at_call 166;refine hC.mono ?_;rintro e w' ⟨rfl,hw'⟩;rw[hw'];clear hw')
 clear hC;generalize w.alloc (.cells #[] 2)=W0 at *
 go_loopw [3,8] (fun v k wr=>∃ (j:Nat) (a:Option Addr) (cc:Nat) (Z:List Int) (fz:Fp),j≤n∧k=.int .i64 (j:Int)∧v=.slice a Z.length cc∧Hid (Z=lN (aP j (ah m.rows i).ak))∧aI.ow wr (bQ Z) (.slice a Z.length cc) fz∧(∀ b,fz b→w.heap.size≤b)∧Below w.heap.size w wr) (fun _ k _=>n-(intOf k).toNat)
 case atStart=>exact⟨0,some ⟨w.heap.size,0,none⟩,0,[],_,Nat.zero_le _,rfl,rfl,rfl,fH.out,fun b h=>h.elim,HB0.out⟩
 case round =>
  obtain⟨j,a,cc,Z,fz,hj,rfl,rfl,hZ,hO,hfz,hb⟩:=hrel;have M1:=HM.out.step hb;obtain⟨c0,c4⟩:=M1.id';have c2:=M1.rws;rw[ok.hid] at c0;rw[hln] at c2;by_cases hlt:j<n
  ·have k1:(j:Int)<(n:Int):=by omega
   obtain⟨Ak,⟨⟨d0,d1,d2,d3⟩,d4,d5,d6,d7⟩,hrs⟩:=M1.row ok.fit hil;have hOt:=Gq B i n g off c Ak.sa Ak.sc (ah m.rows i).ak (j:Int) wr c0 c2 ok.lt fG.2 d3 hrs.ak hrs.ms;have HO:=aj hO;have HB:=aj hb;have Bq:Z.length≤1000000:=by rw[hZ.out,eP];have:=oP j (ah m.rows i).ak;omega
   have HN:Hid (lN (aP (j+1) (ah m.rows i).ak)=if (j:Int)∈(ah m.rows i).ak then Z else Z++[(j:Int)]):=by
    rw[Hid,hZ.out,ER];by_cases hm:(j:Int)∈(ah m.rows i).ak<;>simp[hm,lN]
   have HOL:=aj (WV hlt ok.self);have wj:wrap64 ((j:Int)+1)=(j:Int)+1:=by unfold wrap64;omega
   clear d0 d1 d2 d3 d4 d5 d6 d7 c2 c4 hrs M1 hO hb;generalize jM i n (ah m.rows i).ak (j:Int)=ob at *;go_upto_region 5 with fail
   go_cut [21] from 11 to 21 (fun v X=>v=.bool (!decide ((j:Int)∈(ah m.rows i).ak))∧Below wr.heap.size wr X)
   case first =>
    by_cases ej:j=i
    ·have e1:((j:Int)==(i:Int))=true:=by simp[ej]
     have HV:Hid ((!decide ((j:Int)∈(ah m.rows i).ak))=true):=by rw[Hid,← HOL.out,ej];simp
     clear ej;go_wp2_with fail
     go_meet
     case rel=>exact⟨by rw[HV.out],Below.refl _ _⟩
    ·have e1:((j:Int)==(i:Int))=false:=by simp;omega
     have HV:Hid ((!decide ((j:Int)∈(ah m.rows i).ak))=ob):=by rw[Hid,← HOL.out,decide_eq_false (by omega)];simp
     clear ej;go_wp2_with (go_at_call 177;refine hOt.mono ?_;rintro e w1 ⟨rfl,hb1⟩;have HB1:Hid (Below wr.heap.size wr w1):=hb1;clear hb1)
     go_meet
     case rel=>exact⟨by rw[HV.out],HB1.out⟩
   case rest =>
    obtain⟨rfl,hBc⟩:=hcut;generalize wc=V at *;have HB1:=aj (HB.out.trans (hBc.mono HB.out.size));clear hOt;by_cases hm:(j:Int)∈(ah m.rows i).ak
    ·have yJ:Hid (aI.ow V (bQ Z) (.slice a Z.length cc) fz):=aI.cZ HO.out hBc
     rw[if_pos hm] at HN;rw[decide_eq_true hm];clear hm hBc;go_wp2;go_roundw
     case rel=>exact⟨j+1,a,cc,Z,fz,by omega,by go_num,rfl,HN.out.symm,yJ.out,hfz,HB1.out⟩
     case measure=>simp[intOf];omega
    ·obtain⟨a',c',ea,hA⟩:=ny (j:Int) (aI.cZ HO.out hBc) Bq
     cases ea
     have hbs:=hBc.size;have ax4:=HB.out.size;rw[if_neg hm] at HN;rw[decide_eq_false hm];clear hm hBc;go_wp2_with (at_builtin;refine aZ (by rfl) _ _ _ _ (by rfl) _ _ (by rfl) (by rfl) hA ⟨rfl,rfl,rfl,rfl⟩ ?_;rintro v1 w1 ⟨a1,e1,f1,rfl,q1,q2,q3⟩;have pY:Hid (aI.ow w1 (bQ (Z++[(j:Int)])) (.slice a1 (Z.length+1) e1) f1):=q1;have yK:Hid (∀ b,f1 b→fz b∨V.heap.size≤b):=q2;have yL:Hid (aO fz V w1):=q3;clear q1 q2 q3 hA)
     have HL:Hid ((Z++[(j:Int)]).length=Z.length+1):=by rw[Hid,List.length_append];rfl
     go_roundw
     case rel=>exact⟨j+1,a1,e1,Z++[(j:Int)],f1,by omega,by go_num,by rw[HL.out],HN.out.symm,by rw[HL.out];exact pY.out,fun b hb=>(yK.out b hb).elim (hfz b) (fun h=>by omega),yL.out.below HB1.out (by omega) (fun b hb=>hfz b hb)⟩
     case measure=>simp[intOf];omega
  ·have k1:¬ ((j:Int)<(n:Int)):=by omega
   have ej:j=n:=by omega
   have HZ:Hid (Z=lN (aP n (ah m.rows i).ak)):=by rw[Hid,hZ.out,ej]
   have HO:Hid (oD w wr (bQ Z) (.slice a Z.length cc)):=⟨fz,hO,hfz,hb⟩;clear ej hO hb M1 c0 c2 c4;go_wp2;go_ret
   rw[← HZ.out];exact⟨a,cc,rfl,HO.out⟩
theorem aq2 {w:World} {A:Ma} {m:Mb} {f:Fp} (h:bG w (fD m) (fE A m) f):bG w (iJ m) (BP A m).toList f:=by
 obtain⟨u1,rD,f1,g1,e1,o1,h2,d1,i1⟩:=h
 cases e1
 obtain⟨u2,uy,f2,g2,e2,o2,h3,d2,i2⟩:=h2
 cases e2
 exact qo ⟨_,_,f1,g1,rfl,o1,⟨_,_,f2,g2,rfl,o2,qo h3,d2,i2⟩,d1,i1⟩
theorem aq3 {w:World} {m:Mb} {us:List Value} {f:Fp} (h:bG w (iJ m) us f):∃ A:Ma,us=(BP A m).toList∧bG w (fD m) (fE A m) f:=by
 obtain⟨us0,rfl,hq1⟩:=lZ h;obtain⟨u1,rD,f1,g1,rfl,o1,h2,d1,i1⟩:=hq1;obtain⟨u2,uy,f2,g2,rfl,o2,h3,d2,i2⟩:=h2;obtain⟨Ju,rfl,⟨rfl,h4⟩⟩:=lZ h3;have NT:=o1;obtain⟨ra,rc,_,_,_,rfl,_⟩:=NT;obtain⟨sa,sc,_,rfl,_⟩:=fB.1 o2;exact⟨⟨ra,rc,sa,sc⟩,rfl,⟨_,_,f1,g1,rfl,o1,⟨_,_,f2,g2,rfl,o2,⟨rfl,h4⟩,d2,i2⟩,d1,i1⟩⟩
theorem dN.c4 {w:World} {B:Nat} {m:Mb} {f:Fp} (h:dN w B 0 (iJ m) f):∃ A:Ma,C4 w B (.int .i64 m.id) (.slice A.ra m.rows.length A.rc) (.slice A.sa m.au.length A.sc) (.bool m.done)∧(w.frozen? ⟨B,0,none⟩=false∧w.frozen? ⟨B,1,none⟩=false∧w.frozen? ⟨B,2,none⟩=false∧w.frozen? ⟨B,3,none⟩=false)∧bG w (fD m) (fE A m) f:=by
 obtain⟨vs,hpc,hov,_⟩:=h;obtain⟨A,rfl,hl⟩:=aq3 hov;have hl4:(BP A m).toList.length=4:=rfl;have c:=hpc.cell;have f:=hpc.free;exact⟨A,⟨c 0 (by rw[hl4];omega),c 1 (by rw[hl4];omega),c 2 (by rw[hl4];omega),c 3 (by rw[hl4];omega)⟩,⟨f 0 (by rw[hl4];omega),f 1 (by rw[hl4];omega),f 2 (by rw[hl4];omega),f 3 (by rw[hl4];omega)⟩,hl⟩
theorem WW {w:World} {B:Nat} {T:TypeId} {A:Ma} {m:Mb} {fp:Fp} (h:Bx w B T (BP A m)) (hl:bG w (fD m) (fE A m) fp) (hB:¬ fp B):dN w B 0 (iJ m) fp:=⟨_,h.pc,aq2 hl,hB⟩
theorem OV (A:Ma) (m:Mb) (w:World) (hn:m.n=(m.rows.length:Int)) :
  Calls Tryz.prog 139 #[FD A m] w fun e w'=>e=.returned (eG A m)∧Below w.heap.size w w':=by
 have bH:=dH;have hb1:=aF w (.cells #[.int .i64 m.id,.slice A.ra m.rows.length A.rc,.slice A.sa m.au.length A.sc,.bool m.done] 183);have hb2:=aF (w.alloc (.cells #[.int .i64 m.id,.slice A.ra m.rows.length A.rc,.slice A.sa m.au.length A.sc,.bool m.done] 183)) (.cells #[.int .i64 0,.int .i64 0,.slice none 0 0,.slice none 0 0,.bool false] 47);have hx1:Bx ((w.alloc (.cells #[.int .i64 m.id,.slice A.ra m.rows.length A.rc,.slice A.sa m.au.length A.sc,.bool m.done] 183)).alloc (.cells #[.int .i64 0,.int .i64 0,.slice none 0 0,.slice none 0 0,.bool false] 47)) w.heap.size 183 #[.int .i64 m.id,.slice A.ra m.rows.length A.rc,.slice A.sa m.au.length A.sc,.bool m.done]:=(Bx.new w _ _).alloc _
 have hx2:Bx ((w.alloc (.cells #[.int .i64 m.id,.slice A.ra m.rows.length A.rc,.slice A.sa m.au.length A.sc,.bool m.done] 183)).alloc (.cells #[.int .i64 0,.int .i64 0,.slice none 0 0,.slice none 0 0,.bool false] 47)) (w.heap.size+1) 47 #[.int .i64 0,.int .i64 0,.slice none 0 0,.slice none 0 0,.bool false]:=by
  have:=Bx.new (w.alloc (.cells #[.int .i64 m.id,.slice A.ra m.rows.length A.rc,.slice A.sa m.au.length A.sc,.bool m.done] 183)) 47 #[.int .i64 0,.int .i64 0,.slice none 0 0,.slice none 0 0,.bool false];simp only[World.size_alloc] at this;exact this
 have kP:=hb1.trans (hb2.mono hb1.size);unfold FD BP;have jZ:=aj hx2;have HB:=aj kP;obtain⟨c0,c1,c2,c3⟩:=Bx.r4 hx1;have HN:=aj hn;clear hb1 hb2 hx1 hx2 kP hn;go_enter Tryz.func139,Tryz.ntmps139
 go_upto_region 1 with fail
 generalize ((w.alloc (.cells #[.int .i64 m.id,.slice A.ra m.rows.length A.rc,.slice A.sa m.au.length A.sc,.bool m.done] 183)).alloc (.cells #[.int .i64 0,.int .i64 0,.slice none 0 0,.slice none 0 0,.bool false] 47))=W0 at *;have T:∀ {x v},W0.cell? x=some v→∀ q:Bk W0,q.w.cell? x=some v:=fun h q=>(q.h.cell (World.block_lt_of_cell? _ _ h)).trans h
 have y0:=T c0;have y1:=T c1;have y2:=T c2;have y3:=T c3;have hC:∀ q:Bk W0,Calls Tryz.prog 166 #[.pointer (some ⟨w.heap.size,0,none⟩)] q.w fun e w'=>e=.returned (.int .i64 (m.rows.length:Int))∧Below q.w.heap.size q.w w':=fun q=>(vT w.heap.size A.ra m.rows.length A.rc q.w (y1 q)).mono (fun e w' h=>⟨h.1,by rw[h.2];exact Below.refl _ _⟩)
 clear T c0 c1 c2 c3;refine bK (C:=fun w'=>∃ p:Bk W0,w'=p.w) 13 bH (by kernel_rfl) ⟨⟨W0.drewN 1,bg (Below.refl _ _)⟩,rfl⟩ ?_
 simp only[List.take_succ_cons,List.take_zero]
 repeat (go_big_quiet_step ((first|(go_at_call 166;exact aQ _ (hC _))|rfl)))
 refine wpQuiet_nil (dK fun wE aJ=>?_)
 simp only[List.drop_succ_cons,List.drop_zero]
 have hR:=jZ.out.below aJ;have HB1:=aj (HB.out.trans (aJ.mono HB.out.size));obtain⟨z0,z1,z2,z3,z4⟩:=Bx.r5 hR;obtain⟨f0,f1,f2,f3,f4⟩:=hR.f5;clear y0 y1 y2 y3 hC aJ hR jZ;go_wp2;refine bodyPost_ret (v:=eG A m) (by simp[results,Tryz.results139,go_sem,eG,dZ,HN.out, *]) rfl ?_
 exact⟨rfl,(kX wE (w.heap.size+1)).below HB1.out HB1.out.size (fun b e=>by omega)⟩
theorem ae3 (F:Nat) (C:Array Value) (m:Mb) (B wb:Nat) (fp:Fp) (X:World) (R:Ending→World→Prop) (hE:∀ (args:Array Value) (w:World),(callFunc F args).run Tryz.prog w=.ok (.enter F args) w) (h:dN X B 0 (iJ m) fp) (hw:X.cell? ⟨wb,0,none⟩=some (.func (.func F) #[] C))
  (hF:m.done=false→Calls Tryz.prog F (#[.pointer (some ⟨B,0,none⟩)]++C) X R) (hD:m.done=true→∀ e,Gu e→R e X) (hR:∀ e w',R e w'→e=.returned (.tuple #[])∨Gu e) :
  Calls Tryz.prog 138 #[.pointer (some ⟨B,0,none⟩),.pointer (some ⟨wb,0,none⟩)] X R:=by
 obtain⟨A,⟨c0,c1,c2,c3⟩,_,_⟩:=h.c4
 cases hd:m.done with
 | true =>
  have HD:=aj (hD hd);rw[hd] at c3;clear hD hF hd h hR;go_enter Tryz.func138,Tryz.ntmps138
  go_wp2_with (go_at_call 86;refine (kT _).mono ?_;rintro e w' ⟨⟨T,v,rfl⟩,hw'⟩;rw[hw'];clear hw')
  exact⟨rfl,HD.out _ ⟨_,_,rfl⟩⟩
 | false =>
  have hFF:=hF hd;rw[hd] at c3;have HR:=aj hR;clear hD hF hd h hR;go_enter Tryz.func138,Tryz.ntmps138
  go_wp2_with (go_at_call 86;refine (qx _).mono ?_;rintro e w' ⟨rfl,hw'⟩;rw[hw'];clear hw')
  refine hFF.mono ?_;intro e w1 hRe;rcases HR.out e w1 hRe with rfl|⟨T,v,rfl⟩
  ·have Bl:Hid (R (.returned (.tuple #[])) w1):=hRe
   clear hRe hFF c0 c1 c2 c3;go_wp2
   first|go_end0|go_ret
   exact Bl.out
  ·exact⟨rfl,hRe⟩
def mJ (m m':Mb) (flag:Bool):Mb×Bool:=if fO m=true then (if m.done=true then (m,false) else if flag=true then (m',true) else (m,false)) else (iG,false)
def LP (X:World) (B:Nat) (fp:Fp) (m':Mb) (b:Bool) (w':World):Prop:=if b=true then bC X w' B 0 (iJ m') fp else ∃ m1,bC X w' B 0 (iJ m1) fp
theorem LP.wrt {X w':World} {B:Nat} {fp:Fp} {m':Mb} {b:Bool} (h:LP X B fp m' b w'):aO (fun x=>fp x∨x=B) X w':=by
 unfold LP at h
 split at h
 ·exact h.wrt
 ·obtain⟨m1,h⟩:=h
  exact h.wrt
theorem C9 (F:Nat) (C:Array Value) (A:Ma) (m m':Mb) (flag:Bool) (w:World) (hv:nS w A m) (hE:∀ (args:Array Value) (w:World),(callFunc F args).run Tryz.prog w=.ok (.enter F args) w)
  (hm':fO m=true→flag=true→m'.n=(m'.rows.length:Int))
  (hF:∀ X B fp i n,Below w.heap.size w X→dN X B 0 (iJ m) fp→dO m i n→m.done=false→Calls Tryz.prog F (#[.pointer (some ⟨B,0,none⟩)]++C) X fun e w'=>(flag=true∧e=.returned (.tuple #[])∧bC X w' B 0 (iJ m') fp)∨(flag=false∧Gu e∧∃ m1,bC X w' B 0 (iJ m1) fp)) :
  Calls Tryz.prog 108 #[eG A m,.func (.func F) #[] C] w fun e w'=>CW w w' e (mJ m m' flag).1 (mJ m m' flag).2:=by
 have hmf:∀ (fn:Fn) (first cap:Array Value) (w:World),(Instr.makeFunc fn first cap).run Tryz.prog w=.ok (.func fn first cap) w:=fun _ _ _ _=>rfl
 have hb1:=aF w (.cells #[.int .i64 m.id,.int .i64 m.n,.slice A.ra m.rows.length A.rc,.slice A.sa m.au.length A.sc,.bool m.done] 47);have hb2:=aF (w.alloc (.cells #[.int .i64 m.id,.int .i64 m.n,.slice A.ra m.rows.length A.rc,.slice A.sa m.au.length A.sc,.bool m.done] 47)) (.cells #[.func (.func F) #[] C] 140);have hb3:=aF ((w.alloc (.cells #[.int .i64 m.id,.int .i64 m.n,.slice A.ra m.rows.length A.rc,.slice A.sa m.au.length A.sc,.bool m.done] 47)).alloc (.cells #[.func (.func F) #[] C] 140)) (.cells #[.int .i64 0,.int .i64 0,.slice none 0 0,.slice none 0 0,.bool false] 47);have hx1:Bx (((w.alloc (.cells #[.int .i64 m.id,.int .i64 m.n,.slice A.ra m.rows.length A.rc,.slice A.sa m.au.length A.sc,.bool m.done] 47)).alloc (.cells #[.func (.func F) #[] C] 140)).alloc (.cells #[.int .i64 0,.int .i64 0,.slice none 0 0,.slice none 0 0,.bool false] 47)) w.heap.size 47 #[.int .i64 m.id,.int .i64 m.n,.slice A.ra m.rows.length A.rc,.slice A.sa m.au.length A.sc,.bool m.done]:=((Bx.new w _ _).alloc _).alloc _
 have hx2:Bx (((w.alloc (.cells #[.int .i64 m.id,.int .i64 m.n,.slice A.ra m.rows.length A.rc,.slice A.sa m.au.length A.sc,.bool m.done] 47)).alloc (.cells #[.func (.func F) #[] C] 140)).alloc (.cells #[.int .i64 0,.int .i64 0,.slice none 0 0,.slice none 0 0,.bool false] 47)) (w.heap.size+1) 140 #[.func (.func F) #[] C]:=by
  have:=(Bx.new (w.alloc (.cells #[.int .i64 m.id,.int .i64 m.n,.slice A.ra m.rows.length A.rc,.slice A.sa m.au.length A.sc,.bool m.done] 47)) 140 #[.func (.func F) #[] C]).alloc (.cells #[.int .i64 0,.int .i64 0,.slice none 0 0,.slice none 0 0,.bool false] 47);simp only[World.size_alloc] at this;exact this
 have hx3:Bx (((w.alloc (.cells #[.int .i64 m.id,.int .i64 m.n,.slice A.ra m.rows.length A.rc,.slice A.sa m.au.length A.sc,.bool m.done] 47)).alloc (.cells #[.func (.func F) #[] C] 140)).alloc (.cells #[.int .i64 0,.int .i64 0,.slice none 0 0,.slice none 0 0,.bool false] 47)) (w.heap.size+1+1) 47 #[.int .i64 0,.int .i64 0,.slice none 0 0,.slice none 0 0,.bool false]:=by
  have:=Bx.new ((w.alloc (.cells #[.int .i64 m.id,.int .i64 m.n,.slice A.ra m.rows.length A.rc,.slice A.sa m.au.length A.sc,.bool m.done] 47)).alloc (.cells #[.func (.func F) #[] C] 140)) 47 #[.int .i64 0,.int .i64 0,.slice none 0 0,.slice none 0 0,.bool false];simp only[World.size_alloc] at this;exact this
 have kP:=hb1.trans (hb2.mono hb1.size);have Gs:=kP.trans (hb3.mono kP.size);have hM0:=LD A m (((w.alloc (.cells #[.int .i64 m.id,.int .i64 m.n,.slice A.ra m.rows.length A.rc,.slice A.sa m.au.length A.sc,.bool m.done] 47)).alloc (.cells #[.func (.func F) #[] C] 140)).alloc (.cells #[.int .i64 0,.int .i64 0,.slice none 0 0,.slice none 0 0,.bool false] 47)) (hv.below Gs);unfold eG dZ at *;have sJ:=aj hx1;have jZ:=aj hx2;have BR:=aj hx3;have HB0:=aj Gs;have HV:=aj hv;obtain⟨c0,c1,c2,c3,c4⟩:=Bx.r5 hx1;clear hb1 hb2 hb3 hx1 hx2 hx3 kP Gs hv
 cases hok:fO m with
 | false =>
  have HZ:Hid (mJ m m' flag=(iG,false)):=by rw[Hid,mJ,if_neg (by rw[hok];decide)]
  rw[hok] at hM0;clear hok hm' hF;go_enter Tryz.func108,Tryz.ntmps108
  go_wp2_with fail
  generalize (((w.alloc (.cells #[.int .i64 m.id,.int .i64 m.n,.slice A.ra m.rows.length A.rc,.slice A.sa m.au.length A.sc,.bool m.done] 47)).alloc (.cells #[.func (.func F) #[] C] 140)).alloc (.cells #[.int .i64 0,.int .i64 0,.slice none 0 0,.slice none 0 0,.bool false] 47))=W0 at *;refine hM0.mono ?_;rintro e w1 ⟨rfl,hb1⟩;have hR:=BR.out.below hb1;have HB1:=aj (HB0.out.trans (hb1.mono HB0.out.size));obtain⟨z0,z1,z2,z3,z4⟩:=Bx.r5 hR;obtain⟨f0,f1,f2,f3,f4⟩:=hR.f5;clear hR hb1 c0 c1 c2 c3 c4 hM0;go_wp2;refine bodyPost_ret (v:=.tuple #[eG ⟨none,0,none,0⟩ iG,.bool false]) (by simp[results,Tryz.results108,go_sem,eG,dZ,iG, *]) rfl ?_
  rw[HZ.out];exact⟨_,rfl,A8 ((kX w1 (w.heap.size+1+1)).below HB1.out HB1.out.size (fun b h=>by omega))⟩
 | true =>
 obtain⟨i,n,ok⟩:=je.1 hok;have HZ:Hid (mJ m m' flag=if m.done=true then (m,false) else if flag=true then (m',true) else (m,false)):=by rw[Hid,mJ,if_pos hok]
 have HM':=aj (hm' hok);have N7:Hid (m.n=(m.rows.length:Int)):=by rw[Hid,ok.hn,ok.len]
 rw[hok] at hM0;have HF:=aj hF;clear hok hm' hF;go_enter Tryz.func108,Tryz.ntmps108
 go_wp2_with fail
 generalize (((w.alloc (.cells #[.int .i64 m.id,.int .i64 m.n,.slice A.ra m.rows.length A.rc,.slice A.sa m.au.length A.sc,.bool m.done] 47)).alloc (.cells #[.func (.func F) #[] C] 140)).alloc (.cells #[.int .i64 0,.int .i64 0,.slice none 0 0,.slice none 0 0,.bool false] 47))=W0 at *;refine hM0.mono ?_;rintro e w1 ⟨rfl,hb1⟩;have HB1:=aj (HB0.out.trans (hb1.mono HB0.out.size));have Dv:=aj (sJ.out.below hb1);have OH:=aj (jZ.out.below hb1);have HY3:=aj (BR.out.below hb1);clear hb1 c0 c1 c2 c3 c4 hM0 sJ jZ BR HB0;have LQ:=OM A m i n w1 (HV.out.below HB1.out) ok;unfold eG dZ at LQ;obtain⟨c0,c1,c2,c3,c4⟩:=Bx.r5 Dv.out;go_wp2_with fail
 refine LQ.mono ?_;rintro e w2 ⟨A2,rfl,fp,hl2,hf2,hb2⟩;unfold FD BP;have HB2:=aj (HB1.out.trans (hb2.mono HB1.out.size));have HZ1:=aj (Dv.out.below hb2);have HZ2:=aj (OH.out.below hb2);have HZ3:=aj (HY3.out.below hb2);have hlt2:=eX hl2;have hw1:=HY3.out.lt;have hs2:=hb2.size;clear c0 c1 c2 c3 c4 LQ
 -- the copy lies in a box of its own
 have hba:=aF w2 (.cells #[.int .i64 m.id,.slice A2.ra m.rows.length A2.rc,.slice A2.sa m.au.length A2.sc,.bool m.done] 183);have hxb:=Bx.new w2 183 #[.int .i64 m.id,.slice A2.ra m.rows.length A2.rc,.slice A2.sa m.au.length A2.sc,.bool m.done];have hP3:dN (w2.alloc (.cells #[.int .i64 m.id,.slice A2.ra m.rows.length A2.rc,.slice A2.sa m.au.length A2.sc,.bool m.done] 183)) w2.heap.size 0 (iJ m) fp:=WW hxb (bM hl2 hba) (fun k=>by have:=hlt2 _ k;omega)
 have HB3:=aj (HB2.out.trans (hba.mono HB2.out.size));have HU1:=aj (HZ1.out.below hba);have HU2:=aj (HZ2.out.below hba);have HU3:=aj (HZ3.out.below hba);have hB3:=hxb.lt;have hfl:∀ b,fp b→w.heap.size+1+1<b∧b<w2.heap.size:=fun b hb=>⟨by have:=hf2 b hb;omega,hlt2 b hb⟩
 clear hxb hl2 hf2 hlt2 hb2 hba Dv OH HY3 HZ1 HZ2 HZ3;go_upto_region 4 with fail
 generalize w2.alloc (.cells #[.int .i64 m.id,.slice A2.ra m.rows.length A2.rc,.slice A2.sa m.au.length A2.sc,.bool m.done] 183)=V3 at *;generalize w2.heap.size=B at *;have hbt:=aF V3 (.cells #[.bool false] 4);have Zq:=hP3.below hbt;have hB4:=HB3.out.trans (hbt.mono HB3.out.size);have hw4:=(HU2.out.below hbt).at 0 (v:=.func (.func F) #[] C) rfl;have aD1:=(Bx.new V3 4 #[.bool false]).lt
 have hT:=Lj 138 #[] #[.pointer (some ⟨B,0,none⟩),.pointer (some ⟨w.heap.size+1,0,none⟩)] V3 (fun b X=>b=(!m.done&&flag)∧LP (V3.alloc (.cells #[.bool false] 4)) B fp m' b X) (fun _ _=>enters_of Tryz.func138 (by kernel_rfl) rfl _ _)
  ((ae3 F C m B (w.heap.size + 1) fp _ (fun e w' => (m.done = false ∧ flag = true ∧ e = .returned (.tuple #[]) ∧ bC (V3.alloc (.cells #[.bool false] 4)) w' B 0 (iJ m') fp) ∨ ((m.done = true ∨ flag = false) ∧ Gu e ∧ ∃ m1,bC (V3.alloc (.cells #[.bool false] 4)) w' B 0 (iJ m1) fp)) hE Zq hw4 (fun hd => (HF.out _ B fp i n hB4 Zq ok hd).mono (fun e w' h => by
   rcases h with ⟨h1,h2,h3⟩|⟨h1,h2,h3⟩
   ·exact .inl ⟨hd,h1,h2,h3⟩
   ·exact .inr ⟨.inr h1,h2,h3⟩)) (fun hd e hg=>.inr ⟨.inl hd,hg,m,bC.refl Zq⟩) (fun e w' h=>by
   rcases h with ⟨_,_,h,_⟩|⟨_,h,_⟩
   ·exact .inl h
   ·exact .inr h)).mono (fun e w' h=>by
   rcases h with ⟨h1,h2,h3,h4⟩|⟨h1,h2,h3⟩
   ·exact .inl ⟨h3,by rw[h1,h2];rfl,by unfold LP;rw[if_pos rfl];exact h4⟩
   ·refine .inr ⟨h2, ?_,by unfold LP;rw[if_neg (by decide)];exact h3⟩
    rcases h1 with h1|h1<;>rw[h1]<;>simp)) (fun b X h=>(Bx.new V3 4 #[.bool false]).wrt h.2.wrt (fun k=>by rcases k with k|k;have:=hfl _ k;omega;omega))
 clear hP3 hbt Zq hB4 hw4;have aA4:=HU1;go_wp2_with fail
 refine hT.mono ?_;rintro e Y ⟨b,X,rfl,⟨hbv,mV⟩,Zt⟩;have hWX:=mV.wrt;have hX0:Below w.heap.size w (V3.alloc (.cells #[.bool false] 4)):=HB3.out.trans ((aF V3 _).mono HB3.out.size);have EM:Below w.heap.size w X:=hWX.below hX0 hX0.size (fun x hx=>by rcases hx with hx|hx;have:=hfl x hx;omega;omega)
 have OW:Below w.heap.size w Y:=Zt.below EM EM.size (fun x hx=>by have:=HB3.out.size;omega)
 have keep:∀ {k:Nat} {T:TypeId} {cs:Array Value},k<w.heap.size+1+1+1→Bx V3 k T cs→Bx Y k T cs:=fun {k T cs} hk hx=>((hx.alloc (.cells #[.bool false] 4)).wrt hWX (fun kk=>by rcases kk with kk|kk;have:=hfl _ kk;omega;omega)).wrt Zt (fun kk=>by omega)
 have HT1:Hid (Bx Y w.heap.size 47 #[.int .i64 m.id,.int .i64 m.n,.slice A.ra m.rows.length A.rc,.slice A.sa m.au.length A.sc,.bool m.done]):=keep (by omega) HU1.out
 have HT3:Hid (Bx Y (w.heap.size+1+1) 47 #[.int .i64 0,.int .i64 0,.slice none 0 0,.slice none 0 0,.bool false]):=keep (by omega) HU3.out
 have hsz:(V3.alloc (.cells #[.bool false] 4)).heap.size=V3.heap.size+1:=World.size_alloc _ _
 have hpl:∃ (mm:Mb) (dD:Fp),dN Y B 0 (iJ mm) dD∧(∀ x,dD x→w.heap.size+1+1<x)∧(b=true→mm=m'):=by
  have key:∀ mm,bC (V3.alloc (.cells #[.bool false] 4)) X B 0 (iJ mm) fp→∃ dD,dN Y B 0 (iJ mm) dD∧∀ x,dD x→w.heap.size+1+1<x:=fun mm hb=>by
   obtain⟨dD,h1,h2⟩:=hb.iY
   have h3:∀ x,dD x→w.heap.size+1+1<x∧x≠V3.heap.size:=fun x hx=>by
    rcases h2 x hx with k|k
    ·have:=hfl x k;omega
    ·have:=HB3.out.size;omega
   exact⟨dD,h1.wrt Zt (fun x hx e=>by rcases hx with hx|hx;exact (h3 x hx).2 e;omega),fun x hx=>(h3 x hx).1⟩
  unfold LP at mV
  cases b with
  | true =>
   rw[if_pos rfl] at mV;obtain⟨dD,h1,h2⟩:=key m' mV;exact⟨m',dD,h1,h2,fun _=>rfl⟩
  | false =>
   rw[if_neg (by decide)] at mV
   obtain⟨m1,mV⟩:=mV;obtain⟨dD,h1,h2⟩:=key m1 mV;exact⟨m1,dD,h1,h2,fun h=>by cases h⟩
 obtain⟨mm,dD,hPY,hf1,hmm⟩:=hpl;have LU:=aj OW;have hBl:=hPY.lt;obtain⟨A3,⟨y0,y1,y2,y3⟩,⟨q0,q1,q2,q3⟩,hl3⟩:=hPY.c4;clear hT mV hWX hX0 EM OW keep Zt HU1 aA4 HU2 HU3 hPY hsz
 cases b with
 | true =>
  have hmm':=hmm rfl;subst hmm'
  have hdf:m.done=false∧flag=true:=by
   cases hd:m.done<;>cases hf:flag<;>rw[hd,hf] at hbv<;>simp at hbv ⊢
  have HZf:Hid (mJ m mm flag=(mm,true)):=by rw[Hid,HZ.out,if_neg (by rw[hdf.1];decide),if_pos hdf.2]
  have LV:=OV A3 mm Y (HM'.out hdf.2);unfold FD BP at LV;clear hmm hbv hdf q0 q1 q2 q3;go_wp2_with fail
  refine LV.mono ?_;rintro e Y2 ⟨rfl,hb2⟩;have hR:=HT3.out.below hb2
  have HN:Hid (∀ {z0 z1 z2 z3 z4:Value},iL w (((((Y2.setCell ⟨w.heap.size+1+1,0,none⟩ z0).setCell ⟨w.heap.size+1+1,1,none⟩ z1).setCell ⟨w.heap.size+1+1,2,none⟩ z2).setCell ⟨w.heap.size+1+1,3,none⟩ z3).setCell ⟨w.heap.size+1+1,4,none⟩ z4) (fD mm) (fE A3 mm)):=fun {z0 z1 z2 z3 z4}=>by
   have hB2:=LU.out.trans (hb2.mono LU.out.size);exact⟨dD,bP (bM hl3 hb2) (kX Y2 (w.heap.size+1+1)) (fun x hx e=>by have:=hf1 x hx;omega),fun x hx=>by have:=hf1 x hx;omega,(kX Y2 (w.heap.size+1+1)).below hB2 hB2.size (fun x e=>by omega)⟩
  unfold eG dZ;obtain⟨z0,z1,z2,z3,z4⟩:=Bx.r5 hR;obtain⟨r0,r1,r2,r3,r4⟩:=hR.f5;clear LV hR hb2 hl3 y0 y1 y2 y3;go_wp2;refine bodyPost_ret (v:=.tuple #[eG A3 mm,.bool true]) (by simp[results,Tryz.results108,go_sem,eG,dZ, *]) rfl ?_
  rw[HZf.out];exact⟨_,rfl,HN.out⟩
 | false =>
  have HZf:Hid (mJ m m' flag=(m,false)):=by
   rw[Hid,HZ.out]
   cases hd:m.done<;>cases hf:flag<;>rw[hd,hf] at hbv<;>simp at hbv ⊢
  have LQ:=OM A m i n Y (HV.out.below LU.out) ok;unfold eG dZ at LQ;obtain⟨c0,c1,c2,c3,c4⟩:=Bx.r5 HT1.out
  have HQ:Hid (∀ Z,Below Y.heap.size Y Z→(∃ v0 v1 v2 v3,Z.cell? ⟨B,0,none⟩=some v0∧Z.cell? ⟨B,1,none⟩=some v1∧Z.cell? ⟨B,2,none⟩=some v2∧Z.cell? ⟨B,3,none⟩=some v3)∧Z.frozen? ⟨B,0,none⟩=false∧Z.frozen? ⟨B,1,none⟩=false∧Z.frozen? ⟨B,2,none⟩=false∧Z.frozen? ⟨B,3,none⟩=false):=fun Z hZ=>by
   have e:=hZ.block B hBl;have t:∀ {j v},Y.cell? ⟨B,j,none⟩=some v→Z.cell? ⟨B,j,none⟩=some v:=fun h=>(World.cell?_of_block e).trans h
   have u:∀ {j},Y.frozen? ⟨B,j,none⟩=false→Z.frozen? ⟨B,j,none⟩=false:=fun h=>by simp only[World.frozen?,e] at h ⊢;exact h
   exact⟨⟨_,_,_,_,t y0,t y1,t y2,t y3⟩,u q0,u q1,u q2,u q3⟩
  clear hmm hbv q0 q1 q2 q3 y0 y1 y2 y3 hl3;go_wp2_with fail
  refine LQ.mono ?_;rintro e Y1 ⟨A4,rfl,JK,hl4,hf4,hb4⟩;unfold FD BP;obtain⟨⟨v0,v1,v2,v3,g0,g1,g2,g3⟩,p0,p1,p2,p3⟩:=HQ.out Y1 hb4;have hsY:=hb4.size;have Zu:aO (fun x=>x=B) Y1 ((((Y1.setCell ⟨B,0,none⟩ (.int .i64 m.id)).setCell ⟨B,1,none⟩ (.slice A4.ra m.rows.length A4.rc)).setCell ⟨B,2,none⟩ (.slice A4.sa m.au.length A4.sc)).setCell ⟨B,3,none⟩ (.bool m.done)):=QF Y1 B
  have hl5:bG ((((Y1.setCell ⟨B,0,none⟩ (.int .i64 m.id)).setCell ⟨B,1,none⟩ (.slice A4.ra m.rows.length A4.rc)).setCell ⟨B,2,none⟩ (.slice A4.sa m.au.length A4.sc)).setCell ⟨B,3,none⟩ (.bool m.done)) (fD m) (fE A4 m) JK:=bP hl4 Zu (fun x hx e=>by have:=hf4 x hx;omega)
  have lS:Hid (Below w.heap.size w ((((Y1.setCell ⟨B,0,none⟩ (.int .i64 m.id)).setCell ⟨B,1,none⟩ (.slice A4.ra m.rows.length A4.rc)).setCell ⟨B,2,none⟩ (.slice A4.sa m.au.length A4.sc)).setCell ⟨B,3,none⟩ (.bool m.done))):=Zu.below (LU.out.trans (hb4.mono LU.out.size)) (LU.out.trans (hb4.mono LU.out.size)).size (fun x e=>by omega)
  have hT5:Bx ((((Y1.setCell ⟨B,0,none⟩ (.int .i64 m.id)).setCell ⟨B,1,none⟩ (.slice A4.ra m.rows.length A4.rc)).setCell ⟨B,2,none⟩ (.slice A4.sa m.au.length A4.sc)).setCell ⟨B,3,none⟩ (.bool m.done)) (w.heap.size+1+1) 47 #[.int .i64 0,.int .i64 0,.slice none 0 0,.slice none 0 0,.bool false]:=(HT3.out.below hb4).wrt Zu (fun e=>by omega)
  have HT5:=aj hT5;have LM:=aj hl5;have x0:((((Y1.setCell ⟨B,0,none⟩ (.int .i64 m.id)).setCell ⟨B,1,none⟩ (.slice A4.ra m.rows.length A4.rc)).setCell ⟨B,2,none⟩ (.slice A4.sa m.au.length A4.sc)).setCell ⟨B,3,none⟩ (.bool m.done)).cell? ⟨B,0,none⟩=some (.int .i64 m.id):=by simp[go_sem,g0,g1,g2,g3]
  have x1:((((Y1.setCell ⟨B,0,none⟩ (.int .i64 m.id)).setCell ⟨B,1,none⟩ (.slice A4.ra m.rows.length A4.rc)).setCell ⟨B,2,none⟩ (.slice A4.sa m.au.length A4.sc)).setCell ⟨B,3,none⟩ (.bool m.done)).cell? ⟨B,1,none⟩=some (.slice A4.ra m.rows.length A4.rc):=by simp[go_sem,g0,g1,g2,g3]
  have x2:((((Y1.setCell ⟨B,0,none⟩ (.int .i64 m.id)).setCell ⟨B,1,none⟩ (.slice A4.ra m.rows.length A4.rc)).setCell ⟨B,2,none⟩ (.slice A4.sa m.au.length A4.sc)).setCell ⟨B,3,none⟩ (.bool m.done)).cell? ⟨B,2,none⟩=some (.slice A4.sa m.au.length A4.sc):=by simp[go_sem,g0,g1,g2,g3]
  have x3:((((Y1.setCell ⟨B,0,none⟩ (.int .i64 m.id)).setCell ⟨B,1,none⟩ (.slice A4.ra m.rows.length A4.rc)).setCell ⟨B,2,none⟩ (.slice A4.sa m.au.length A4.sc)).setCell ⟨B,3,none⟩ (.bool m.done)).cell? ⟨B,3,none⟩=some (.bool m.done):=by simp[go_sem,g0,g1,g2,g3]
  have LV:=OV A4 m ((((Y1.setCell ⟨B,0,none⟩ (.int .i64 m.id)).setCell ⟨B,1,none⟩ (.slice A4.ra m.rows.length A4.rc)).setCell ⟨B,2,none⟩ (.slice A4.sa m.au.length A4.sc)).setCell ⟨B,3,none⟩ (.bool m.done)) N7.out;unfold FD BP at LV;have uJ:Hid (∀ x,JK x→w.heap.size+1+1<x):=fun x hx=>by have:=hf4 x hx;have:=HT3.out.lt;omega
  clear hl4 hf4 hl5 hT5 Zu LQ c0 c1 c2 c3 c4 HQ;go_upto_region 7 with fail
  generalize ((((Y1.setCell ⟨B,0,none⟩ (.int .i64 m.id)).setCell ⟨B,1,none⟩ (.slice A4.ra m.rows.length A4.rc)).setCell ⟨B,2,none⟩ (.slice A4.sa m.au.length A4.sc)).setCell ⟨B,3,none⟩ (.bool m.done))=Y5 at *;clear g0 g1 g2 g3 p0 p1 p2 p3;go_wp2_with fail
  refine LV.mono ?_;rintro e Y2 ⟨rfl,hb2⟩;have hR:=HT5.out.below hb2
  have HN:Hid (∀ {z0 z1 z2 z3 z4:Value},iL w (((((Y2.setCell ⟨w.heap.size+1+1,0,none⟩ z0).setCell ⟨w.heap.size+1+1,1,none⟩ z1).setCell ⟨w.heap.size+1+1,2,none⟩ z2).setCell ⟨w.heap.size+1+1,3,none⟩ z3).setCell ⟨w.heap.size+1+1,4,none⟩ z4) (fD m) (fE A4 m)):=fun {z0 z1 z2 z3 z4}=>by
   have hB2:=lS.out.trans (hb2.mono lS.out.size);exact⟨JK,bP (bM LM.out hb2) (kX Y2 (w.heap.size+1+1)) (fun x hx e=>by have:=uJ.out x hx;omega),fun x hx=>by have:=uJ.out x hx;omega,(kX Y2 (w.heap.size+1+1)).below hB2 hB2.size (fun x e=>by omega)⟩
  unfold eG dZ;obtain⟨z0,z1,z2,z3,z4⟩:=Bx.r5 hR;obtain⟨r0,r1,r2,r3,r4⟩:=hR.f5;clear LV hR hb2 x0 x1 x2 x3;go_wp2;refine bodyPost_ret (v:=.tuple #[eG A4 m,.bool false]) (by simp[results,Tryz.results108,go_sem,eG,dZ, *]) rfl ?_
  rw[HZf.out];exact⟨_,rfl,HN.out⟩
section
theorem Dc (g q:Nat) (ver:Int) (X:World) (hc:X.cell? ⟨g,q,none⟩=some (.int .i64 ver)) (hf:X.frozen? ⟨g,q,none⟩=false) (h0:0≤ver) (hv:ver<1000000) :
  Calls Tryz.prog 148 #[.pointer (some ⟨g,q,none⟩)] X fun e w'=>e=.returned (.tuple #[])∧w'=X.setCell ⟨g,q,none⟩ (.int .i64 (ver+1)):=by
 have hw:wrap64 (ver+1)=ver+1:=by unfold wrap64;omega
 go_enter Tryz.func148,Tryz.ntmps148
 go_wp2_with (go_at_call 86;refine (qx _).mono ?_;rintro e w' ⟨rfl,hw'⟩;rw[hw'];clear hw')
 first|go_end0|go_ret
 exact⟨rfl,rfl⟩
theorem OX (g q:Nat) (ver:Int) (X:World) (hc:X.cell? ⟨g,q,none⟩=some (.int .i64 ver)) (hv:¬ ver<1000000) :
  Calls Tryz.prog 148 #[.pointer (some ⟨g,q,none⟩)] X fun e w'=>Gu e∧w'=X:=by
 go_enter Tryz.func148,Tryz.ntmps148
 go_wp2_with (go_at_call 86;refine (kT _).mono ?_;rintro e w' ⟨⟨T,v,rfl⟩,hw'⟩;rw[hw'];clear hw')
 exact⟨rfl,⟨_,_,rfl⟩,rfl⟩
attribute [local irreducible] sv
theorem ae4 (B:Nat) (m:Mb) (i n:Nat) (t:List UInt8) (fp:Fp) (w:World) (h:dN w B 0 (iJ m) fp) (ok:dO m i n) (hd:m.done=false) (ht:t.length≤1048576) :
  Calls Tryz.prog 156 #[.pointer (some ⟨B,0,none⟩),.string (sv t)] w fun e w'=>((bW m t).2=true∧e=.returned (.tuple #[])∧bC w w' B 0 (iJ (bW m t).1) fp)∨((bW m t).2=false∧Gu e∧∃ m1,bC w w' B 0 (iJ m1) fp):=by
 have bH:=dH;have hil:i<m.rows.length:=by rw[ok.len];exact ok.lt
 obtain⟨g,off,c,M0⟩:=Iw.start h (by omega)
 obtain⟨c0,c3⟩:=M0.id';have c1:=M0.rws;rw[ok.hid] at c0;have lF:=jQ B i m.rows.length g off c w c0 c1 hil;have ig:=aj M0;have ak5:=vO t;have hr:=ok.ok i ok.lt
 have Ee:Hid (bW m t=if (ah m.rows i).wed=true∨m.done=true∨(ah m.rows i).txt.length=12∨20<t.length∨(ah m.rows i).ver=1000000 then (m,false) else ({ m with rows:=m.rows.set i { ah m.rows i with txt:=(ah m.rows i).txt++[t],got:=(ah m.rows i).got.set i (el (ah m.rows i).got i+1),ver:=(ah m.rows i).ver+1 } },true)):=by
  have e:m.i=i:=by unfold Mb.i;rw[ok.hid];rfl
  rw[Hid,bW,Mb.put,Mb.own,e]
 have jA:Hid (((ah m.rows i).wed=true∨m.done=true∨(ah m.rows i).txt.length=12∨20<t.length∨(ah m.rows i).ver=1000000)→(bW m t).2=false):=fun h=>by rw[Ee.out,if_pos h]
 have uU:Hid (¬ ((ah m.rows i).wed=true∨m.done=true∨(ah m.rows i).txt.length=12∨20<t.length∨(ah m.rows i).ver=1000000)→bW m t=({ m with rows:=m.rows.set i { ah m.rows i with txt:=(ah m.rows i).txt++[t],got:=(ah m.rows i).got.set i (el (ah m.rows i).got i+1),ver:=(ah m.rows i).ver+1 } },true)):=fun h=>by rw[Ee.out,if_neg h]
 have htl:=hr.tl;clear Ee c0 c1 c3 M0 h;go_enter Tryz.func156,Tryz.ntmps156
 go_wp2_with fail
 refine lF.mono ?_;rintro e wA ⟨rfl,mW⟩;have M1:=ig.out.step mW;have bF:=aj M1;obtain⟨Ak,⟨⟨d0,d1,d2,d3⟩,d4,d5,d6,d7⟩,hrs⟩:=M1.row ok.fit hil;have Ir:Hid (∃ m1,bC w wA B 0 (iJ m1) fp):=⟨m,M1.bU⟩;clear lF hrs d0 d2 d3 d5 d6 d7 M1 mW ig
 cases hwd:(ah m.rows i).wed with
 | true =>
  have HZ:=aj (jA.out (.inl hwd));rw[hwd] at d4;go_wp2_with (go_at_call 86;refine (kT _).mono ?_;rintro e w' ⟨⟨T,v,rfl⟩,hw'⟩;rw[hw'];clear hw')
  exact⟨rfl,.inr ⟨HZ.out,⟨_,_,rfl⟩,Ir.out⟩⟩
 | false =>
 rw[hwd] at d4;by_cases h12:(ah m.rows i).txt.length=12
 ·have HZ:Hid ((bW m t).2=false):=jA.out (.inr (.inr (.inl h12)))
  have e12:¬ (((ah m.rows i).txt.length:Int)<12):=by omega
  clear h12;go_wp2_with (go_at_call 86;refine (kT _).mono ?_;rintro e w' ⟨⟨T,v,rfl⟩,hw'⟩;rw[hw'];clear hw')
  exact⟨rfl,.inr ⟨HZ.out,⟨_,_,rfl⟩,Ir.out⟩⟩
 have e12:((ah m.rows i).txt.length:Int)<12:=by omega
 by_cases h20:20<t.length
 ·have HZ:Hid ((bW m t).2=false):=jA.out (.inr (.inr (.inr (.inl h20))))
  have e23:decide ((t.length:Int)≤20)=false:=decide_eq_false (by omega)
  clear h20;go_wp2_with (go_at_call 86;(try rw[e23]);refine (kT _).mono ?_;rintro e w' ⟨⟨T,v,rfl⟩,hw'⟩;rw[hw'];clear hw')
  exact⟨rfl,.inr ⟨HZ.out,⟨_,_,rfl⟩,Ir.out⟩⟩
 have e20:(t.length:Int)≤20:=by omega
 have HH:Hid (¬ ((ah m.rows i).wed=true)∧¬ m.done=true∧¬ (ah m.rows i).txt.length=12∧¬ 20<t.length):=⟨by rw[hwd];decide,by rw[hd];decide,h12,h20⟩
 clear h12 h20 hwd Ir;go_upto_region 2 with (go_at_call 86;refine (qx _).mono ?_;rintro e w' ⟨rfl,hw'⟩;rw[hw'];clear hw')
 clear d4 e12 e20;obtain⟨u,f,hu,hfz,how,hlt,hset⟩:=bF.out.at hil (j:=1) rfl;have hbd:=(Same.drewN wA 1).below;have hu':∀ X,Below wA.heap.size wA X→X.cell? ⟨g,off+i*8+1,none⟩=some u:=fun X hX=>(hX.cell (World.block_lt_of_cell? _ _ hu)).trans hu
 have Ue:=clone_any t wA.drew ht;obtain⟨ta,tc,_,rfl,_⟩:=oJ.1 how;have HS:=aj hset;clear d1 hset hlt bF;refine jE (S:=fun X:World=>X.cell? ⟨g,off+i*8+1,none⟩=some (.slice ta (ah m.rows i).txt.length tc)) 11 bH ((hu' _ hbd)) fun hHeld=>?_
 refine aY (i:=0) rfl hHeld ?_;refine aY (i:=1) rfl hHeld ?_;refine aY (i:=2) rfl hHeld ?_;refine aY (i:=3) rfl hHeld ?_;refine aY (i:=4) rfl hHeld ?_;refine aY (i:=5) rfl hHeld ?_;refine dI (i:=6) rfl fun K hK=>?_
 go_simp
 go_at_call 93
 refine Ue.mono ?_;rintro e V1 ⟨rfl,hb1⟩;have jU:=hbd.trans (hb1.mono hbd.size);obtain⟨ta',tc',et,hA⟩:=zy t (aI.cZ how jU) (by omega)
 cases et
 have hba:=aF V1 (.cells #[.string (sv t)] 9);refine hK.out _ _ (hu' _ jU) (fun aK=>?_)
 clear hK hHeld;have hHeld:=aK;try simp only[dw]
 refine dI (i:=7) rfl fun K hK=>?_
 go_simp;refine hK.out _ _ (hu' _ (jU.trans (hba.mono jU.size))) (fun aK=>?_)
 clear hK hHeld;have hHeld:=aK;try simp only[dw]
 refine dI (i:=8) rfl fun K hK=>?_
 refine gQ (by rfl) _ _ _ _ (by rfl) (.slice ta (ah m.rows i).txt.length tc) _ (by rfl) (by rfl) hA ⟨rfl,rfl,rfl,rfl⟩ ?_
 rintro v9 w1 ⟨a1,e1,f1,rfl,k1,k2,k3⟩;have hs1:=jU.size;obtain⟨q1,q2,M2,_⟩:=HS.out w1 _ _ f1 { ah m.rows i with txt:=(ah m.rows i).txt++[t] } rfl ((aO.of_below jU).trans k3 (fun _ _ h=>h)) k1 (fun b hb=>(k2 b hb).imp id (fun h=>by omega))
 have eF:=aj M2;refine hK.out _ _ q1 (fun aK=>?_)
 clear hK hHeld;have hHeld:=aK;try simp only[dw]
 refine dI (i:=9) rfl fun K hK=>?_
 go_simp;refine hK.out _ _ q1 (fun aK=>?_)
 clear hK hHeld;have hHeld:=aK;try simp only[dw]
 refine dI (i:=10) rfl fun K hK=>?_
 go_simp;refine hK.out _ _ q1 (fun aK=>?_)
 clear hK hHeld;have hHeld:=aK;try simp only[dw]
 refine lQ rfl fun K hK=>?_
 go_simp;refine hK.out _ _ ?_;clear hHeld hK M2 k1 k2 k3 hA HS q1 q2 hu' hu how hfz Ue jU hbd hb1 hba;go_upto_region 3 with fail
 generalize w1.setCell ⟨g,off+i*8+1,none⟩ (.slice a1 ((ah m.rows i).txt.length+1) e1)=W5 at *;generalize hr1:({ ah m.rows i with txt:=(ah m.rows i).txt++[t] }:Rw)=r1 at *
 have hgl:r1.got=(ah m.rows i).got:=by rw[← hr1]
 have hvl:r1.ver=(ah m.rows i).ver:=by rw[← hr1]
 have zA:ah (m.rows.set i r1) i=r1:=dM hil;have qJ:i<(m.rows.set i r1).length:=by rw[List.length_set];exact hil
 have hgi:i<r1.got.length:=by rw[hgl,hr.gl];exact ok.lt
 obtain⟨u,f,hu,hfz,how,hlt,hset⟩:=eF.out.at qJ (j:=2) (cl:=bQ r1.got) (by rw[zA];rfl)
 obtain⟨gb,go,gc,rfl,hfg,hge,hgz,hgs⟩:=jh how hgi;obtain⟨c0,c4⟩:=eF.out.id';simp only at c0
 rw[ok.hid] at c0;have i0:(0:Int)≤(i:Int):=by omega
 have i2:(i:Int)<(r1.got.length:Int):=by omega
 have p0:∀ q:Bk W5,q.w.cell? ⟨B,0,none⟩=_:=fun q=>(q.h.cell (World.block_lt_of_cell? _ _ c0)).trans c0
 have p2:∀ q:Bk W5,q.w.cell? ⟨g,off+i*8+2,none⟩=_:=fun q=>(q.h.cell (World.block_lt_of_cell? _ _ hu)).trans hu
 have p3:∀ q:Bk W5,q.w.cell? ⟨gb,go+i,none⟩=_:=fun q=>(q.h.cell (World.block_lt_of_cell? _ _ hge)).trans hge
 have VG:-1000≤el r1.got i∧el r1.got i≤1000:=by
  have hg:=(fF hr.n5 hr.gl).1 ⟨hr.got,hr.g12⟩ i ok.lt;rw[hgl];omega
 have hwx:wrap64 (el r1.got i+1)=el r1.got i+1:=by unfold wrap64;omega
 have HEL:Hid (el r1.got i=el (ah m.rows i).got i):=by rw[Hid,hgl]
 have HGL:=aj hgl;have HVL:=aj hvl;have Sr:=aj zA;have HR1:=aj hr1;clear hu hfz hge hgz hgs how hset c0 c4 VG hgl hvl zA hr1;generalize el r1.got i=x at *;refine bK (C:=fun w'=>∃ p:Bk W5,w'=p.w) 13 bH (by kernel_rfl) ⟨⟨W5.drewN 1,bg (Below.refl _ _)⟩,rfl⟩ ?_
 simp only[List.take_succ_cons,List.take_zero]
 repeat (go_big_quiet_step ((first|rfl)))
 refine wpQuiet_nil (dK fun wE aJ=>?_)
 simp only[List.drop_succ_cons,List.drop_zero]
 have hu3:=p2 ⟨wE,aJ⟩;simp only at hu3
 have M3:=eF.out.step aJ;obtain⟨u,f3,hu,hfz,how,hlt3,hset⟩:=M3.at qJ (j:=2) (cl:=bQ r1.got) (by rw[Sr.out];rfl)
 obtain rfl:=Option.some.inj (hu.symm.trans hu3);obtain⟨gb',go',gc',e4,Qm,hge,hgz,hgs⟩:=jh how hgi
 cases e4
 obtain⟨k1,k2⟩:=hgs (x+1);obtain⟨_,_,_,sH⟩:=hset _ (bQ (r1.got.set i (x+1))) _ f3 { r1 with got:=r1.got.set i (x+1) } (by rw[Sr.out];rfl) k2 k1 (fun b hb=>.inl hb)
 have iR:=aj (sH rfl);clear sH hgs k1 k2 hset M3 how hu hu3 hfz p0 p2 p3 hlt3 hlt;go_upto_region 4 with fail
 generalize wE.setCell ⟨gb,go+i,none⟩ (.int .i64 (x+1))=W7 at *;clear hge hgz;rw[List.set_set] at iR;generalize hr2:({ r1 with got:=r1.got.set i (x+1) }:Rw)=r2 at *
 have nC:i<(m.rows.set i r2).length:=by rw[List.length_set];exact hil
 have hv2:r2.ver=(ah m.rows i).ver:=by rw[← hr2];exact HVL.out
 have hs2:ah (m.rows.set i r2) i=r2:=dM hil;obtain⟨v1,v2,jY⟩:=iR.out.put nC (j:=0) (x:=.int .i64 r2.ver) (y:=.int .i64 (r2.ver+1)) (r':={ r2 with ver:=r2.ver+1 }) (by rw[hs2];rfl) (by rw[hs2];rfl)
 have hvb:=hr.ver;simp only[Nat.add_zero] at v1 v2 jY;rw[List.set_set] at jY;have dJ:=aj jY
 have HFin:Hid ((ah m.rows i).ver≠1000000→({ m with rows:=m.rows.set i { r2 with ver:=r2.ver+1 } }:Mb)=(bW m t).1∧(bW m t).2=true):=fun hne=>by
  rw[uU.out (by obtain⟨h1,h2,h3,h4⟩:=HH.out;rintro (h|h|h|h|h);exact h1 h;exact h2 h;exact h3 h;exact h4 h;exact hne h)]
  refine⟨?_,rfl⟩;rw[← hr2,← HR1.out,HEL.out]
 by_cases gU:(ah m.rows i).ver=1000000
 ·have yY:=OX g (off+i*8) r2.ver W7 v1 (by omega)
  have HZ:=aj (jA.out (.inr (.inr (.inr (.inr gU)))));clear jY hr2 hs2 hv2 hvb HFin;go_wp2_with (go_at_call 148;refine yY.mono ?_;rintro e w' ⟨⟨T,v,rfl⟩,hw'⟩;rw[hw'];clear hw')
  exact⟨rfl,.inr ⟨HZ.out,⟨_,_,rfl⟩,_,iR.out.bU⟩⟩
 ·have yY:=Dc g (off+i*8) r2.ver W7 v1 v2 (by omega) (by omega)
  have HF:=HFin.out gU;have HF2:=aj HF;clear jY hr2 hs2 hv2 hvb HFin HF gU;go_wp2_with (go_at_call 148;refine yY.mono ?_;rintro e w' ⟨rfl,hw'⟩;rw[hw'];clear hw')
  first|go_end0|go_ret
  exact .inl ⟨HF2.out.2,rfl,by rw[← HF2.out.1];exact dJ.out.bU⟩
end
section
attribute [local irreducible] sv
theorem ae5 (m:Mb) (t:List UInt8):Gj m t=mJ m (bW m t).1 (bW m t).2:=by
 unfold Gj mJ
 split
 ·by_cases hd:m.done=true
  ·rw[if_pos hd,bW,if_pos (.inr (.inl hd))]
  ·rw[if_neg hd]
   cases hf:(bW m t).2 with
   | true=>rw[if_pos rfl,← hf]
   | false =>
    rw[if_neg (by decide)]
    unfold bW at hf ⊢
    split at hf
    ·rename_i h;rw[if_pos h]
    ·cases hf
 ·rfl
theorem WX (B:Nat) (t:List UInt8) (tb:Nat) (X:World) (R:Ending→World→Prop) (hc:X.cell? ⟨tb,0,none⟩=some (.string (sv t))) (hS:Calls Tryz.prog 156 #[.pointer (some ⟨B,0,none⟩),.string (sv t)] X R) (hR:∀ e w',R e w'→e=.returned (.tuple #[])∨Gu e) :
  Calls Tryz.prog 155 #[.pointer (some ⟨B,0,none⟩),.pointer (some ⟨tb,0,none⟩)] X R:=by
 have HR:=aj hR;clear hR;go_enter Tryz.func155,Tryz.ntmps155
 go_wp2_with fail
 refine hS.mono ?_;intro e w1 hRe;rcases HR.out e w1 hRe with rfl|⟨T,v,rfl⟩
 ·have Bl:Hid (R (.returned (.tuple #[])) w1):=hRe
  clear hRe hS;go_wp2
  first|go_end0|go_ret
  exact Bl.out
 ·exact⟨rfl,hRe⟩
theorem ae6:ab2:=by
 intro A m t w hv ht;have hmf:∀ (fn:Fn) (first cap:Array Value) (w:World),(Instr.makeFunc fn first cap).run Tryz.prog w=.ok (.func fn first cap) w:=fun _ _ _ _=>rfl
 have a0:=aF w (.cells #[.int .i64 m.id,.int .i64 m.n,.slice A.ra m.rows.length A.rc,.slice A.sa m.au.length A.sc,.bool m.done] 47);have hb0:=a0;have a1:=aF (w.alloc (.cells #[.int .i64 m.id,.int .i64 m.n,.slice A.ra m.rows.length A.rc,.slice A.sa m.au.length A.sc,.bool m.done] 47)) (.cells #[.string (sv t)] 9);have hb1:=hb0.trans (a1.mono hb0.size);have a2:=aF ((w.alloc (.cells #[.int .i64 m.id,.int .i64 m.n,.slice A.ra m.rows.length A.rc,.slice A.sa m.au.length A.sc,.bool m.done] 47)).alloc (.cells #[.string (sv t)] 9)) (.cells #[.int .i64 0,.int .i64 0,.slice none 0 0,.slice none 0 0,.bool false] 47);have hb2:=hb1.trans (a2.mono hb1.size)
 have hx0:Bx (((w.alloc (.cells #[.int .i64 m.id,.int .i64 m.n,.slice A.ra m.rows.length A.rc,.slice A.sa m.au.length A.sc,.bool m.done] 47)).alloc (.cells #[.string (sv t)] 9)).alloc (.cells #[.int .i64 0,.int .i64 0,.slice none 0 0,.slice none 0 0,.bool false] 47)) (w.heap.size) 47 #[.int .i64 m.id,.int .i64 m.n,.slice A.ra m.rows.length A.rc,.slice A.sa m.au.length A.sc,.bool m.done]:=by
  have:=((Bx.new w 47 #[.int .i64 m.id,.int .i64 m.n,.slice A.ra m.rows.length A.rc,.slice A.sa m.au.length A.sc,.bool m.done]).alloc (.cells #[.string (sv t)] 9)).alloc (.cells #[.int .i64 0,.int .i64 0,.slice none 0 0,.slice none 0 0,.bool false] 47);try simp only[World.size_alloc] at this
  exact this
 have hx1:Bx (((w.alloc (.cells #[.int .i64 m.id,.int .i64 m.n,.slice A.ra m.rows.length A.rc,.slice A.sa m.au.length A.sc,.bool m.done] 47)).alloc (.cells #[.string (sv t)] 9)).alloc (.cells #[.int .i64 0,.int .i64 0,.slice none 0 0,.slice none 0 0,.bool false] 47)) (w.heap.size+1) 9 #[.string (sv t)]:=by
  have:=(Bx.new (w.alloc (.cells #[.int .i64 m.id,.int .i64 m.n,.slice A.ra m.rows.length A.rc,.slice A.sa m.au.length A.sc,.bool m.done] 47)) 9 #[.string (sv t)]).alloc (.cells #[.int .i64 0,.int .i64 0,.slice none 0 0,.slice none 0 0,.bool false] 47);try simp only[World.size_alloc] at this
  exact this
 have hx2:Bx (((w.alloc (.cells #[.int .i64 m.id,.int .i64 m.n,.slice A.ra m.rows.length A.rc,.slice A.sa m.au.length A.sc,.bool m.done] 47)).alloc (.cells #[.string (sv t)] 9)).alloc (.cells #[.int .i64 0,.int .i64 0,.slice none 0 0,.slice none 0 0,.bool false] 47)) (w.heap.size+1+1) 47 #[.int .i64 0,.int .i64 0,.slice none 0 0,.slice none 0 0,.bool false]:=by
  have:=Bx.new ((w.alloc (.cells #[.int .i64 m.id,.int .i64 m.n,.slice A.ra m.rows.length A.rc,.slice A.sa m.au.length A.sc,.bool m.done] 47)).alloc (.cells #[.string (sv t)] 9)) 47 #[.int .i64 0,.int .i64 0,.slice none 0 0,.slice none 0 0,.bool false];try simp only[World.size_alloc] at this
  exact this
 have hP:=hv.below hb2
 have mV:=C9 155 #[.pointer (some ⟨w.heap.size+1,0,none⟩)] A m (bW m t).1 (bW m t).2 (((w.alloc (.cells #[.int .i64 m.id,.int .i64 m.n,.slice A.ra m.rows.length A.rc,.slice A.sa m.au.length A.sc,.bool m.done] 47)).alloc (.cells #[.string (sv t)] 9)).alloc (.cells #[.int .i64 0,.int .i64 0,.slice none 0 0,.slice none 0 0,.bool false] 47)) hP (fun _ _=>enters_of Tryz.func155 (by kernel_rfl) rfl _ _)
  (fun hok hf => by
   obtain⟨i,n,ok⟩:=je.1 hok;have:=(CV ok t).1;rw[this.hn,this.len])
  (fun X B fp i n hX hpl ok hd => WX B t (w.heap.size + 1) X _ ((hx1.below hX).at 0 rfl) (ae4 B m i n t fp X hpl ok hd ht) (fun e w' h => by
   rcases h with ⟨_,h,_⟩|⟨_,h,_⟩
   ·exact .inl h
   ·exact .inr h))
 have HZ0:=ae5 m t;unfold eG dZ at mV;have hWl:=hx2.lt;obtain⟨c0,c1,c2,c3,c4⟩:=Bx.r5 hx0;have HR0:=aj hx2;have HB0:=aj hb2;have HZ:=aj HZ0;clear a0 a1 a2 hb0 hb1 hb2 hx0 hx1 hx2 hP hv HZ0;unfold eG dZ;generalize mJ m (bW m t).1 (bW m t).2=pm at *;go_enter Tryz.func124,Tryz.ntmps124
 go_wp2_with fail
 generalize (((w.alloc (.cells #[.int .i64 m.id,.int .i64 m.n,.slice A.ra m.rows.length A.rc,.slice A.sa m.au.length A.sc,.bool m.done] 47)).alloc (.cells #[.string (sv t)] 9)).alloc (.cells #[.int .i64 0,.int .i64 0,.slice none 0 0,.slice none 0 0,.bool false] 47))=W0 at *;refine mV.mono ?_;rintro e w1 ⟨A2,rfl,fp,hl,hf,hb⟩;have hR:=HR0.out.below hb;have hsz:=hb.size
 have HN:Hid (∀ {z0 z1 z2 z3 z4:Value},iL w (((((w1.setCell ⟨w.heap.size+1+1,0,none⟩ z0).setCell ⟨w.heap.size+1+1,1,none⟩ z1).setCell ⟨w.heap.size+1+1,2,none⟩ z2).setCell ⟨w.heap.size+1+1,3,none⟩ z3).setCell ⟨w.heap.size+1+1,4,none⟩ z4) (fD pm.1) (fE A2 pm.1)):=fun {z0 z1 z2 z3 z4}=>by
  have hB1:=HB0.out.trans (hb.mono HB0.out.size);exact⟨fp,bP hl (kX w1 (w.heap.size+1+1)) (fun x hx e=>by have:=hf x hx;omega),fun x hx=>by have:=hf x hx;omega,(kX w1 (w.heap.size+1+1)).below hB1 hB1.size (fun x e=>by omega)⟩
 obtain⟨z0,z1,z2,z3,z4⟩:=Bx.r5 hR;obtain⟨r0,r1,r2,r3,r4⟩:=hR.f5;clear mV hl hf hb hR c0 c1 c2 c3 c4;unfold eG dZ;go_wp2;refine bodyPost_ret (v:=.tuple #[eG A2 pm.1,.bool pm.2]) (by simp[results,Tryz.results124,go_sem,eG,dZ, *]) rfl ?_
 rw[HZ.out];exact⟨_,rfl,HN.out⟩
end
end Go.Proofs.YtafimeakbdmkjaaGreat