/-
  Texts in one.
-/
import Derived.Test.YtafimeakbdmkjaaGreatXab
import Derived.Test.YtafimeakbdmkjaaGreatXaa
import Derived.Deep.QuietTactic
import Derived.BigQuiet
import Derived.Deep.RegionHeld3
namespace Go.Proofs.YtafimeakbdmkjaaGreat
open Bool renaming false->aC,true->aB
open Go renaming Addr->dH,Calls->dF,Value->aJ,World->aI,bodyPost_ret->bY,maxLen->dD
open Go.Ending renaming returned->aK
open Go.IntKind renaming i64->aA
open Go.Obj renaming cells->aH
open Go.Proofs.Tryz renaming prog->dA,underlying41->bG
open Go.RowKit renaming Hid->aG,intOf->dG
open Go.RowKit.Below renaming refl->dw
open Go.Value renaming bool->aF,int->ah,int->dB,pointer->aO,slice->aj
open Go.World renaming size_alloc->bH
open List renaming all_eq_true->bJ,getD_eq_getElem?_getD->aS,getElem?_eq_getElem->aV,length_append->bD,length_cons->bP,length_take->bM,mem_cons->bW,mem_cons_of_mem->bC,mem_cons_self->bF,mem_iff_getElem->bg,replicate->bV
open Nat renaming le_refl->cO,le_trans->bZ,lt_succ_iff_lt_or_eq->aW,zero_le->cZ
open Option renaming none->ak,some->au
set_option linter.unusedVariables false
set_option linter.unusedSimpArgs false
open Go.RowKit Go.Sort
set_option maxRecDepth 100000
set_option maxHeartbeats 12800000
variable {X' w' w4:aI} {l o v xs:List Int} {g4 hi k len lo m:Nat} {q:Rw}
structure Ra where
 ta:Option dH
 tc:Nat
 ga:Option dH
 gc:Nat
 sa:Option dH
 sc:Nat
 ma:Option dH
 mc:Nat
def fQ (A:Ra) (r:Rw):Array aJ:=#[ah aA r.ver,aj A.ta r.txt.length A.tc,aj A.ga r.got.length A.gc,aj A.sa r.dQ.length A.sc,aF r.wed,aF r.dV,ah aA r.dW,aj A.ma r.dU.length A.mc]
def iK (A:Ra) (r:Rw):aJ:=.agg (fQ A r)
structure qj (w:aI) (A:Ra) (r:Rw):Prop where
 txt:yA w A.ta r.txt
 got:Vec w A.ga r.got.length r.got
 dQ:Vec w A.sa r.dQ.length r.dQ
 dU:Vec w A.ma r.dU.length r.dU
 mt:r.txt.length<=dD
 mg:r.got.length<=dD
 ms:r.dQ.length<=dD
 mm:r.dU.length<=dD
theorem qj.below {w: aI} {A: Ra} {r: Rw} (h:qj w A r) (hb:Below w.heap.size w w'):qj w' A r:=⟨h.txt.below hb,h.got.below hb (cO _),h.dQ.below hb (cO _),h.dU.below hb (cO _),h.mt,h.mg,h.ms,h.mm⟩
theorem Bx.r8 {w: aI} {B: Nat} {T: TypeId} {x0 x1 x2 x3 x4 x5 x6 x7: aJ} (h:Bx w B T #[x0,x1,x2,x3,x4,x5,x6,x7]):(w.cell? ⟨B,0,ak⟩=au x0/\w.cell? ⟨B,1,ak⟩=au x1/\w.cell? ⟨B,2,ak⟩=au x2/\w.cell? ⟨B,3,ak⟩=au x3)/\w.cell? ⟨B,4,ak⟩=au x4/\w.cell? ⟨B,5,ak⟩=au x5/\w.cell? ⟨B,6,ak⟩=au x6/\w.cell? ⟨B,7,ak⟩=au x7 :=
 ⟨⟨h.at 0 rfl,h.at 1 rfl,h.at 2 rfl,h.at 3 rfl⟩,h.at 4 rfl,h.at 5 rfl,h.at 6 rfl,h.at 7 rfl⟩
theorem dX (w:aI) (o:Obj):Below w.heap.size w (w.alloc o):=(dw _ _).alloc (cO _) _
theorem Vx {n: Int} (hk:k<l.length) (h:inB (el l k) 0 (n-1)=aC):lY l n=aC:=by
 have:l.all (fun x=>inB x 0 (n-1))=aC:=by
  rw[List.all_eq_false];exact⟨el l k,kK hk,by simp[h]⟩
 rw[lY,this]
 rfl
theorem YM {n: Int} (h:∀ k,k<l.length->inB (el l k) 0 (n-1)=aB):lY l n=sK l:=by
 have:l.all (fun x=>inB x 0 (n-1))=aB:=by
  rw[bJ];intro x hx;obtain⟨j,hj,rfl⟩:=bg.1 hx;have:=h j hj;simpa[el,hj] using this
 rw[lY,this]
 rfl
theorem YN (a:Option dH) (cap:Nat) (l:List Int) (n:Int) (w:aI) (hv:Vec w a l.length l) (hm:l.length<=dD) (hn:-1000<=n/\n<=1000) :
  dF dA 114 #[aj a l.length cap,ah aA n] w fun e w'=>e=aK (aF (lY l n))/\Below w.heap.size w w':=by
 have hR:=FY a l.length cap l w hv hm;have HV:=dP hv;have hwn:wrap64 (n-1)=n-1:=by unfold wrap64;omega
 unfold dD at hm;clear hv;go_enter Tryz.func114,Tryz.ntmps114
 go_wp2
 go_loop [5] (fun i=>∃ k:Nat,k<=l.length/\i=ah aA k/\∀ j,j<k->inB (el l j) 0 (n-1)=aB) (fun i=>l.length-(dG i).toNat)
 case atStart=>exact⟨0,cZ _,rfl,fun j hj=>by omega⟩
 case round =>
  obtain⟨k,hk,rfl,hall⟩:=hrel;have HA:=dP hall;clear hall;by_cases hlt:k<l.length
  ·rcases HV.out.2.2 with h0|⟨b,off,rfl,hc⟩
   ·omega
   have hck:=hc k hlt;have k1:(k:Int)<l.length:=by omega
   have k0:(0:Int)<=k:=by omega
   have hI:=fun X=>gI (el l k) 0 (n-1) X
   clear hc
   cases hb:inB (el l k) 0 (n-1) with
   | true =>
    rw[hb] at hI
    have HN:aG (∀ j,j<k+1->inB (el l j) 0 (n-1)=aB):=fun j hj=>by
     rcases aW.1 hj with h1|h1
     ·exact HA.out j h1
     ·rw[h1];exact hb
    generalize el l k=x at *;clear hb;go_wp2_with (go_at_call 40;refine fV (hI _) ?_)
    go_round
    case rel=>exact⟨k+1,by omega,by go_num,HN.out⟩
    case measure=>simp[dG];omega
   | false =>
    rw[hb] at hI;have HZ:=dP (Vx hlt hb);generalize el l k=x at *;clear hb;go_wp2_with (go_at_call 40;refine fV (hI _) ?_)
    go_ret
    exact⟨dZ (by rw[HZ.out]),dw _ _⟩
  ·have k1:¬ ((k:Int)<l.length):=by omega
   have HZ:aG (lY l n=sK l):=YM (fun j hj=>HA.out j (by omega))
   generalize sK l=Q at *;go_wp2_with (go_at_call 112;refine hR.mono ?_;rintro e w2 ⟨rfl,q,hw2⟩)
   go_ret
   exact⟨dZ (by rw[HZ.out]),fO (dw _ _)⟩
theorem KF {n: Int} (h1:okB v=aB) (h2:(v.length:Int)=n) (h3:∀ k,k<v.length->el v k<=12):lG v n=aB:=by
 have:v.all (fun x=>decide (x<=12))=aB:=by
  rw[bJ];intro x hx;obtain⟨j,hj,rfl⟩:=bg.1 hx;have:=h3 j hj;simpa[el,hj] using this
 rw[lG,h1,this,decide_eq_true h2]
 rfl
theorem Rn {n: Int} (hk:k<v.length) (h:¬ el v k<=12):lG v n=aC:=by
 have:v.all (fun x=>decide (x<=12))=aC:=by
  rw[List.all_eq_false];exact⟨el v k,kK hk,by simpa using h⟩
 rw[lG,this];simp
theorem Uk (a:Option dH) (cap:Nat) (l:List Int) (n:Int) (w:aI) (hv:Vec w a l.length l) (hm:l.length<=dD) :
  dF dA 115 #[aj a l.length cap,ah aA n] w fun e w'=>e=aK (aF (lG l n))/\w'=w:=by
 have hO:=qY a l.length cap l w hv hm;have HV:=dP hv;unfold dD at hm;clear hv
 cases hok:okB l with
 | false =>
  have HZ:aG (lG l n=aC):=by rw[aG,lG,hok];rfl
  rw[hok] at hO;clear hok;go_enter Tryz.func115,Tryz.ntmps115
  go_wp2_with (go_at_call 84;refine fV hO ?_)
  go_ret
  exact⟨dZ (by rw[HZ.out]),rfl⟩
 | true =>
  rw[hok] at hO;by_cases hl:(l.length:Int)=n
  ·have e1:((l.length:Int) != n)=aC:=by simpa using hl
   have HP:aG ((∀ k,k<l.length->el l k<=12)->lG l n=aB):=fun h=>KF hok hl h
   clear hok hl;go_enter Tryz.func115,Tryz.ntmps115
   go_wp2_with (go_at_call 84;refine fV hO ?_)
   go_loop [5] (fun i=>∃ k:Nat,k<=l.length/\i=ah aA k/\∀ j,j<k->el l j<=12) (fun i=>l.length-(dG i).toNat)
   case atStart=>exact⟨0,cZ _,rfl,fun j hj=>by omega⟩
   case round =>
    obtain⟨k,hk,rfl,hall⟩:=hrel;have HA:=dP hall;clear hall;by_cases hlt:k<l.length
    ·rcases HV.out.2.2 with h0|⟨b,off,rfl,hc⟩
     ·omega
     have hck:=hc k hlt;have k1:(k:Int)<l.length:=by omega
     have k0:(0:Int)<=k:=by omega
     clear hc;by_cases h12:el l k<=12
     ·have g12:¬ (12<el l k):=by omega
      have HN:aG (∀ j,j<k+1->el l j<=12):=fun j hj=>by
       rcases aW.1 hj with h1|h1
       ·exact HA.out j h1
       ·rw[h1];exact h12
      generalize el l k=x at *;clear h12;go_wp2
      go_round
      case rel=>exact⟨k+1,by omega,by go_num,HN.out⟩
      case measure=>simp[dG];omega
     ·have g12:12<el l k:=by omega
      have HZ:aG (lG l n=aC):=Rn hlt h12;generalize el l k=x at *;clear h12;go_wp2;go_ret
      exact⟨dZ (by rw[HZ.out]),rfl⟩
    ·have k1:¬ ((k:Int)<l.length):=by omega
     have HZ:aG (lG l n=aB):=HP.out (fun j hj=>HA.out j (by omega))
     go_wp2;go_ret
     exact⟨dZ (by rw[HZ.out]),rfl⟩
  ·have e1:((l.length:Int) != n)=aB:=by simpa using hl
   have HZ:aG (lG l n=aC):=by rw[aG,lG,decide_eq_false hl];simp
   clear hok hl;go_enter Tryz.func115,Tryz.ntmps115
   go_wp2_with (go_at_call 84;refine fV hO ?_)
   go_ret
   exact⟨dZ (by rw[HZ.out]),rfl⟩
section
theorem Vy {r: Rw} {n: Int} (h:inB n 1 5=aC):gu r n=aC:=by rw[gu,h];rfl
theorem Vz {r: Rw} {n: Int} (h:inB r.ver 0 1000000=aC):gu r n=aC:=by rw[gu,h];simp
theorem au5 {r: Rw} {n: Int} (h:¬ r.txt.length<=12):gu r n=aC:=by rw[gu,decide_eq_false h];simp
theorem Ip {r: Rw} {n: Int} (h:lG r.got n=aC):gu r n=aC:=by rw[gu,h];simp
theorem VA {r: Rw} {n: Int} (h:lY r.dQ n=aC):gu r n=aC:=by rw[gu,h];simp
theorem au6 {r: Rw} {n: Int} (hk:k<r.txt.length) (h:¬ (r.txt.getD k []).length<=20):gu r n=aC:=by
 have:r.txt.all (fun t=>decide (t.length<=20))=aC:=by
  rw[List.all_eq_false];refine⟨r.txt[k],List.getElem_mem hk, ?_⟩;rw[aS,aV hk] at h;simpa using h
 rw[gu,this];simp
def JJ (r:Rw) (n:Int):Bool:=if r.dV then r.wed&&(inB r.dW 0 (n-1)&&lG r.dU n) else decide (r.dW=0)&&decide (r.dU=[])
theorem YO {r: Rw} {n: Int} (h1:inB n 1 5=aB) (h2:inB r.ver 0 1000000=aB) (h3:r.txt.length<=12) (h4:lG r.got n=aB) (h5:lY r.dQ n=aB) (h6:∀ k,k<r.txt.length->(r.txt.getD k []).length<=20):gu r n=JJ r n:=by
 have:r.txt.all (fun t=>decide (t.length<=20))=aB:=by
  rw[bJ];intro t ht;obtain⟨j,hj,rfl⟩:=bg.1 ht;have:=h6 j hj;rw[aS,aV hj] at this;simpa using this
 rw[gu,h1,h2,decide_eq_true h3,h4,h5,this]
 rfl
attribute [local irreducible] sv
theorem G8 (A:Ra) (r:Rw) (n:Int) (w:aI) (hv:qj w A r) :
  dF dA 74 #[iK A r,ah aA n] w fun e w'=>e=aK (aF (gu r n))/\Below w.heap.size w w':=by
 have hB0:=dX w (aH (fQ A r) 44);have hx:=Bx.new w 44 (fQ A r);have h0:=hv.below hB0;generalize hW:w.alloc (aH (fQ A r) 44)=W at *;have hsz:w.heap.size<W.heap.size:=hx.lt;obtain⟨ver,txt,got,dQ,wed,dV,dW,dU⟩:=r;obtain⟨ta,tc,ga,gc,sa,sc,ma,mc⟩:=A;have hw0:w.alloc (aH #[ah aA ver,aj ta txt.length tc,aj ga got.length gc,aj sa dQ.length sc,aF wed,aF dV,ah aA dW,aj ma dU.length mc] 44)=W:=hW;obtain⟨⟨c0,c1,c2,c3⟩,c4,c5,c6,c7⟩:=Bx.r8 hx;have HX:aG (Bx W w.heap.size 44 #[ah aA ver,aj ta txt.length tc,aj ga got.length gc,aj sa dQ.length sc,aF wed,aF dV,ah aA dW,aj ma dU.length mc]):=hx;obtain⟨htx,hgo,hsu,htr,mt,mg,ms,mm⟩:=h0;simp only at htx hgo hsu htr mt mg ms mm c0 c1 c2 c3 c4 c5 c6 c7
 have HB0:aG (Below w.heap.size w W):=hB0;unfold iK fQ;clear hv hx hW hB0;have NJ:=qY ga got.length gc got W hgo mg;simp only
 cases e1:inB n 1 5 with
 | false =>
  have HZ:aG (gu ⟨ver,txt,got,dQ,wed,dV,dW,dU⟩ n=aC):=Vy e1;go_enter Tryz.func74,Tryz.ntmps74
  go_wp2_with (first|(go_at_call 40;refine fV (gI _ _ _ _) ?_))
  go_ret
  exact⟨dZ (by rw[HZ.out]),HB0.out⟩
 | true =>
 have jq:=iZ.1 e1;have FZ:=YN sa sc dQ n W hsu ms (by omega)
 have BQ:aG (inB n 1 5=aB):=e1
 cases e2:inB ver 0 1000000 with
 | false =>
  have HZ:aG (gu ⟨ver,txt,got,dQ,wed,dV,dW,dU⟩ n=aC):=Vz e2;go_enter Tryz.func74,Tryz.ntmps74
  go_wp2_with (first|(go_at_call 40;refine fV (gI _ _ _ _) ?_))
  go_ret
  exact⟨dZ (by rw[HZ.out]),HB0.out⟩
 | true =>
 have yT:aG (inB ver 0 1000000=aB):=e2;by_cases h12:txt.length<=12;rotate_left
 ·have g12:(12:Int)<txt.length:=by omega
  have HZ:aG (gu ⟨ver,txt,got,dQ,wed,dV,dW,dU⟩ n=aC):=au5 h12;go_enter Tryz.func74,Tryz.ntmps74
  go_wp2_with (first|(go_at_call 40;refine fV (gI _ _ _ _) ?_))
  go_ret
  exact⟨dZ (by rw[HZ.out]),HB0.out⟩
 have g12:¬ ((12:Int)<txt.length):=by omega
 cases e4:okB got with
 | false =>
  rw[e4] at NJ;have HZ:aG (gu ⟨ver,txt,got,dQ,wed,dV,dW,dU⟩ n=aC):=Ip (by simp[lG,e4])
  go_enter Tryz.func74,Tryz.ntmps74
  go_wp2_with (first|(go_at_call 40;refine fV (gI _ _ _ _) ?_)|(go_at_call 84;refine fV NJ ?_))
  go_ret
  exact⟨dZ (by rw[HZ.out]),HB0.out⟩
 | true =>
 rw[e4] at NJ;by_cases h5:(got.length:Int)=n;rotate_left
 ·have g5:((got.length:Int) != n)=aB:=by simpa using h5
  have HZ:aG (gu ⟨ver,txt,got,dQ,wed,dV,dW,dU⟩ n=aC):=Ip (by simp[lG,h5])
  go_enter Tryz.func74,Tryz.ntmps74
  go_wp2_with (first|(go_at_call 40;refine fV (gI _ _ _ _) ?_)|(go_at_call 84;refine fV NJ ?_))
  go_ret
  exact⟨dZ (by rw[HZ.out]),HB0.out⟩
 have g5:((got.length:Int) != n)=aC:=by simpa using h5
 have HSM:aG ((∀ k,k<got.length->el got k<=12)->lG got n=aB):=fun h=>KF e4 h5 h
 have HG5:aG ((got.length:Int)=n):=h5;clear h5 e4
 cases e6:lY dQ n with
 | false =>
  rw[e6] at FZ;have HZ:aG (gu ⟨ver,txt,got,dQ,wed,dV,dW,dU⟩ n=aC):=VA e6;go_enter Tryz.func74,Tryz.ntmps74
  go_wp2_with (first|(go_at_call 40;refine fV (gI _ _ _ _) ?_)|(go_at_call 84;refine fV NJ ?_)|(go_at_call 114;refine FZ.mono ?_;rintro e w2 ⟨rfl,hb2⟩;obtain⟨⟨d0,d1,d2,d3⟩,d4,d5,d6,d7⟩:=Bx.r8 (HX.out.below hb2)))
  go_ret
  exact⟨dZ (by rw[HZ.out]),eU HB0.out hb2⟩
 | true =>
 rw[e6] at FZ;have HN6:aG (lY dQ n=aB):=e6;clear e6;have HTX:aG (yA W ta txt):=htx;have HGO:aG (Vec W ga got.length got):=hgo;have HTR:aG (Vec W ma dU.length dU):=htr;clear htx hgo hsu htr;go_enter Tryz.func74,Tryz.ntmps74
 go_wp2_with (first|(go_at_call 40;refine fV (gI _ _ _ _) ?_)|(go_at_call 84;refine fV NJ ?_)|(go_at_call 114;refine FZ.mono ?_;rintro e w2 ⟨rfl,hb2⟩;obtain⟨⟨d0,d1,d2,d3⟩,d4,d5,d6,d7⟩:=Bx.r8 (HX.out.below hb2)))
 have HB2:aG (Below w.heap.size w w2):=eU HB0.out hb2;have HT2:aG (yA w2 ta txt):=HTX.out.below hb2;have HG2:aG (Vec w2 ga got.length got):=HGO.out.below hb2 (cO _);have hTr:=Uk ma mc dU n w2 (HTR.out.below hb2 (cO _)) mm;unfold dD at mt mg ms mm;clear NJ FZ hb2 c0 c1 c2 c3 c4 c5 c6 c7 hw0 g5 e1 e2 HTX HGO HTR
 go_loop [5] (fun i=>∃ k:Nat,k<=txt.length/\i=ah aA k/\∀ j,j<k->(txt.getD j []).length<=20) (fun i=>txt.length-(dG i).toNat)
 case atStart=>exact⟨0,cZ _,rfl,fun j hj=>by omega⟩
 case round =>
  obtain⟨k,hk,rfl,hall⟩:=hrel;have HA:=dP hall;clear hall;by_cases hlt:k<txt.length
  ·rcases HT2.out with h0|⟨b,off,rfl,hc⟩
   ·omega
   have hck:=hc k hlt;have k1:(k:Int)<txt.length:=by omega
   have k0:(0:Int)<=k:=by omega
   clear hc;have aH1:=BP (txt.getD k []);by_cases h20:(txt.getD k []).length<=20
   ·have g20:¬ ((20:Int)<((txt.getD k []).length:Int)):=by omega
    have HN:aG (∀ j,j<k+1->(txt.getD j []).length<=20):=fun j hj=>by
     rcases aW.1 hj with h1|h1
     ·exact HA.out j h1
     ·rw[h1];exact h20
    generalize txt.getD k []=t at *;clear h20;go_wp2
    go_round
    case rel=>exact⟨k+1,by omega,by go_num,HN.out⟩
    case measure=>simp[dG];omega
   ·have g20:(20:Int)<((txt.getD k []).length:Int):=by omega
    have HZ:aG (gu ⟨ver,txt,got,dQ,wed,dV,dW,dU⟩ n=aC):=au6 (k:=k) hlt h20;generalize txt.getD k []=t at *;clear h20;go_wp2;go_ret
    exact⟨dZ (by rw[HZ.out]),HB2.out⟩
  ·have k1:¬ ((k:Int)<txt.length):=by omega
   have BA:aG (∀ j,j<txt.length->(txt.getD j []).length<=20):=fun j hj=>HA.out j (by omega)
   clear HA HT2;go_wp2
   go_loop [6] (fun i=>∃ m:Nat,m<=got.length/\i=ah aA m/\∀ j,j<m->el got j<=12) (fun i=>got.length-(dG i).toNat)
   case atStart=>exact⟨0,cZ _,rfl,fun j hj=>by omega⟩
   case round =>
    obtain⟨m,hm,rfl,hall⟩:=hrel;have HA:=dP hall;clear hall;by_cases hlt2:m<got.length
    ·rcases HG2.out.2.2 with h0|⟨b,off,rfl,hc⟩
     ·omega
     have hck:=hc m hlt2;have k1:(m:Int)<got.length:=by omega
     have k0:(0:Int)<=m:=by omega
     clear hc;by_cases Ul:el got m<=12
     ·have aH2:¬ (12<el got m):=by omega
      have HN:aG (∀ j,j<m+1->el got j<=12):=fun j hj=>by
       rcases aW.1 hj with h1|h1
       ·exact HA.out j h1
       ·rw[h1];exact Ul
      generalize el got m=x at *;clear Ul;go_wp2
      go_round
      case rel=>exact⟨m+1,by omega,by go_num,HN.out⟩
      case measure=>simp[dG];omega
     ·have aH2:12<el got m:=by omega
      have HZ:aG (gu ⟨ver,txt,got,dQ,wed,dV,dW,dU⟩ n=aC):=Ip (Rn (v:=got) hlt2 Ul);generalize el got m=x at *;clear Ul;go_wp2;go_ret
      exact⟨dZ (by rw[HZ.out]),HB2.out⟩
    ·have k1:¬ ((m:Int)<got.length):=by omega
     have HE:aG (gu ⟨ver,txt,got,dQ,wed,dV,dW,dU⟩ n=JJ ⟨ver,txt,got,dQ,wed,dV,dW,dU⟩ n):=YO BQ.out yT.out h12 (HSM.out (fun j hj=>HA.out j (by omega))) HN6.out BA.out
     clear HA HG2 BA;have hwn:wrap64 (n-1)=n-1:=by unfold wrap64;omega
     cases dV with
     | true =>
      cases wed with
      | false =>
       have HZ:aG (gu ⟨ver,txt,got,dQ,aC,aB,dW,dU⟩ n=aC):=by rw[aG,HE.out];rfl
       go_wp2;go_ret
       exact⟨dZ (by rw[HZ.out]),HB2.out⟩
      | true =>
       cases e7:inB dW 0 (n-1) with
       | false =>
        have HZ:aG (gu ⟨ver,txt,got,dQ,aB,aB,dW,dU⟩ n=aC):=by rw[aG,HE.out,JJ];simp[e7]
        go_wp2_with (first|(go_at_call 40;refine fV (gI _ _ _ _) ?_))
        go_ret
        exact⟨dZ (by rw[HZ.out]),HB2.out⟩
       | true =>
        have HZ:aG (gu ⟨ver,txt,got,dQ,aB,aB,dW,dU⟩ n=lG dU n):=by rw[aG,HE.out,JJ];simp[e7]
        generalize lG dU n=Q at *;go_wp2_with (first|(go_at_call 40;refine fV (gI _ _ _ _) ?_)|(go_at_call 115;refine fV hTr ?_))
        go_ret
        exact⟨dZ (by rw[HZ.out]),HB2.out⟩
     | false =>
      have HZ:aG (gu ⟨ver,txt,got,dQ,wed,aC,dW,dU⟩ n=(decide (dW=0)&&decide (dU=[]))):=by rw[aG,HE.out];rfl
      by_cases h7:dW=0
      ·have g7:(dW==0)=aB:=by simpa using h7
       have HZ2:aG (gu ⟨ver,txt,got,dQ,wed,aC,dW,dU⟩ n=decide (dU=[])):=by rw[aG,HZ.out,decide_eq_true h7];rfl
       by_cases h8:dU=[]
       ·have g8:((dU.length:Int)==0)=aB:=by rw[h8];rfl
        have HZ3:aG (gu ⟨ver,txt,got,dQ,wed,aC,dW,dU⟩ n=aB):=by rw[aG,HZ2.out,decide_eq_true h8]
        clear h7 h8;go_wp2;go_ret
        exact⟨dZ (by rw[HZ3.out]),HB2.out⟩
       ·have g8:((dU.length:Int)==0)=aC:=by
         have:=List.length_pos_iff.2 h8;simp;omega
        have HZ3:aG (gu ⟨ver,txt,got,dQ,wed,aC,dW,dU⟩ n=aC):=by rw[aG,HZ2.out,decide_eq_false h8]
        clear h7 h8;go_wp2;go_ret
        exact⟨dZ (by rw[HZ3.out]),HB2.out⟩
      ·have g7:(dW==0)=aC:=by simpa using h7
       have HZ3:aG (gu ⟨ver,txt,got,dQ,wed,aC,dW,dU⟩ n=aC):=by rw[aG,HZ.out,decide_eq_false h7];rfl
       clear h7;go_wp2;go_ret
       exact⟨dZ (by rw[HZ3.out]),HB2.out⟩
end
section
theorem Iq (hk:k<o.length) (h:el o k∉l):o.all (fun x=>decide (x∈l))=aC:=by
 rw[List.all_eq_false];exact⟨el o k,kK hk,by simpa using h⟩
theorem KH (h:∀ k,k<o.length->el o k∈l):o.all (fun x=>decide (x∈l))=aB:=by
 rw[bJ];intro x hx;obtain⟨j,hj,rfl⟩:=bg.1 hx;have:=h j hj;simpa[el,hj] using this
theorem YP (a b:Option dH) (c d:Nat) (l o:List Int) (w:aI) (hv:Vec w a l.length l) (hu:Vec w b o.length o) (hm:l.length<=dD) (hm2:o.length<=dD) :
  dF dA 151 #[aj a l.length c,aj b o.length d] w fun e w'=>e=aK (aF (o.all (fun x=>decide (x∈l))))/\w'=w:=by
 have hH:=fun x=>qL a l.length c x l w hv hm
 have HU:=dP hu;unfold dD at hm hm2;clear hu hv;go_enter Tryz.func151,Tryz.ntmps151
 go_wp2
 go_loop [5] (fun i=>∃ k:Nat,k<=o.length/\i=ah aA k/\∀ j,j<k->el o j∈l) (fun i=>o.length-(dG i).toNat)
 case atStart=>exact⟨0,cZ _,rfl,fun j hj=>by omega⟩
 case round =>
  obtain⟨k,hk,rfl,hall⟩:=hrel;have HA:=dP hall;clear hall;by_cases hlt:k<o.length
  ·rcases HU.out.2.2 with h0|⟨b',off,rfl,hc⟩
   ·omega
   have hck:=hc k hlt;have k1:(k:Int)<o.length:=by omega
   have k0:(0:Int)<=k:=by omega
   have hI:=hH (el o k);clear hc hH;by_cases hb:el o k∈l
   ·rw[decide_eq_true hb] at hI
    have HN:aG (∀ j,j<k+1->el o j∈l):=fun j hj=>by
     rcases aW.1 hj with h1|h1
     ·exact HA.out j h1
     ·rw[h1];exact hb
    generalize el o k=x at *;clear hb;go_wp2_with (go_at_call 113;refine fV hI ?_)
    go_round
    case rel=>exact⟨k+1,by omega,by go_num,HN.out⟩
    case measure=>simp[dG];omega
   ·rw[decide_eq_false hb] at hI
    have HZ:=dP (Iq hlt hb);generalize el o k=x at *;clear hb;go_wp2_with (go_at_call 113;refine fV hI ?_)
    go_ret
    exact⟨dZ (by rw[HZ.out]),rfl⟩
  ·have k1:¬ ((k:Int)<o.length):=by omega
   have HZ:aG (o.all (fun x=>decide (x∈l))=aB):=KH (fun j hj=>HA.out j (by omega))
   go_wp2;go_ret
   exact⟨dZ (by rw[HZ.out]),rfl⟩
attribute [local irreducible] sv
end
def jM (r:Rw):List dY:=[pO r.txt,gJ r.got,gJ r.dQ,gJ r.dU]
def jr (A:Ra) (r:Rw):List aJ:=[aj A.ta r.txt.length A.tc,aj A.ga r.got.length A.gc,aj A.sa r.dQ.length A.sc,aj A.ma r.dU.length A.mc]
def Nb (w w':aI) (e:Ending) (r:Rw):Prop:=∃ A:Ra,e=aK (iK A r)/\kE w w' (jM r) (jr A r)
theorem YQ {w: aI} {c1 c2 c3 c4: dY} {v1 v2 v3 v4: aJ} {f1 f2 f3 f4: Fp} (h1:dY.ow w c1 v1 f1) (h2:dY.ow w c2 v2 f2) (h3:dY.ow w c3 v3 f3) (h4:dY.ow w c4 v4 f4) (d1:∀ b,f1 b->¬ (f2 b\/f3 b\/f4 b)) (d2:∀ b,f2 b->¬ (f3 b\/f4 b)) (d3:∀ b,f3 b->¬ f4 b) :
  gB w [c1,c2,c3,c4] [v1,v2,v3,v4] (fun b=>f1 b\/f2 b\/f3 b\/f4 b) :=
 ⟨v1,_,f1,fun b=>f2 b\/f3 b\/f4 b,rfl,h1,⟨v2,_,f2,fun b=>f3 b\/f4 b,rfl,h2,⟨v3,_,f3,f4,rfl,h3,⟨v4,[],f4,fun _=>False,rfl,h4,⟨rfl,fun _ h=>h⟩,fun _ _ h=>h,fun b=>by simp⟩,d3,fun b=>Iff.rfl⟩,d2,fun b=>Iff.rfl⟩,d1,fun b=>Iff.rfl⟩
theorem KJ (w:aI):dY.ow w (pO []) (aj ak 0 0) (fun _=>False):=uN.2 ⟨ak,0,ak,rfl,iQ.nil _ _ Il,fun b=>by simp⟩
theorem vV (w:aI):dY.ow w (gJ []) (aj ak 0 0) (fun _=>False):=je.2 ⟨ak,0,ak,rfl,iQ.nil _ _ Il,fun b=>by simp⟩
theorem YR {w: aI} (hb:Below w.heap.size w w'):kE w w' (jM nJ) (jr ⟨ak,0,ak,0,ak,0,ak,0⟩ nJ) :=
 ⟨_,YQ (KJ w') (vV w') (vV w') (vV w') (fun b h=>absurd h id) (fun b h=>absurd h id) (fun b h=>absurd h id),fun b h=>by rcases h with h|h|h|h<;>exact absurd h id,hb⟩
theorem ak6 (w:aI) (n:Nat) (hn:n<=dD):OI (w.alloc (aH (madeCells #[ah aA 0] n) 2)) w.heap.size 0 n n (bV n 0):=by
 have h:=Dp w #[ah aA 0] 1 n 2 rfl (by omega) hn
 rw[Nat.mul_one] at h
 have e:(bV n (#[dB aA 0]:Array aJ).toList).flatten=(bV n (0:Int)).map (dB aA):=by
  rw[List.map_replicate];clear h hn
  induction n with
  | zero=>rfl
  | succ n ih=>rw[List.replicate_succ,List.replicate_succ,List.flatten_cons,ih];rfl
 rw[e] at h;exact h
theorem JK (w:aI) (g:Nat) {a b c d e f h i: aJ}:eX (fun x=>x=g) w ((((((((w.setCell ⟨g,0,ak⟩ a).setCell ⟨g,1,ak⟩ b).setCell ⟨g,2,ak⟩ c).setCell ⟨g,3,ak⟩ d).setCell ⟨g,4,ak⟩ e).setCell ⟨g,5,ak⟩ f).setCell ⟨g,6,ak⟩ h).setCell ⟨g,7,ak⟩ i) :=
 (((((((eX.set w g 0 a).trans (eX.set _ g 1 b) (fun _ _ h=>h)).trans (eX.set _ g 2 c) (fun _ _ h=>h)).trans (eX.set _ g 3 d) (fun _ _ h=>h)).trans (eX.set _ g 4 e) (fun _ _ h=>h)).trans (eX.set _ g 5 f) (fun _ _ h=>h)).trans (eX.set _ g 6 h) (fun _ _ h=>h)).trans (eX.set _ g 7 i) (fun _ _ h=>h)
theorem Bx.f8 {w: aI} {B: Nat} {T: TypeId} {cs: Array aJ} (h:Bx w B T cs):(w.frozen? ⟨B,0,ak⟩=aC/\w.frozen? ⟨B,1,ak⟩=aC/\w.frozen? ⟨B,2,ak⟩=aC/\w.frozen? ⟨B,3,ak⟩=aC)/\w.frozen? ⟨B,4,ak⟩=aC/\w.frozen? ⟨B,5,ak⟩=aC/\w.frozen? ⟨B,6,ak⟩=aC/\w.frozen? ⟨B,7,ak⟩=aC :=
 ⟨⟨h.f 0,h.f 1,h.f 2,h.f 3⟩,h.f 4,h.f 5,h.f 6,h.f 7⟩
theorem NK (n:Int) (w:aI) :
  dF dA 80 #[ah aA n] w fun e w'=>Nb w w' e (jS n):=by
 have hb0:=dX w (aH #[ah aA 0,aj ak 0 0,aj ak 0 0,aj ak 0 0,aF aC,aF aC,ah aA 0,aj ak 0 0] 44);have hx:=Bx.new w 44 #[ah aA 0,aj ak 0 0,aj ak 0 0,aj ak 0 0,aF aC,aF aC,ah aA 0,aj ak 0 0];have HB0:=dP hb0;generalize hW:w.alloc (aH #[ah aA 0,aj ak 0 0,aj ak 0 0,aj ak 0 0,aF aC,aF aC,ah aA 0,aj ak 0 0] 44)=W at *;have hlt:=hx.lt
 cases e1:inB n 1 5 with
 | false =>
  have HZ:aG (jS n=nJ):=by rw[aG,jS,e1];rfl
  obtain⟨⟨c0,c1,c2,c3⟩,c4,c5,c6,c7⟩:=hx.r8;obtain⟨⟨f0,f1,f2,f3⟩,f4,f5,f6,f7⟩:=hx.f8;clear hx hb0;go_enter Tryz.func80,Tryz.ntmps80
  go_wp2_with (go_at_call 40;refine fV (gI _ _ _ _) ?_)
  refine bY (v:=iK ⟨ak,0,ak,0,ak,0,ak,0⟩ nJ) (by simp[results,Tryz.results80,go_sem,iK,fQ,nJ, *]) rfl ?_
  rw[HZ.out];exact⟨_,rfl,YR ((JK W w.heap.size).below HB0.out HB0.out.size (fun b h=>by rw[h];exact cO _))⟩
 | true =>
  have hn:=iZ.1 e1;obtain⟨N,rfl⟩:∃ N:Nat,n=(N:Int):=⟨n.toNat,by omega⟩
  have HZ:aG (jS (N:Int)=⟨0,[],bV N 0,[],aC,aC,0,[]⟩):=by rw[aG,jS,e1];simp
  have hmk:=run_make_row' (P:=dA) 41 2 (ah aA 0) 8 bG Tryz.info2 rfl aA aA N (by omega) (by omega)
  have hM:=ak6 (w.alloc (aH #[ah aA 0,aj ak 0 0,aj (au ⟨w.heap.size+1,0,ak⟩) N N,aj ak 0 0,aF aC,aF aC,ah aA 0,aj ak 0 0] 44)) N (by unfold dD;omega)
  have hbM:Below w.heap.size w ((w.alloc (aH #[ah aA 0,aj ak 0 0,aj (au ⟨w.heap.size+1,0,ak⟩) N N,aj ak 0 0,aF aC,aF aC,ah aA 0,aj ak 0 0] 44)).alloc (aH (madeCells #[ah aA 0] N) 2)):=(dX w _).trans ((dX _ _).mono (dX w _).size);rw[bH] at hM
  have HA:aG (kE w ((w.alloc (aH #[ah aA 0,aj ak 0 0,aj (au ⟨w.heap.size+1,0,ak⟩) N N,aj ak 0 0,aF aC,aF aC,ah aA 0,aj ak 0 0] 44)).alloc (aH (madeCells #[ah aA 0] N) 2)) (jM ⟨0,[],bV N 0,[],aC,aC,0,[]⟩) (jr ⟨ak,0,au ⟨w.heap.size+1,0,ak⟩,N,ak,0,ak,0⟩ ⟨0,[],bV N 0,[],aC,aC,0,[]⟩)):=by
   refine⟨_,YQ (KJ _) (f2:=fun b=>b=w.heap.size+1) ?_ (vV _) (vV _) (fun b h=>absurd h id) (fun b _ h=>by rcases h with h|h<;>exact absurd h id) (fun b h=>absurd h id),fun b h=>?_,hbM⟩
   ·refine je.2 ⟨_,N,au (w.heap.size+1),rfl,iQ.of ?_,fun b=>by simp[eq_comm]⟩
    have e:(bV N (0:Int)).length=N:=List.length_replicate;simp only[e]
    exact hM
   ·rcases h with h|h|h|h
    ·exact absurd h id
    ·rw[h];omega
    ·exact absurd h id
    ·exact absurd h id
  clear hx hb0 hM hbM hW hlt HB0;go_enter Tryz.func80,Tryz.ntmps80
  go_wp2_with (go_at_call 40;refine fV (gI _ _ _ _) ?_)
  refine bY (v:=iK ⟨ak,0,au ⟨w.heap.size+1,0,ak⟩,N,ak,0,ak,0⟩ ⟨0,[],bV N 0,[],aC,aC,0,[]⟩) (by simp[results,Tryz.results80,go_sem,iK,fQ]) rfl ?_
  rw[HZ.out];exact⟨_,rfl,HA.out⟩
abbrev Vw:=Int×List Int
def NM (v:Vw):Prop:=(1<=v.1/\v.1<=1000000)/\(1<=v.2.length/\v.2.length<=8)/\v.2.Pairwise (·<·)/\∀ x∈v.2,0<=x/\x<=99
instance (v:Vw):Decidable (NM v):=by unfold NM;infer_instance
theorem aE4 {i: Nat} (h:i<xs.length):el xs i∈xs:=by simp[el,List.getD,h]
theorem aE5 {x: Int} (h:x∈xs):∃ i,i<xs.length/\el xs i=x:=by
 obtain⟨i,hi,e⟩:=bg.1 h;exact⟨i,hi,by simp[el,List.getD,hi,e]⟩
def aH3 (m l:List Int):Nat:=(m.filter (fun x=>decide (x∈l))).length
def mjP (v:Vw) (l:List Int):Prop:=NM v/\v.2.length<2*aH3 v.2 l
instance (v:Vw) (l:List Int):Decidable (mjP v l):=by unfold mjP;infer_instance
def au7 (m gone:List Int):List Int:=m.filter (fun x=>decide (x∉gone))
def aE6 (m come:List Int):List Int:=come.foldl gV m
def au8 (v:Vw) (gone come:List Int):Prop:=NM v/\mjP v (au7 v.2 gone)/\NM (v.1+1,aE6 (au7 v.2 gone) come)
instance (v:Vw) (gone come:List Int):Decidable (au8 v gone come):=by unfold au8;infer_instance
theorem YS (h:List Int) (n:Int):(gV h n).length<=h.length+1:=by
 induction h with
 | nil=>simp[gV]
 | cons x h ih =>
  unfold gV
  split
  ·simp only[bP];omega
  ·split<;>simp only[bP]<;>omega
theorem VV.below {w w':aI} {a:Option dH} {len cap:Nat} {H:List (List Int)} (h:VV w a len cap H) (hb:Below w.heap.size w w'):VV w' a len cap H :=
 ⟨h.n,h.le,h.mx,fun i hi => by
  obtain⟨b,off,x,c,e,h1,h2,h3,h4⟩:=h.row i hi;exact⟨b,off,x,c,e,gy hb h1,h2.below hb (cO _),h3,h4⟩⟩
theorem ru {w: aI} (hb:Below w.heap.size w w') {p: dH} {v: aJ} (h:w.cell? p=au v):w'.cell? p=au v:=gy hb h
theorem ak7 (n:Int):∀ (h:List Int) (k:Nat),k<=h.length->(∀ t,t<k->el h t<n)->(k<h.length->¬ el h k<n) ->
  gV h n=if k<h.length/\el h k=n then h else h.take k++n::h.drop k:=by
 intro h
 induction h with
 | nil=>intro k hk _ _;simp at hk;subst hk;simp[gV]
 | cons x l ih =>
  intro k hk hlt hge
  cases k with
  | zero =>
   have h0:¬ x<n:=by simpa[el] using hge (by simp)
   unfold gV;rw[if_neg h0];by_cases e:x=n
   ·rw[if_pos e,if_pos ⟨by simp,by simpa[el] using e⟩]
   ·rw[if_neg e,if_neg (by simp[el];exact e)]
    simp
  | succ k =>
   have h0:x<n:=by simpa[el] using hlt 0 (by omega)
   have hs:∀ t,el (x::l) (t+1)=el l t:=fun t=>by simp[el]
   unfold gV;rw[if_pos h0,ih k (by simpa using hk) (fun t ht=>by rw[<- hs];exact hlt (t+1) (by omega)) (fun hk'=>by rw[<- hs];exact hge (by simpa using hk')),hs]
   by_cases e:k<l.length/\el l k=n
   ·rw[if_pos e,if_pos ⟨by simpa using e.1,e.2⟩]
   ·rw[if_neg e,if_neg (by simpa using e)]
    simp
theorem JL {i: Nat} (h:i<k):el (xs.take k) i=el xs i:=by simp[el,List.getElem?_take,h]
theorem ak8 {i: Nat}:el (xs.drop k) i=el xs (k+i):=by simp[el,List.getElem?_drop]
theorem zy {w w2: aI} {g2 o2 c2: Nat} {Z: List Int} (ho2:jE w2 1 g2 o2 (0+m) c2 (([]:List Int).map (dB aA)++Z.map (dB aA))) (hg2:(w.alloc (aH #[] 2)).grownBy w2 (au w.heap.size))
  (yN:g2=w.heap.size\/g2=(w.alloc (aH #[] 2)).heap.size):OI w2 g2 o2 m c2 Z/\w.heap.size<=g2/\Below w.heap.size w w2/\g2<w2.heap.size:=by
 simp only[List.map_nil,List.nil_append,Nat.zero_add] at ho2;refine⟨ho2, ?_,oq ((dw _ _).alloc (cO _) _) hg2 (cO _) (by simp),ho2.blk⟩
 rcases yN with h|h
 ·rw[h];exact cO _
 ·rw[h];simp
theorem G9 {w w3: aI} {o: Obj} {g3 o4 c4 m: Nat} {T: List Int} {n: Int} (hB:Below w.heap.size w w3) (hg:w.heap.size<=g3) (ho:jE w4 1 g4 o4 (k+1) c4 (T.map (dB aA)++[ah aA n])) (hg4:(w3.alloc o).grownBy w4 (au g3))
  (hat:g4=g3\/g4=(w3.alloc o).heap.size):OI w4 g4 o4 (k+1) c4 (T++[n])/\w.heap.size<=g4/\Below w.heap.size w w4:=by
 refine⟨by rw[OI,List.map_append];exact ho, ?_,oq (hB.alloc hB.size _) hg4 hg (bZ hB.size (by simp))⟩
 rcases hat with h|h
 ·rw[h];exact hg
 ·rw[h];exact bZ hB.size (by simp)
theorem He {w w5: aI} {g5 o5 c5: Nat} {T D: List Int} {n: Int} (hB:Below w.heap.size w w4) (hg:w.heap.size<=g4) (ho:jE w5 1 g5 o5 (k+1+m) c5 ((T++[n]).map (dB aA)++D.map (dB aA))) (hg5:w4.grownBy w5 (au g4))
  (hat:g5=g4\/g5=w4.heap.size):OI w5 g5 o5 (k+1+m) c5 (T++n::D)/\w.heap.size<=g5/\Below w.heap.size w w5:=by
 refine⟨by rw[OI,show T++n::D=(T++[n])++D by simp,List.map_append];exact ho, ?_,oq hB hg5 hg hB.size⟩
 rcases hat with h|h
 ·rw[h];exact hg
 ·rw[h];exact hB.size
theorem YT (b off len cap:Nat) (xs:List Int) (n:Int) (w:aI) (hl:xs.length=len) (hc:∀ i,i<len->w.cell? ⟨b,off+i,ak⟩=au (ah aA (el xs i))) (hcap:len<=cap) (hm:cap<=dD) (hn:len<=100000000) :
  dF dA 106 #[aj (au ⟨b,off,ak⟩) len cap,ah aA n] w fun e w'=>(e=aK (aj (au ⟨b,off,ak⟩) len cap)/\gV xs n=xs/\w'=w)\/Dj w w' e (gV xs n):=by
 obtain⟨i0,hi0,hz0,hz1,hz2⟩:=jX Tryz.info2n;unfold dD at hm;have HL:=dP hl
 have HP:aG (∀ k,k<=len->(∀ t,t<k->el xs t<n)->(k<len->¬ el xs k<n)->gV xs n=if k<len/\el xs k=n then xs else xs.take k++n::xs.drop k):=fun k h1 h2 h3=>by
  have:=ak7 n xs k (by omega) h2 (by rw[hl];exact h3)
  rw[hl] at this;exact this
 clear hl;go_enter Tryz.func106,Tryz.ntmps106
 go_wp2_with fail
 go_loop [5] (fun i=>∃ k:Nat,k<=len/\i=ah aA k/\∀ t,t<k->el xs t<n) (fun i=>len-(dG i).toNat)
 case atStart=>exact⟨0,cZ _,rfl,fun t ht=>by omega⟩
 case round =>
  obtain⟨k,hk,rfl,hlo⟩:=hrel;have HO:=dP hlo;clear hlo;have k0:(0:Int)<=k:=by omega
  by_cases hlt:k<len
  ·have hck:=hc k hlt
   have k1:(k:Int)<len:=by omega
   by_cases hx:el xs k<n
   ·have hd:decide (el xs k<n)=aB:=by simpa using hx
    have HE:aG (∀ t,t<k+1->el xs t<n):=fun t ht=>by
     rcases aW.1 ht with h1|h1
     ·exact HO.out t h1
     ·rw[h1];exact hx
    go_wp2
    go_round
    case rel=>exact⟨k+1,by omega,by go_num,HE.out⟩
    case measure=>simp[dG];omega
   ·have hd:decide (el xs k<n)=aC:=by simpa using hx
    have HQ:=HP.out k hk HO.out (fun _=>by omega)
    by_cases he:el xs k=n
    ·have hb:(el xs k==n)=aB:=by simpa using he
     have HZ:aG (gV xs n=xs):=by rw[aG,HQ,if_pos ⟨hlt,he⟩]
     clear HQ he hx;go_wp2;go_ret
     exact .inl ⟨rfl,HZ.out,rfl⟩
    ·have hb:(el xs k==n)=aC:=by simpa using he
     have HZ:aG (gV xs n=xs.take k++n::xs.drop k):=by rw[aG,HQ,if_neg (fun h=>he h.2)]
     clear HQ he hx;have k2:(k:Int)<=len:=by omega
     have k3:(k:Int)<=cap:=by omega
     have sN:aG ((xs.take k).length=k):=by rw[aG,bM,HL.out];omega
     have wH:aG ((xs.drop k).length=len-k):=by rw[aG,List.length_drop,HL.out]
     have HD:aG (∀ i,i<(xs.drop k).length->(w.alloc (aH #[] 2)).cell? ⟨b,off+k+i,ak⟩=au (ah aA (el (xs.drop k) i))):=fun i hi=>by
      rw[ak8,Nat.add_assoc];exact ru ((dw _ _).alloc (cO _) _) (hc (k+i) (by have:=wH.out;omega))
     have HT:aG (∀ i,i<(xs.take k).length->w.cell? ⟨b,off+i,ak⟩=au (ah aA (el (xs.take k) i))):=fun i hi=>by
      rw[JL (by have:=sN.out;omega)]
      exact hc i (by have:=sN.out;omega)
     clear hc;generalize xs.take k=T at *;generalize xs.drop k=D at *;have VB:(T.map (dB aA)).length=k*1:=by rw[List.length_map,sN.out];omega
     have hDn:(D.map (dB aA)).length=(len-k)*1:=by rw[List.length_map,wH.out];omega
     go_wp2_with (first
      | (at_builtin;refine iI _ rfl (.tmp 34) (.tmp 37) _ rfl 2 i0 _ 1 8 bG hi0 hz0 hz1 hz2 rfl (by omega) w.heap.size 0 0 0 (([]:List Int).map (dB aA)) rfl (nS w 2) ⟨b,off+k,ak⟩ (len-k) (cap-k) (D.map (dB aA)) rfl hDn (pF HD.out) (by simp[Value.oneCell']) (by unfold dD;omega) (by omega) ?_;intro g2 o2 c2 w2 ho2 hg2 yN;obtain⟨q2,r2,s2,t2⟩:=zy ho2 hg2 yN;clear ho2 hg2 yN)
      | (at_builtin;refine iI _ rfl (.tmp 39) (.tmp 42) _ rfl 2 i0 _ 1 8 Tryz.underlying41 hi0 hz0 hz1 hz2 rfl (by omega) w2.heap.size 0 0 0 (([]:List Int).map (Value.int .i64)) rfl (nS w2 2) ⟨b,off,none⟩ k cap (T.map (Value.int .i64)) rfl VB (pF (fun i hi=>ru ((dw _ _).alloc (cO _) _) (ru s2 (HT.out i hi)))) (by simp[Value.oneCell']) (by unfold dD;omega) (by omega) ?_;intro g3 o3 c3 w3 ho3 hg3 En;obtain⟨q3,r3,s3,t3⟩:=zy ho3 hg3 En;clear ho3 hg3 En)
      | (at_builtin;refine iI _ rfl (.tmp 43) (.tmp 45) _ rfl 2 i0 _ 1 8 bG hi0 hz0 hz1 hz2 rfl (by omega) g3 o3 k c3 (T.map (dB aA)) rfl (jE.below q3 ((dw _ _).alloc (cO _) _) t3) ⟨w3.heap.size,0,ak⟩ 1 1 [ah aA n] rfl rfl (World.news_of_block (cs:=#[ah aA n]) (t:=2) (fr:=(0,0)) (heap_alloc_new _ _)) (by simp[Value.oneCell']) (by unfold dD;omega) (by omega) ?_;intro g4 o4 c4 w4 yB hg4 Eo;obtain⟨q4,r4,s4⟩:=G9 (m:=0) s3 r3 yB hg4 Eo;clear yB hg4 Eo)
      | (at_builtin;refine iI _ rfl (.tmp 46) (.tmp 47) _ rfl 2 i0 _ 1 8 Tryz.underlying41 hi0 hz0 hz1 hz2 rfl (by omega) g4 o4 (k+1) c4 ((T++[n]).map (Value.int .i64)) rfl q4 ⟨g2,o2,none⟩ (len-k) c2 (D.map (Value.int .i64)) rfl hDn (pF (fun i hi=>OI.cellAt (show OI w4 g2 o2 (len-k) c2 D from jE.below q2 s4 t2) (by have:=wH.out;omega))) (by simp[Value.oneCell']) (by unfold dD;omega) (by omega) ?_;intro g5 o5 c5 w5 KN hg5 Ep;obtain⟨q5,r5,s5⟩:=He s4 r4 KN hg5 Ep;clear KN hg5 Ep))
     go_ret
     refine .inr ⟨g5,o5,c5, ?_,bZ s2.size r5, ?_,eU s2 s5⟩
     ·rw[HZ.out,bD,bP,sN.out,wH.out]
      exact congrArg (fun z=>Ending.returned (aj (au ⟨g5,o5,ak⟩) z c5)) (by omega)
     ·rw[HZ.out,bD,bP,sN.out,wH.out,show k+(len-k+1)=k+1+(len-k) by omega]
      exact q5
  ·have HQ:=HP.out k hk HO.out (fun h=>absurd h hlt)
   have HZ:aG (gV xs n=xs.take k++n::xs.drop k):=by rw[aG,HQ,if_neg (fun h=>hlt h.1)]
   clear HQ;have hkl:len=k:=by omega
   subst hkl;clear hlt;by_cases hcl:len=cap
   ·subst hcl
    have k2:(0:Int)<=len:=by omega
    have k3:(len:Int)<=len:=by omega
    have sN:aG ((xs.take len).length=len):=by rw[aG,bM,HL.out];omega
    have wH:aG ((xs.drop len).length=0):=by rw[aG,List.length_drop,HL.out];omega
    have HD:aG (∀ i,i<(xs.drop len).length->(w.alloc (aH #[] 2)).cell? ⟨b,off+i,ak⟩=au (ah aA (el (xs.drop len) i))):=fun i hi=>absurd hi (by have:=wH.out;omega)
    have HT:aG (∀ i,i<(xs.take len).length->w.cell? ⟨b,off+i,ak⟩=au (ah aA (el (xs.take len) i))):=fun i hi=>by
     rw[JL (by have:=sN.out;omega)]
     exact hc i (by have:=sN.out;omega)
    clear hc;generalize xs.take len=T at *;generalize xs.drop len=D at *;have VB:(T.map (dB aA)).length=len*1:=by rw[List.length_map,sN.out];omega
    have hDn:(D.map (dB aA)).length=0*1:=by rw[List.length_map,wH.out]
    go_wp2_with (first
     | (at_builtin;refine iI _ rfl (.tmp 34) (.tmp 37) _ rfl 2 i0 _ 1 8 bG hi0 hz0 hz1 hz2 rfl (by omega) w.heap.size 0 0 0 (([]:List Int).map (dB aA)) rfl (nS w 2) ⟨b,off,ak⟩ 0 0 (D.map (dB aA)) rfl hDn (pF HD.out) (by simp[Value.oneCell']) (by unfold dD;omega) (by omega) ?_;intro g2 o2 c2 w2 ho2 hg2 yN;obtain⟨q2,r2,s2,t2⟩:=zy ho2 hg2 yN;clear ho2 hg2 yN)
     | (at_builtin;refine iI _ rfl (.tmp 39) (.tmp 42) _ rfl 2 i0 _ 1 8 Tryz.underlying41 hi0 hz0 hz1 hz2 rfl (by omega) w2.heap.size 0 0 0 (([]:List Int).map (Value.int .i64)) rfl (nS w2 2) ⟨b,off,none⟩ len len (T.map (Value.int .i64)) rfl VB (pF (fun i hi=>ru ((dw _ _).alloc (cO _) _) (ru s2 (HT.out i hi)))) (by simp[Value.oneCell']) (by unfold dD;omega) (by omega) ?_;intro g3 o3 c3 w3 ho3 hg3 En;obtain⟨q3,r3,s3,t3⟩:=zy ho3 hg3 En;clear ho3 hg3 En)
     | (at_builtin;refine iI _ rfl (.tmp 43) (.tmp 45) _ rfl 2 i0 _ 1 8 bG hi0 hz0 hz1 hz2 rfl (by omega) g3 o3 len c3 (T.map (dB aA)) rfl (jE.below q3 ((dw _ _).alloc (cO _) _) t3) ⟨w3.heap.size,0,ak⟩ 1 1 [ah aA n] rfl rfl (World.news_of_block (cs:=#[ah aA n]) (t:=2) (fr:=(0,0)) (heap_alloc_new _ _)) (by simp[Value.oneCell']) (by unfold dD;omega) (by omega) ?_;intro g4 o4 c4 w4 yB hg4 Eo;obtain⟨q4,r4,s4⟩:=G9 (m:=0) s3 r3 yB hg4 Eo;clear yB hg4 Eo)
     | (at_builtin;refine iI _ rfl (.tmp 46) (.tmp 47) _ rfl 2 i0 _ 1 8 Tryz.underlying41 hi0 hz0 hz1 hz2 rfl (by omega) g4 o4 (len+1) c4 ((T++[n]).map (Value.int .i64)) rfl q4 ⟨g2,o2,none⟩ 0 c2 (D.map (Value.int .i64)) rfl hDn (pF (fun i hi=>OI.cellAt (show OI w4 g2 o2 0 c2 D from jE.below q2 s4 t2) (by have:=wH.out;omega))) (by simp[Value.oneCell']) (by unfold dD;omega) (by omega) ?_;intro g5 o5 c5 w5 KN hg5 Ep;obtain⟨q5,r5,s5⟩:=He s4 r4 KN hg5 Ep;clear KN hg5 Ep))
    go_ret
    refine .inr ⟨g5,o5,c5, ?_,bZ s2.size r5, ?_,eU s2 s5⟩
    ·rw[HZ.out,bD,bP,sN.out,wH.out]
     exact congrArg (fun z=>Ending.returned (aj (au ⟨g5,o5,ak⟩) z c5)) (by omega)
    ·rw[HZ.out,bD,bP,sN.out,wH.out,show len+(0+1)=len+1+0 by omega]
     exact q5
   ·have aN2:¬ (cap=len):=fun h=>hcl h.symm
    have k2:(0:Int)<=len:=by omega
    have k3:(len:Int)<=cap:=by omega
    have sN:aG ((xs.take len).length=len):=by rw[aG,bM,HL.out];omega
    have wH:aG ((xs.drop len).length=0):=by rw[aG,List.length_drop,HL.out];omega
    have HD:aG (∀ i,i<(xs.drop len).length->(w.alloc (aH #[] 2)).cell? ⟨b,off+len+i,ak⟩=au (ah aA (el (xs.drop len) i))):=fun i hi=>absurd hi (by have:=wH.out;omega)
    have HT:aG (∀ i,i<(xs.take len).length->w.cell? ⟨b,off+i,ak⟩=au (ah aA (el (xs.take len) i))):=fun i hi=>by
     rw[JL (by have:=sN.out;omega)]
     exact hc i (by have:=sN.out;omega)
    clear hc;generalize xs.take len=T at *;generalize xs.drop len=D at *;have VB:(T.map (dB aA)).length=len*1:=by rw[List.length_map,sN.out];omega
    have hDn:(D.map (dB aA)).length=0*1:=by rw[List.length_map,wH.out]
    go_wp2_with (first
     | (at_builtin;refine iI _ rfl (.tmp 34) (.tmp 37) _ rfl 2 i0 _ 1 8 bG hi0 hz0 hz1 hz2 rfl (by omega) w.heap.size 0 0 0 (([]:List Int).map (dB aA)) rfl (nS w 2) ⟨b,off+len,ak⟩ 0 (cap-len) (D.map (dB aA)) rfl hDn (pF HD.out) (by simp[Value.oneCell']) (by unfold dD;omega) (by omega) ?_;intro g2 o2 c2 w2 ho2 hg2 yN;obtain⟨q2,r2,s2,t2⟩:=zy ho2 hg2 yN;clear ho2 hg2 yN)
     | (at_builtin;refine iI _ rfl (.tmp 39) (.tmp 42) _ rfl 2 i0 _ 1 8 Tryz.underlying41 hi0 hz0 hz1 hz2 rfl (by omega) w2.heap.size 0 0 0 (([]:List Int).map (Value.int .i64)) rfl (nS w2 2) ⟨b,off,none⟩ len cap (T.map (Value.int .i64)) rfl VB (pF (fun i hi=>ru ((dw _ _).alloc (cO _) _) (ru s2 (HT.out i hi)))) (by simp[Value.oneCell']) (by unfold dD;omega) (by omega) ?_;intro g3 o3 c3 w3 ho3 hg3 En;obtain⟨q3,r3,s3,t3⟩:=zy ho3 hg3 En;clear ho3 hg3 En)
     | (at_builtin;refine iI _ rfl (.tmp 43) (.tmp 45) _ rfl 2 i0 _ 1 8 bG hi0 hz0 hz1 hz2 rfl (by omega) g3 o3 len c3 (T.map (dB aA)) rfl (jE.below q3 ((dw _ _).alloc (cO _) _) t3) ⟨w3.heap.size,0,ak⟩ 1 1 [ah aA n] rfl rfl (World.news_of_block (cs:=#[ah aA n]) (t:=2) (fr:=(0,0)) (heap_alloc_new _ _)) (by simp[Value.oneCell']) (by unfold dD;omega) (by omega) ?_;intro g4 o4 c4 w4 yB hg4 Eo;obtain⟨q4,r4,s4⟩:=G9 (m:=0) s3 r3 yB hg4 Eo;clear yB hg4 Eo)
     | (at_builtin;refine iI _ rfl (.tmp 46) (.tmp 47) _ rfl 2 i0 _ 1 8 Tryz.underlying41 hi0 hz0 hz1 hz2 rfl (by omega) g4 o4 (len+1) c4 ((T++[n]).map (Value.int .i64)) rfl q4 ⟨g2,o2,none⟩ 0 c2 (D.map (Value.int .i64)) rfl hDn (pF (fun i hi=>OI.cellAt (show OI w4 g2 o2 0 c2 D from jE.below q2 s4 t2) (by have:=wH.out;omega))) (by simp[Value.oneCell']) (by unfold dD;omega) (by omega) ?_;intro g5 o5 c5 w5 KN hg5 Ep;obtain⟨q5,r5,s5⟩:=He s4 r4 KN hg5 Ep;clear KN hg5 Ep))
    go_ret
    refine .inr ⟨g5,o5,c5, ?_,bZ s2.size r5, ?_,eU s2 s5⟩
    ·rw[HZ.out,bD,bP,sN.out,wH.out]
     exact congrArg (fun z=>Ending.returned (aj (au ⟨g5,o5,ak⟩) z c5)) (by omega)
    ·rw[HZ.out,bD,bP,sN.out,wH.out,show len+(0+1)=len+1+0 by omega]
     exact q5
theorem YU (n:Int) (w:aI):dF dA 106 #[aj ak 0 0,ah aA n] w fun e w'=>Dj w w' e [n]:=by
 obtain⟨i0,hi0,hz0,hz1,hz2⟩:=jX Tryz.info2n;go_enter Tryz.func106,Tryz.ntmps106
 go_wp2_with fail
 go_loop [5] (fun i=>i=ah aA 0) (fun i=>0)
 case atStart=>rfl
 case round =>
  subst hrel;go_wp2_with (first
   | (at_builtin;refine sJ _ rfl (.tmp 34) (.tmp 37) _ rfl 2 i0 bG hi0 (au ⟨w.heap.size,0,ak⟩) 0 0 rfl (cO _) ak 0 rfl ?_)
   | (at_builtin;refine sJ _ rfl (.tmp 39) (.tmp 42) _ rfl 2 i0 bG hi0 (au ⟨w.heap.size+1,0,ak⟩) 0 0 rfl (cO _) ak 0 rfl ?_)
   | (at_builtin;refine GV _ rfl (.tmp 43) (.tmp 45) _ rfl 2 i0 _ 1 8 bG hi0 hz0 hz1 hz2 rfl (by omega) (au ⟨w.heap.size+1,0,ak⟩) 0 0 [] ak rfl (iQ.nil _ _ (kL _ _)) (au ⟨w.heap.size+1+1,0,ak⟩) 1 1 [ah aA n] rfl rfl (.inr ⟨_,rfl,World.news_of_block (cs:=#[ah aA n]) (t:=2) (fr:=(0,0)) (by simpa using heap_alloc_new ((w.alloc (aH #[] 2)).alloc (aH #[] 2)) (aH #[ah aA n] 2))⟩) (by simp[Value.oneCell']) (by unfold dD;omega) (by omega) ?_;intro a2 c2 G2 w2 ho2 hg2 yN)
   | (at_builtin;refine sJ _ rfl (.tmp 46) (.tmp 47) _ rfl 2 i0 bG hi0 a2 (0+1) c2 rfl ho2.le.1 (au ⟨w.heap.size,0,ak⟩) 0 rfl ?_))
  go_ret
  rcases ho2 with ⟨h0,_⟩|⟨g,off,rfl,ho2,rfl⟩
  ·omega
  ·have hG:g=w.heap.size+1+1+1:=by
    rcases yN with h|h
    ·cases h
    ·simpa using h
   refine⟨g,off,c2,rfl,by omega,by simpa[OI] using ho2, ?_⟩
   have h3:Below w.heap.size w (((w.alloc (aH #[] 2)).alloc (aH #[] 2)).alloc (aH #[ah aA n] 2)):=(((dw _ _).alloc (cO _) _).alloc (by simp) _).alloc (by simp;omega) _
   exact below_of_grown h3 hg2 (fun k hk=>by cases hk) h3.size
theorem NP (a:Option dH) (cap:Nat) (xs:List Int) (n:Int) (w:aI) (hv:Vec w a xs.length xs) (ha:a=ak->cap=0) (hcap:xs.length<=cap) (hm:cap<=dD) (hn:xs.length<=100000000) (hoff:sH a) :
  dF dA 106 #[aj a xs.length cap,ah aA n] w fun e w'=>(e=aK (aj a xs.length cap)/\gV xs n=xs/\w'=w)\/Dj w w' e (gV xs n):=by
 cases a with
 | none =>
  have hc:=ha rfl;subst hc;have hx:xs=[]:=List.eq_nil_of_length_eq_zero (by omega)
  subst hx;exact (YU n w).mono (fun e w' h=>.inr h)
 | some x =>
  obtain⟨b,off,rfl⟩:=hoff x rfl;refine YT b off xs.length cap xs n w rfl (fun i hi=>?_) hcap hm hn
  rcases hv.2.2 with h|⟨b',off',hb,hc⟩
  ·omega
  ·cases hb
   exact hc i hi
structure Cc (w X:aI) (p:Nat) (a:Option dH) (len cap:Nat) (bs:Nat->Int):Prop where
 cur:jI X p a len cap
 code:nZ w a len bs
 below:Below w.heap.size w X
 off:Eh a len p
 hl:len<=4096
 hp:w.heap.size<=p
theorem Cc.yO {w X: aI} {p: Nat} {a: Option dH} {cap: Nat} {bs: Nat->Int} (h:Cc w X p a len cap bs):nZ X a len bs:=h.code.below h.below (cO _)
theorem Cc.step {w X: aI} {p: Nat} {a: Option dH} {cap: Nat} {bs: Nat->Int} (h:Cc w X p a len cap bs) (hb:Below X.heap.size X X'):Cc w X' p a len cap bs :=
 ⟨h.cur.below hb h.cur.lt,h.code,eU h.below hb,h.off,h.hl,h.hp⟩
theorem Cc.drawn {w X: aI} {p: Nat} {a: Option dH} {cap: Nat} {bs: Nat->Int} (h:Cc w X p a len cap bs) (hg:X.grownBy X' (au p)) (hc:jI X' p a len cap):Cc w X' p a len cap bs :=
 ⟨hc,h.code,below_of_grown h.below hg (fun k e=>by cases e;exact h.hp) h.below.size,h.off,h.hl,h.hp⟩
theorem Cc.lt {w X: aI} {p: Nat} {a: Option dH} {cap: Nat} {bs: Nat->Int} (h:Cc w X p a len cap bs):p<X.heap.size:=h.cur.lt
theorem jP (N:Nat) (n:Int) (hN:n=(N:Int)) {w X: aI} {p: Nat} {a: Option dH} {cap: Nat} {bs: Nat->Int} (h:Cc w X p a len cap bs) (h1:1<=N) (h2:N<=10000) :
  dF dA 27 #[aO (au ⟨p,0,ak⟩),ah aA n] X fun e w'=>∃ Y:Nat,e=aK (ah aA (Y:Int))/\Y<N/\Cc w w' p a len cap bs/\X.grownBy w' (au p):=by
 subst hN;refine (oO p a len cap bs (N:Int) X h.cur h.yO h.off h.hl (by omega)).mono ?_
 rintro e w' ⟨x,rfl,h0,h3,_,hc,hg⟩;have h4:=h3 (by omega)
 exact⟨x.toNat,by rw[show ((x.toNat:Nat):Int)=x by omega],by omega,h.drawn hg hc,hg⟩
theorem uq (n:Int) {w X: aI} {p: Nat} {a: Option dH} {cap: Nat} {bs: Nat->Int} (h:Cc w X p a len cap bs) (hn:n<=10000) :
  dF dA 28 #[aO (au ⟨p,0,ak⟩),ah aA n] X fun e w'=>∃ t:Bool,e=aK (aF t)/\Cc w w' p a len cap bs/\X.grownBy w' (au p):=by
 refine (Df p a len cap bs n X h.cur h.yO h.off h.hl (by omega)).mono ?_
 rintro e w' ⟨t,rfl,hc,hg⟩;exact⟨t,rfl,h.drawn hg hc,hg⟩
theorem newC (a:Option dH) (len cap:Nat) (bs:Nat->Int) (w X:aI) (hb:Below w.heap.size w X) (hv:nZ w a len bs) (hl:len<=4096) :
  dF dA 26 #[aj a len cap] X fun e w'=>∃ p,e=aK (aO (au ⟨p,0,ak⟩))/\X.heap.size<=p/\Cc w w' p a len cap bs/\Below X.heap.size X w':=by
 refine (new_any a len cap bs X (hv.below hb (cO _)) hl).mono ?_;rintro e w1 ⟨p,rfl,hp,hc1,hb1⟩;have hs:=hb.size;exact⟨p,rfl,hp,⟨hc1,hv,eU hb hb1,fun hl b off e=>by have:=hv.inB hl b off e;omega,hl,by omega⟩,hb1⟩
theorem Ir (lo hi:Int) (h0:-1000<=lo) (h1:lo<=hi) (h2:hi<=1000) {w X: aI} {p: Nat} {a: Option dH} {cap: Nat} {bs: Nat->Int} (h:Cc w X p a len cap bs) :
  dF dA 62 #[aO (au ⟨p,0,ak⟩),ah aA lo,ah aA hi] X fun e w'=>∃ x:Int,e=aK (ah aA x)/\lo<=x/\x<=hi/\Cc w w' p a len cap bs/\X.grownBy w' (au p):=by
 have hB:=jP (hi-lo+1).toNat (hi-lo+1) (by omega) h (by omega) (by omega)
 go_enter Tryz.func62,Tryz.ntmps62
 go_wp2_with fail
 refine hB.mono ?_;rintro e w1 ⟨Y,rfl,hY,hq,hg⟩;have b1:lo+(Y:Int)<=9223372036854775807:=by omega
 have b2:-9223372036854775808<=lo+(Y:Int):=by omega
 have HQ:aG (Cc w w1 p a len cap bs/\X.grownBy w1 (au p)):=⟨hq,hg⟩;clear hq hB hg;go_wp2;go_ret
 exact⟨lo+(Y:Int),rfl,by omega,by omega,HQ.out⟩
structure Bk (B:aI) where
 w:aI
 h:Below B.heap.size B w
theorem NQ {P: Program} {id: Nat} {Q: Exit->Act->aI->Prop} {a: Act} {w: aI} {l: List Oper} (hm:P.follows .mixedOrders=aB) (hB:Region.lexB .any l.toArray=aB)
  (h:wpQuiet P l.toArray (fun w'=>∃ p:Bk w,w'=p.w) (fun a'=>∀ w',(∃ p:Bk w,w'=p.w)->Q .normal a' w') l a):(Code.region id l.toArray aB).wp P Q a w :=
 wp_region_quiet (C:=fun w'=>∃ p:Bk w,w'=p.w) hm hB ⟨⟨w.drewN 1,fO (dw _ _)⟩,rfl⟩ (by simpa using h)
theorem eY {P: Program} {f: FuncId} {args: Array aJ} {B: aI} {v: aJ} (p:Bk B) (h:dF P f args p.w fun e w'=>e=aK v/\Below p.w.heap.size p.w w'):dF P f args p.w fun e w'=>e=aK v/\∃ q:Bk B,w'=q.w :=
 h.mono fun e w' h=>⟨h.1,⟨w',eU p.h h.2⟩,rfl⟩
theorem iL {W: aI} {Q: aI->Prop} (h:∀ w', Below W.heap.size W w'->Q w'):∀ w', (∃ p:Bk W, w'=p.w)->Q w':=fun _ ⟨p, e⟩=>e ▸ h p.w p.h
theorem jg {P: Program} {id: Nat} {Q: Exit -> Act -> aI -> Prop} {a: Act} {w: aI} {l: List Oper}
    (h:wpQuiet P l.toArray (fun w'=>∃ p:Bk w, w'=p.w) (fun a'=>∀ w', (∃ p:Bk w, w'=p.w)->Q .normal a' w') l a) (hm:P.follows .mixedOrders=aB:=by kernel_rfl) (hB:Region.lexB .any l.toArray=aB:=by kernel_rfl):(Code.region id l.toArray aB).wp P Q a w:=NQ hm hB h
theorem NR (a:Option dH) (cap:Nat) (xs:List Int) (n:Int) (w:aI) (fp:Fp) (ho:dY.ow w (gJ xs) (aj a xs.length cap) fp) (hf:Fits xs) (hn:xs.length<=100000000) :
  dF dA 106 #[aj a xs.length cap,ah aA n] w fun e w'=>∃ a' c' fp',e=aK (aj a' (gV xs n).length c')/\dY.ow w' (gJ (gV xs n)) (aj a' (gV xs n).length c') fp'/\(∀ b,fp' b->fp b\/w.heap.size<=b)/\Below w.heap.size w w':=by
 obtain⟨a0,c0,e0,hv,h1,h2⟩:=l7 (dY.wF ho) hf
 cases e0
 obtain⟨a1,c1,G,e1,hs,hG⟩:=je.1 ho
 cases e1
 have hnone:a=ak->cap=0:=fun e=>by
  rcases hs with ⟨_,h,_⟩|⟨g,off,ha,_⟩
  ·exact h
  ·rw[ha] at e;cases e
 refine (NP a cap xs n w hv hnone h1 h2 hn hs.plain).mono ?_;rintro e w' (⟨rfl,h3,rfl⟩|⟨g,off,c,rfl,hg,hO,hb⟩)
 ·exact⟨a,cap,fp,by rw[h3],by rw[h3];exact ho,fun b hb=>.inl hb,dw _ _⟩
 ·exact⟨_,c,fun b=>b=g,rfl,je.2 ⟨_,c,au g,rfl,iQ.of hO,fun b=>by simp[eq_comm]⟩,fun b hb=>.inr (by rw[hb];exact hg),hb⟩
def ji (x:Int):Prop:=-9223372036854775808<=x/\x<=9223372036854775807
structure NS (w:aI) (a:Option dH) (c:Nat) (M:List Int):Prop where
 vec:Vec w a M.length M
 le:M.length<=c
 mx:c<=dD
 pl:sH a
 nn:a=ak->c=0
theorem NS.below {w: aI} {a: Option dH} {c: Nat} {M: List Int} (h:NS w a c M) (hb:Below w.heap.size w w'):NS w' a c M:=⟨h.vec.below hb (cO _),h.le,h.mx,h.pl,h.nn⟩
theorem sO {w: aI} {a: Option dH} {c: Nat} {M: List Int} {fp: Fp} (h:dY.ow w (gJ M) (aj a M.length c) fp) (hf:Fits M):NS w a c M:=by
 obtain⟨a0,c0,e0,hv,h1,h2⟩:=l7 (dY.wF h) hf
 cases e0
 obtain⟨a1,c1,G,e1,hs,hG⟩:=je.1 h
 cases e1
 refine⟨hv,h1,h2,hs.plain,fun e=>?_⟩
 rcases hs with ⟨_,h,_⟩|⟨g,off,ha,_⟩
 ·exact h
 ·rw[ha] at e;cases e
section
def kH (r:Rw):Nat:=r.txt.length+Bz r.txt r.txt.length+r.got.length+r.dQ.length+r.dU.length
attribute [local irreducible] sv
end
section
theorem oP {α:Type}:∀ {l:List α} {k:Nat} {x:α},l[k]?=au x->l.set k x=l
 | [],k,x,h=>by simp at h
 | y::l,0,x,h=>by simp at h;rw[h];rfl
 | y::l,k+1,x,h=>by rw[List.set_cons_succ,oP (by simpa using h)]
attribute [local irreducible] sv
end
def sQ (r:Rw):Prop:=ji r.ver/\ji r.dW
structure ql (w:aI) (A:Ra) (r:Rw):Prop where
 txt:KD w A.ta A.tc r.txt
 got:NS w A.ga A.gc r.got
 dQ:NS w A.sa A.sc r.dQ
 dU:NS w A.ma A.mc r.dU
 i64:sQ r
 sz:kH r<=1048576
theorem ql.below {w: aI} {A: Ra} {r: Rw} (h:ql w A r) (hb:Below w.heap.size w w'):ql w' A r:=⟨h.txt.below hb,h.got.below hb,h.dQ.below hb,h.dU.below hb,h.i64,h.sz⟩
theorem ql.rws {w: aI} {A: Ra} {r: Rw} (h:ql w A r):qj w A r:=by
 have hs:=h.sz;unfold kH at hs;exact⟨h.txt.Vu,h.got.vec,h.dQ.vec,h.dU.vec,by unfold dD;omega,by unfold dD;omega,by unfold dD;omega,by unfold dD;omega⟩
def qo (r:Rw):Prop:=Fits r.got/\Fits r.dQ/\Fits r.dU
theorem NT {w: aI} {A: Ra} {r: Rw} (h:It w (jM r) (jr A r) lo hi):∃ f1 f2 f3 f4,dY.ow w (pO r.txt) (aj A.ta r.txt.length A.tc) f1/\dY.ow w (gJ r.got) (aj A.ga r.got.length A.gc) f2/\dY.ow w (gJ r.dQ) (aj A.sa r.dQ.length A.sc) f3/\dY.ow w (gJ r.dU) (aj A.ma r.dU.length A.mc) f4:=by
 obtain⟨f,h1,_⟩:=h;obtain⟨u1,vW,f1,g1,e1,o1,h2,_⟩:=h1
 cases e1
 obtain⟨u2,wY,f2,g2,e2,o2,h3,_⟩:=h2
 cases e2
 obtain⟨u3,Es,f3,g3,e3,o3,h4,_⟩:=h3
 cases e3
 obtain⟨u4,NU,f4,g4,e4,o4,h5,_⟩:=h4
 cases e4
 exact⟨f1,f2,f3,f4,o1,o2,o3,o4⟩
theorem BR {w: aI} {A: Ra} {r: Rw} (h:It w (jM r) (jr A r) lo hi) (hf:qo r) (h6:sQ r) (hs:kH r<=1048576):ql w A r:=by
 obtain⟨f1,f2,f3,f4,o1,o2,o3,o4⟩:=NT h;exact⟨NI o1,sO o2 hf.1,sO o3 hf.2.1,sO o4 hf.2.2,h6,hs⟩
theorem NV {w: aI} {A: Ra} {r: Rw} (h:It w (jM r) (jr A r) lo hi) (hf:qo r) (hs:kH r<=1048576):qj w A r:=by
 obtain⟨f1,f2,f3,f4,o1,o2,o3,o4⟩:=NT h;unfold kH at hs;exact⟨(NI o1).Vu,(sO o2 hf.1).vec,(sO o3 hf.2.1).vec,(sO o4 hf.2.2).vec,by unfold dD;omega,by unfold dD;omega,by unfold dD;omega,by unfold dD;omega⟩
def VD:Prop:=∀ (A:Ra) (r:Rw) (n:Int) (w:aI),ql w A r->ji n->dF dA 51 #[iK A r,ah aA n] w fun e w'=>e=aK (aF (gu r n))/\Below w.heap.size w w'
structure Nx (r r':Rw):Prop where
 ver:r.ver<=r'.ver
 txt:r.txt <+: r'.txt
 got:∀ i,el r.got i<=el r'.got i
 dQ:∀ x∈r.dQ,x∈r'.dQ
 wed:r.wed=aB->r'.wed=aB/\r'.got=r.got/\r'.txt=r.txt
 dV:r.dV=aB->r'.dV=aB/\r.dW<=r'.dW/\(r'.dW=r.dW->r'.dU=r.dU)
theorem Nx.refl (r:Rw):Nx r r:=⟨Int.le_refl _,List.prefix_refl _,fun _=>Int.le_refl _,fun _ h=>h,fun h=>⟨h,rfl,rfl⟩,fun h=>⟨h,Int.le_refl _,fun _=>rfl⟩⟩
theorem Nx.trans {a b c:Rw} (h:Nx a b) (k:Nx b c):Nx a c:=by
 refine⟨Int.le_trans h.ver k.ver,h.txt.trans k.txt,fun i=>Int.le_trans (h.got i) (k.got i),fun x hx=>k.dQ x (h.dQ x hx),fun hw=>?_,fun hr=>?_⟩
 ·obtain⟨h1,h2,h3⟩:=h.wed hw
  obtain⟨k1,k2,k3⟩:=k.wed h1;exact⟨k1,k2.trans h2,k3.trans h3⟩
 ·obtain⟨h1,h2,h3⟩:=h.dV hr
  obtain⟨k1,k2,k3⟩:=k.dV h1;refine⟨k1,Int.le_trans h2 k2,fun e=>?_⟩
  have e2:b.dW=a.dW:=by omega
  rw[k3 (by omega),h3 e2]
def Chain (l:List Rw):Prop:=l.Pairwise (fun new old=>Nx old new)
theorem Chain.comp {l: List Rw} (h:Chain l) {p: Rw} (hp:p∈l) (hq:q∈l):Nx p q\/Nx q p:=by
 induction l with
 | nil=>cases hp
 | cons x l ih =>
  obtain⟨h1,h2⟩:=List.pairwise_cons.1 h;rcases bW.1 hp with rfl|hp
  ·rcases bW.1 hq with rfl|hq
   ·exact .inl (Nx.refl _)
   ·exact .inr (h1 q hq)
  ·rcases bW.1 hq with e|hq
   ·rw[e];exact .inl (h1 p hp)
   ·exact ih h2 hp hq
theorem NW:∀ {n:Nat} {l:List Nat},l.Nodup->(∀ x∈l,x<n)->l.length<=n
 | 0,l,hd,h=>by
  cases l with
  | nil=>exact cO _
  | cons x l=>exact absurd (h x bF) (Nat.not_lt_zero _)
 | n+1,l,hd,h=>by
  have h1 : (l.erase n).length <= n := NW (hd.erase n) (fun x hx => by
   have:=h x (List.mem_of_mem_erase hx);have hne:x≠n:=fun e=>by rw[e] at hx;exact (List.Nodup.not_mem_erase hd) hx
   omega)
  have h2:l.length<=(l.erase n).length+1:=by
   rw[List.length_erase]
   split<;>omega
  omega
theorem Um {n: Nat}:∀ {Q R:List Nat},Q.Nodup->R.Nodup->(∀ x∈Q,x<n)->(∀ x∈R,x<n)->n<2*Q.length->n<2*R.length->∃ x,x∈Q/\x∈R:=by
 intro Q R hQ hR hq hr h1 h2;refine Classical.byContradiction fun hn=>?_
 have hd:∀ x∈Q,x∉R:=fun x hx hx2=>hn ⟨x,hx,hx2⟩
 have hnd:(Q++R).Nodup:=List.nodup_append.2 ⟨hQ,hR,fun a ha b hb e=>hd a ha (e ▸ hb)⟩
 have hl := NW hnd (n := n) (fun x hx => by
  rcases List.mem_append.1 hx with h|h
  ·exact hq x h
  ·exact hr x h)
 rw[bD] at hl;omega
abbrev Hs:=Nat->List Rw
structure Half (n:Nat) (Q:List Nat):Prop where
 nd:Q.Nodup
 lt:∀ x∈Q,x<n
 half:n<2*Q.length
theorem Half.share {n: Nat} {Q R: List Nat} (h:Half n Q) (k:Half n R):∃ x,x∈Q/\x∈R:=Um h.nd k.nd h.lt k.lt h.half k.half
structure Pp where
 b:Nat
 T:List Int
 Q:List Nat
 p:Nat->Rw
 Qo:List Nat
 po:Nat->Rw
structure JM (n:Nat) (h:Hs) (P:Pp) (rest:List Pp):Prop where
 bn:P.b<n
 half:Half n P.Q
 mem:∀ j∈P.Q,P.p j∈h j
 wed:∀ j∈P.Q,(P.p j).wed=aB
 low:∀ j∈P.Q,∀ x:Nat,x<P.b->(x:Int)∈(P.p j).dQ
 row:∃ r∈h P.b,r.dV=aB/\r.dW=(P.b:Int)/\r.dU=P.T
 top:(∀ j∈P.Q,(P.p j).dV=aC)\/∃ j∈P.Q,(P.p j).dV=aB/\(∀ k∈P.Q,(P.p k).dV=aB->(P.p k).dW<=(P.p j).dW)/\∃ P'∈rest,(P'.b:Int)=(P.p j).dW/\P'.T=P.T
 oh:Half n P.Qo
 om:∀ j∈P.Qo,P.po j∈h j
 ow:∀ j∈P.Qo,(P.po j).wed=aB/\(P.po j).dV=aC
 oT:∀ s,s<n->(∀ j∈P.Qo,el P.T s<=el (P.po j).got s)/\∃ j∈P.Qo,el P.T s=el (P.po j).got s
 os:∀ i,i<n->i∉P.Qo->∀ j∈P.Qo,(i:Int)∈(P.po j).dQ
def vk (n:Nat) (h:Hs):List Pp->Prop
 | []=>True
 | P::rest=>JM n h P rest/\vk n h rest
theorem vk.at {n:Nat} {h:Hs}:∀ {log:List Pp},vk n h log->∀ {P:Pp},P∈log->∃ rest,JM n h P rest/\vk n h rest/\(∀ P'∈rest,P'∈log)/\rest.length<log.length
 | [],hl,P,hP=>by cases hP
 | P0::rest,hl,P,hP=>by
  rcases bW.1 hP with rfl|hP
  ·exact⟨rest,hl.1,hl.2,fun P' h'=>bC _ h',by simp⟩
  ·obtain⟨r,h1,h2,h3,h4⟩:=vk.at hl.2 hP
   exact⟨r,h1,h2,fun P' h'=>bC _ (h3 P' h'),by simp;omega⟩
theorem JM.more {n: Nat} {h h': Hs} {P: Pp} {rest: List Pp} (k:JM n h P rest) (hm:∀ j r,r∈h j->r∈h' j):JM n h' P rest :=
 ⟨k.bn,k.half,fun j hj=>hm j _ (k.mem j hj),k.wed,k.low,by obtain⟨r,h1,h2⟩:=k.row;exact⟨r,hm _ _ h1,h2⟩,k.top,k.oh,fun j hj=>hm j _ (k.om j hj),k.ow,k.oT,k.os⟩
theorem vk.more {n:Nat} {h h':Hs} (hm:∀ j r,r∈h j->r∈h' j):∀ {log:List Pp},vk n h log->vk n h' log
 | [],_=>trivial
 | P::rest,k=>⟨k.1.more hm,vk.more hm k.2⟩
structure kX (n:Nat) (h:Hs) (log:List Pp):Prop where
 chain:∀ j,Chain (h j)
 acc:∀ j,∀ r∈h j,r.dV=aB->∃ r0∈h j,Nx r0 r/\r0.dV=aB/\r0.dW=r.dW/\r0.dW∉r0.dQ
 prop:∀ j,∀ r∈h j,r.dV=aB->∃ P∈log,(P.b:Int)=r.dW/\P.T=r.dU
 log:vk n h log
def BU (n:Nat) (h:Hs) (b:Int) (T:List Int) (Q:List Nat):Prop:=Half n Q/\∀ j∈Q,∃ q∈h j,q.dV=aB/\q.dW=b/\q.dU=T
theorem kX.promise {n: Nat} {h: Hs} {log: List Pp} (S:kX n h log) {j: Nat} {p: Rw} (hp:p∈h j) (hq:q∈h j) (hr:q.dV=aB) (hs:q.dW∈p.dQ):p.dV=aB/\q.dW<=p.dW:=by
 obtain⟨r0,h0,h1,h2,h3,h4⟩:=S.acc j q hq hr;rcases (S.chain j).comp hp h0 with k|k
 ·exact absurd (k.dQ _ hs) (by rw[<- h3];exact h4)
 ·obtain⟨k1,k2,_⟩:=k.dV h2
  exact⟨k1,by omega⟩
theorem kX.uniq {n: Nat} {h: Hs} {log: List Pp} (S:kX n h log) {P P': Pp} (hP:P∈log) (hP':P'∈log) (hb:P.b=P'.b):P.T=P'.T:=by
 obtain⟨_,k,_⟩:=S.log.at hP;obtain⟨_,k',_⟩:=S.log.at hP';obtain⟨r,h1,h2,h3,h4⟩:=k.row;obtain⟨r',h1',h2',h3',h4'⟩:=k'.row;rw[<- hb] at h1' h3';rcases (S.chain P.b).comp h1 h1' with c|c
 ·obtain⟨_,_,c3⟩:=c.dV h2
  rw[<- h4,<- h4',c3 (by omega)]
 ·obtain⟨_,_,c3⟩:=c.dV h2'
  rw[<- h4,<- h4',c3 (by omega)]
theorem kX.end {n:Nat} {h:Hs} {log:List Pp} (S:kX n h log) {b:Int} {T:List Int} {Q:List Nat} (hc:BU n h b T Q):∀ (k:Nat) (l:List Pp),l.length<=k->vk n h l->(∀ P∈l,P∈log)->∀ P∈l,b<=(P.b:Int)->P.T=T
 | 0,l,hk,_,_,P,hP,_=>by rw[List.eq_nil_of_length_eq_zero (by omega:l.length=0)] at hP;cases hP
 | k+1,l,hk,hl,hs,P,hP,hb=>by
  obtain⟨rest,hp,hr,hr2,hr3⟩:=hl.at hP;obtain⟨hQ,hq⟩:=hc;by_cases e:b=(P.b:Int)
  ·obtain⟨j,hj,_⟩:=hQ.share hQ
   obtain⟨q,q1,q2,q3,q4⟩:=hq j hj;obtain⟨P',p1,p2,p3⟩:=S.prop j q q1 q2;rw[S.uniq (hs P hP) p1 (by omega),p3,q4]
  ·obtain⟨j,hj,hj2⟩:=hQ.share hp.half
   obtain⟨q,q1,q2,q3,q4⟩:=hq j hj
   have hbn:∃ x:Nat,b=(x:Int):=by
    obtain⟨P',p1,p2,p3⟩:=S.prop j q q1 q2;exact⟨P'.b,by omega⟩
   obtain⟨x,rfl⟩:=hbn;have hin:(x:Int)∈(P.p j).dQ:=hp.low j hj2 x (by omega)
   obtain⟨m1,m2⟩:=S.promise (hp.mem j hj2) q1 q2 (by rw[q3];exact hin)
   rcases hp.top with t|⟨j',hj',t1,t2,P',t3,t4,t5⟩
   ·rw[t j hj2] at m1;cases m1
   ·rw[<- t5]
    have hbig:=t2 j hj2 m1;exact kX.end S ⟨hQ,hq⟩ k rest (by omega) hr (fun P0 h0=>hs P0 (hr2 P0 h0)) P' t3 (by omega)
theorem kX.one {n: Nat} {h: Hs} {log: List Pp} (S:kX n h log) {b b': Int} {T T': List Int} {Q Q': List Nat} (hc:BU n h b T Q) (hc':BU n h b' T' Q'):T=T':=by
 have key:∀ {b b':Int} {T T':List Int} {Q Q':List Nat},BU n h b T Q->BU n h b' T' Q'->b<=b'->T=T':=fun {b b' T T' Q Q'} hc hc' hle=>by
  obtain⟨j,hj,_⟩:=hc'.1.share hc'.1;obtain⟨q,q1,q2,q3,q4⟩:=hc'.2 j hj;obtain⟨P',p1,p2,p3⟩:=S.prop j q q1 q2;rw[<- q4,<- p3];exact (S.end hc _ log (cO _) S.log (fun P h=>h) P' p1 (by omega)).symm
 rcases Int.le_total b b' with hle|hle
 ·exact key hc hc' hle
 ·exact (key hc' hc hle).symm
def JO (n:Nat) (h:Hs) (q:Nat):Prop:=∀ j,j<n->∃ r∈h j,((q/n:Nat):Int)<el r.got (q%n)
theorem kX.covers {n: Nat} {h: Hs} {log: List Pp} (S:kX n h log) (hn:0<n) {P: Pp} (hP:P∈log) {q: Nat} (hq:JO n h q):((q/n:Nat):Int)<el P.T (q%n):=by
 obtain⟨_,k,_⟩:=S.log.at hP;obtain⟨_,j,hj,e⟩:=k.oT (q%n) (Nat.mod_lt _ hn);obtain⟨r,h1,h2⟩:=hq j (k.oh.lt j hj);rw[e];rcases (S.chain j).comp h1 (k.om j hj) with c|c
 ·have:=c.got (q%n);omega
 ·rw[<- (c.wed (k.ow j hj).1).2.1];exact h2
end Go.Proofs.YtafimeakbdmkjaaGreat