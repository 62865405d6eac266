/-
  Texts in one.
-/
import Derived.Test.YtafimeakbdmkjaaGreatZab
import Derived.Test.YtafimeakbdmkjaaGreatZaa
import Derived.Deep.QuietTactic
import Derived.BigQuiet
import Derived.Deep.RegionHeld3
namespace Go.Proofs.YtafimeakbdmkjaaGreat
set_option linter.unusedVariables false
set_option linter.unusedSimpArgs false
open Go.RowKit Go.Sort
set_option maxRecDepth 100000
set_option maxHeartbeats 12800000
structure Ra where
 ta:Option Addr
 tc:Nat
 ga:Option Addr
 gc:Nat
 sa:Option Addr
 sc:Nat
 ma:Option Addr
 mc:Nat
def bD (A:Ra) (r:Rw):Array Value:=#[.int .i64 r.ver,.slice A.ta r.txt.length A.tc,.slice A.ga r.got.length A.gc,.slice A.sa r.ak.length A.sc,.bool r.wed,.bool r.aB,.int .i64 r.aC,.slice A.ma r.aA.length A.mc]
def bV (A:Ra) (r:Rw):Value:=.agg (bD A r)
structure nJ (w:World) (A:Ra) (r:Rw):Prop where
 txt:qO w A.ta r.txt
 got:Vec w A.ga r.got.length r.got
 ak:Vec w A.sa r.ak.length r.ak
 aA:Vec w A.ma r.aA.length r.aA
 mt:r.txt.length≤maxLen
 mg:r.got.length≤maxLen
 ms:r.ak.length≤maxLen
 mm:r.aA.length≤maxLen
theorem nJ.below {w w':World} {A:Ra} {r:Rw} (h:nJ w A r) (hb:Below w.heap.size w w'):nJ w' A r:=⟨h.txt.below hb,h.got.below hb (Nat.le_refl _),h.ak.below hb (Nat.le_refl _),h.aA.below hb (Nat.le_refl _),h.mt,h.mg,h.ms,h.mm⟩
theorem Bx.r8 {w:World} {B:Nat} {T:TypeId} {x0 x1 x2 x3 x4 x5 x6 x7:Value} (h:Bx w B T #[x0,x1,x2,x3,x4,x5,x6,x7]):(w.cell? ⟨B,0,none⟩=some x0∧w.cell? ⟨B,1,none⟩=some x1∧w.cell? ⟨B,2,none⟩=some x2∧w.cell? ⟨B,3,none⟩=some x3)∧w.cell? ⟨B,4,none⟩=some x4∧w.cell? ⟨B,5,none⟩=some x5∧w.cell? ⟨B,6,none⟩=some x6∧w.cell? ⟨B,7,none⟩=some x7 :=
 ⟨⟨h.at 0 rfl,h.at 1 rfl,h.at 2 rfl,h.at 3 rfl⟩,h.at 4 rfl,h.at 5 rfl,h.at 6 rfl,h.at 7 rfl⟩
theorem aF (w:World) (o:Obj):Below w.heap.size w (w.alloc o):=(Below.refl _ _).alloc (Nat.le_refl _) _
theorem Ri {l:List Int} {n:Int} {k:Nat} (hk:k<l.length) (h:inB (el l k) 0 (n-1)=false):jv l n=false:=by
 have:l.all (fun x=>inB x 0 (n-1))=false:=by
  rw[List.all_eq_false];exact⟨el l k,iF hk,by simp[h]⟩
 rw[jv,this]
 rfl
theorem Va {l:List Int} {n:Int} (h:∀ k,k<l.length→inB (el l k) 0 (n-1)=true):jv l n=qE l:=by
 have:l.all (fun x=>inB x 0 (n-1))=true:=by
  rw[List.all_eq_true];intro x hx;obtain⟨j,hj,rfl⟩:=List.mem_iff_getElem.1 hx;have:=h j hj;simpa[el,hj] using this
 rw[jv,this]
 rfl
theorem Vd (a:Option Addr) (cap:Nat) (l:List Int) (n:Int) (w:World) (hv:Vec w a l.length l) (hm:l.length≤maxLen) (hn:-1000≤n∧n≤1000) :
  Calls Tryz.prog 114 #[.slice a l.length cap,.int .i64 n] w fun e w'=>e=.returned (.bool (jv l n))∧Below w.heap.size w w':=by
 have hR:=MZ a l.length cap l w hv hm;have HV:=aj hv;have hwn:wrap64 (n-1)=n-1:=by unfold wrap64;omega
 unfold maxLen at hm;clear hv;go_enter Tryz.func114,Tryz.ntmps114
 go_wp2
 go_loop [5] (fun i=>∃ k:Nat,k≤l.length∧i=.int .i64 k∧∀ j,j<k→inB (el l j) 0 (n-1)=true) (fun i=>l.length-(intOf i).toNat)
 case atStart=>exact⟨0,Nat.zero_le _,rfl,fun j hj=>by omega⟩
 case round =>
  obtain⟨k,hk,rfl,hall⟩:=hrel;have HA:=aj hall;clear hall;by_cases hlt:k<l.length
  ·rcases HV.out.2.2 with h0|⟨b,off,rfl,hc⟩
   ·omega
   have hck:=hc k hlt;have k1:(k:Int)<(l.length:Int):=by omega
   have k0:(0:Int)≤(k:Int):=by omega
   have hI:=fun X=>dS (el l k) 0 (n-1) X
   clear hc
   cases hb:inB (el l k) 0 (n-1) with
   | true =>
    rw[hb] at hI
    have HN:Hid (∀ j,j<k+1→inB (el l j) 0 (n-1)=true):=fun j hj=>by
     rcases Nat.lt_succ_iff_lt_or_eq.1 hj with h1|h1
     ·exact HA.out j h1
     ·rw[h1];exact hb
    generalize el l k=x at *;clear hb;go_wp2_with (go_at_call 40;refine (hI _).mono ?_;rintro e w' ⟨rfl,hw'⟩;rw[hw'];clear hw')
    go_round
    case rel=>exact⟨k+1,by omega,by go_num,HN.out⟩
    case measure=>simp[intOf];omega
   | false =>
    rw[hb] at hI;have HZ:=aj (Ri hlt hb);generalize el l k=x at *;clear hb;go_wp2_with (go_at_call 40;refine (hI _).mono ?_;rintro e w' ⟨rfl,hw'⟩;rw[hw'];clear hw')
    go_ret
    exact⟨aH (by rw[HZ.out]),Below.refl _ _⟩
  ·have k1:¬ ((k:Int)<(l.length:Int)):=by omega
   have HZ:Hid (jv l n=qE l):=Va (fun j hj=>HA.out j (by omega))
   generalize qE l=Q at *;go_wp2_with (go_at_call 112;refine hR.mono ?_;rintro e w2 ⟨rfl,q,hw2⟩)
   go_ret
   exact⟨aH (by rw[HZ.out]),bg (Below.refl _ _)⟩
theorem GR {v:List Int} {n:Int} (h1:okB v=true) (h2:(v.length:Int)=n) (h3:∀ k,k<v.length→el v k≤12):jc v n=true:=by
 have:v.all (fun x=>decide (x≤12))=true:=by
  rw[List.all_eq_true];intro x hx;obtain⟨j,hj,rfl⟩:=List.mem_iff_getElem.1 hx;have:=h3 j hj;simpa[el,hj] using this
 rw[jc,h1,this,decide_eq_true h2]
 rfl
theorem NP {v:List Int} {n:Int} {k:Nat} (hk:k<v.length) (h:¬ el v k≤12):jc v n=false:=by
 have:v.all (fun x=>decide (x≤12))=false:=by
  rw[List.all_eq_false];exact⟨el v k,iF hk,by simpa using h⟩
 rw[jc,this];simp
theorem P7 (a:Option Addr) (cap:Nat) (l:List Int) (n:Int) (w:World) (hv:Vec w a l.length l) (hm:l.length≤maxLen) :
  Calls Tryz.prog 115 #[.slice a l.length cap,.int .i64 n] w fun e w'=>e=.returned (.bool (jc l n))∧w'=w:=by
 have hO:=mY a l.length cap l w hv hm;have HV:=aj hv;unfold maxLen at hm;clear hv
 cases hok:okB l with
 | false =>
  have HZ:Hid (jc l n=false):=by rw[Hid,jc,hok];rfl
  rw[hok] at hO;clear hok;go_enter Tryz.func115,Tryz.ntmps115
  go_wp2_with (go_at_call 84;refine hO.mono ?_;rintro e w' ⟨rfl,hw'⟩;rw[hw'];clear hw')
  go_ret
  exact⟨aH (by rw[HZ.out]),rfl⟩
 | true =>
  rw[hok] at hO;by_cases hl:(l.length:Int)=n
  ·have e1:((l.length:Int) != n)=false:=by simpa using hl
   have HP:Hid ((∀ k,k<l.length→el l k≤12)→jc l n=true):=fun h=>GR hok hl h
   clear hok hl;go_enter Tryz.func115,Tryz.ntmps115
   go_wp2_with (go_at_call 84;refine hO.mono ?_;rintro e w' ⟨rfl,hw'⟩;rw[hw'];clear hw')
   go_loop [5] (fun i=>∃ k:Nat,k≤l.length∧i=.int .i64 k∧∀ j,j<k→el l j≤12) (fun i=>l.length-(intOf i).toNat)
   case atStart=>exact⟨0,Nat.zero_le _,rfl,fun j hj=>by omega⟩
   case round =>
    obtain⟨k,hk,rfl,hall⟩:=hrel;have HA:=aj hall;clear hall;by_cases hlt:k<l.length
    ·rcases HV.out.2.2 with h0|⟨b,off,rfl,hc⟩
     ·omega
     have hck:=hc k hlt;have k1:(k:Int)<(l.length:Int):=by omega
     have k0:(0:Int)≤(k:Int):=by omega
     clear hc;by_cases h12:el l k≤12
     ·have g12:¬ (12<el l k):=by omega
      have HN:Hid (∀ j,j<k+1→el l j≤12):=fun j hj=>by
       rcases Nat.lt_succ_iff_lt_or_eq.1 hj with h1|h1
       ·exact HA.out j h1
       ·rw[h1];exact h12
      generalize el l k=x at *;clear h12;go_wp2
      go_round
      case rel=>exact⟨k+1,by omega,by go_num,HN.out⟩
      case measure=>simp[intOf];omega
     ·have g12:12<el l k:=by omega
      have HZ:Hid (jc l n=false):=NP hlt h12;generalize el l k=x at *;clear h12;go_wp2;go_ret
      exact⟨aH (by rw[HZ.out]),rfl⟩
    ·have k1:¬ ((k:Int)<(l.length:Int)):=by omega
     have HZ:Hid (jc l n=true):=HP.out (fun j hj=>HA.out j (by omega))
     go_wp2;go_ret
     exact⟨aH (by rw[HZ.out]),rfl⟩
  ·have e1:((l.length:Int) != n)=true:=by simpa using hl
   have HZ:Hid (jc l n=false):=by rw[Hid,jc,decide_eq_false hl];simp
   clear hok hl;go_enter Tryz.func115,Tryz.ntmps115
   go_wp2_with (go_at_call 84;refine hO.mono ?_;rintro e w' ⟨rfl,hw'⟩;rw[hw'];clear hw')
   go_ret
   exact⟨aH (by rw[HZ.out]),rfl⟩
section
theorem Rj {r:Rw} {n:Int} (h:inB n 1 5=false):bI r n=false:=by rw[bI,h];rfl
theorem Rk {r:Rw} {n:Int} (h:inB r.ver 0 1000000=false):bI r n=false:=by rw[bI,h];simp
theorem ak3 {r:Rw} {n:Int} (h:¬ r.txt.length≤12):bI r n=false:=by rw[bI,decide_eq_false h];simp
theorem EC {r:Rw} {n:Int} (h:jc r.got n=false):bI r n=false:=by rw[bI,h];simp
theorem Rl {r:Rw} {n:Int} (h:jv r.ak n=false):bI r n=false:=by rw[bI,h];simp
theorem ak4 {r:Rw} {n:Int} {k:Nat} (hk:k<r.txt.length) (h:¬ (r.txt.getD k []).length≤20):bI r n=false:=by
 have:r.txt.all (fun t=>decide (t.length≤20))=false:=by
  rw[List.all_eq_false];refine⟨r.txt[k],List.getElem_mem hk, ?_⟩;rw[List.getD_eq_getElem?_getD,List.getElem?_eq_getElem hk] at h;simpa using h
 rw[bI,this];simp
def FY (r:Rw) (n:Int):Bool:=if r.aB then r.wed&&(inB r.aC 0 (n-1)&&jc r.aA n) else decide (r.aC=0)&&decide (r.aA=[])
theorem Ve {r:Rw} {n:Int} (h1:inB n 1 5=true) (h2:inB r.ver 0 1000000=true) (h3:r.txt.length≤12) (h4:jc r.got n=true) (h5:jv r.ak n=true) (h6:∀ k,k<r.txt.length→(r.txt.getD k []).length≤20):bI r n=FY r n:=by
 have:r.txt.all (fun t=>decide (t.length≤20))=true:=by
  rw[List.all_eq_true];intro t ht;obtain⟨j,hj,rfl⟩:=List.mem_iff_getElem.1 ht;have:=h6 j hj;rw[List.getD_eq_getElem?_getD,List.getElem?_eq_getElem hj] at this;simpa using this
 rw[bI,h1,h2,decide_eq_true h3,h4,h5,this]
 rfl
attribute [local irreducible] sv
theorem Vf (A:Ra) (r:Rw) (n:Int) (w:World) (hv:nJ w A r) :
  Calls Tryz.prog 74 #[bV A r,.int .i64 n] w fun e w'=>e=.returned (.bool (bI r n))∧Below w.heap.size w w':=by
 have hB0:=aF w (.cells (bD A r) 44);have hx:=Bx.new w 44 (bD A r);have h0:=hv.below hB0;generalize hW:w.alloc (.cells (bD A r) 44)=W at *;have hsz:w.heap.size<W.heap.size:=hx.lt;obtain⟨ver,txt,got,ak,wed,aB,aC,aA⟩:=r;obtain⟨ta,tc,ga,gc,sa,sc,ma,mc⟩:=A;have hw0:w.alloc (.cells #[.int .i64 ver,.slice ta txt.length tc,.slice ga got.length gc,.slice sa ak.length sc,.bool wed,.bool aB,.int .i64 aC,.slice ma aA.length mc] 44)=W:=hW;obtain⟨⟨c0,c1,c2,c3⟩,c4,c5,c6,c7⟩:=Bx.r8 hx;have HX:Hid (Bx W w.heap.size 44 #[.int .i64 ver,.slice ta txt.length tc,.slice ga got.length gc,.slice sa ak.length sc,.bool wed,.bool aB,.int .i64 aC,.slice ma aA.length mc]):=hx;obtain⟨htx,hgo,hsu,htr,mt,mg,ms,mm⟩:=h0;simp only at htx hgo hsu htr mt mg ms mm c0 c1 c2 c3 c4 c5 c6 c7
 have HB0:Hid (Below w.heap.size w W):=hB0;unfold bV bD;clear hv hx hW hB0;have Jl:=mY ga got.length gc got W hgo mg;simp only
 cases e1:inB n 1 5 with
 | false =>
  have HZ:Hid (bI ⟨ver,txt,got,ak,wed,aB,aC,aA⟩ n=false):=Rj e1;go_enter Tryz.func74,Tryz.ntmps74
  go_wp2_with (first|(go_at_call 40;refine (dS _ _ _ _).mono ?_;rintro e w' ⟨rfl,hw'⟩;rw[hw'];clear hw'))
  go_ret
  exact⟨aH (by rw[HZ.out]),HB0.out⟩
 | true =>
 have fG:=dP.1 e1;have Di:=Vd sa sc ak n W hsu ms (by omega)
 have yH:Hid (inB n 1 5=true):=e1
 cases e2:inB ver 0 1000000 with
 | false =>
  have HZ:Hid (bI ⟨ver,txt,got,ak,wed,aB,aC,aA⟩ n=false):=Rk e2;go_enter Tryz.func74,Tryz.ntmps74
  go_wp2_with (first|(go_at_call 40;refine (dS _ _ _ _).mono ?_;rintro e w' ⟨rfl,hw'⟩;rw[hw'];clear hw'))
  go_ret
  exact⟨aH (by rw[HZ.out]),HB0.out⟩
 | true =>
 have zT:Hid (inB ver 0 1000000=true):=e2;by_cases h12:txt.length≤12;rotate_left
 ·have g12:(12:Int)<(txt.length:Int):=by omega
  have HZ:Hid (bI ⟨ver,txt,got,ak,wed,aB,aC,aA⟩ n=false):=ak3 h12;go_enter Tryz.func74,Tryz.ntmps74
  go_wp2_with (first|(go_at_call 40;refine (dS _ _ _ _).mono ?_;rintro e w' ⟨rfl,hw'⟩;rw[hw'];clear hw'))
  go_ret
  exact⟨aH (by rw[HZ.out]),HB0.out⟩
 have g12:¬ ((12:Int)<(txt.length:Int)):=by omega
 cases e4:okB got with
 | false =>
  rw[e4] at Jl;have HZ:Hid (bI ⟨ver,txt,got,ak,wed,aB,aC,aA⟩ n=false):=EC (by simp[jc,e4])
  go_enter Tryz.func74,Tryz.ntmps74
  go_wp2_with (first|(go_at_call 40;refine (dS _ _ _ _).mono ?_;rintro e w' ⟨rfl,hw'⟩;rw[hw'];clear hw')|(go_at_call 84;refine Jl.mono ?_;rintro e w' ⟨rfl,hw'⟩;rw[hw'];clear hw'))
  go_ret
  exact⟨aH (by rw[HZ.out]),HB0.out⟩
 | true =>
 rw[e4] at Jl;by_cases h5:(got.length:Int)=n;rotate_left
 ·have g5:((got.length:Int) != n)=true:=by simpa using h5
  have HZ:Hid (bI ⟨ver,txt,got,ak,wed,aB,aC,aA⟩ n=false):=EC (by simp[jc,h5])
  go_enter Tryz.func74,Tryz.ntmps74
  go_wp2_with (first|(go_at_call 40;refine (dS _ _ _ _).mono ?_;rintro e w' ⟨rfl,hw'⟩;rw[hw'];clear hw')|(go_at_call 84;refine Jl.mono ?_;rintro e w' ⟨rfl,hw'⟩;rw[hw'];clear hw'))
  go_ret
  exact⟨aH (by rw[HZ.out]),HB0.out⟩
 have g5:((got.length:Int) != n)=false:=by simpa using h5
 have HSM:Hid ((∀ k,k<got.length→el got k≤12)→jc got n=true):=fun h=>GR e4 h5 h
 have HG5:Hid ((got.length:Int)=n):=h5;clear h5 e4
 cases e6:jv ak n with
 | false =>
  rw[e6] at Di;have HZ:Hid (bI ⟨ver,txt,got,ak,wed,aB,aC,aA⟩ n=false):=Rl e6;go_enter Tryz.func74,Tryz.ntmps74
  go_wp2_with (first|(go_at_call 40;refine (dS _ _ _ _).mono ?_;rintro e w' ⟨rfl,hw'⟩;rw[hw'];clear hw')|(go_at_call 84;refine Jl.mono ?_;rintro e w' ⟨rfl,hw'⟩;rw[hw'];clear hw')|(go_at_call 114;refine Di.mono ?_;rintro e w2 ⟨rfl,hb2⟩;obtain⟨⟨d0,d1,d2,d3⟩,d4,d5,d6,d7⟩:=Bx.r8 (HX.out.below hb2)))
  go_ret
  exact⟨aH (by rw[HZ.out]),HB0.out.trans (hb2.mono HB0.out.size)⟩
 | true =>
 rw[e6] at Di;have HN6:Hid (jv ak n=true):=e6;clear e6;have YJ:Hid (qO W ta txt):=htx;have HGO:Hid (Vec W ga got.length got):=hgo;have HTR:Hid (Vec W ma aA.length aA):=htr;clear htx hgo hsu htr;go_enter Tryz.func74,Tryz.ntmps74
 go_wp2_with (first|(go_at_call 40;refine (dS _ _ _ _).mono ?_;rintro e w' ⟨rfl,hw'⟩;rw[hw'];clear hw')|(go_at_call 84;refine Jl.mono ?_;rintro e w' ⟨rfl,hw'⟩;rw[hw'];clear hw')|(go_at_call 114;refine Di.mono ?_;rintro e w2 ⟨rfl,hb2⟩;obtain⟨⟨d0,d1,d2,d3⟩,d4,d5,d6,d7⟩:=Bx.r8 (HX.out.below hb2)))
 have HB2:Hid (Below w.heap.size w w2):=HB0.out.trans (hb2.mono HB0.out.size);have HT2:Hid (qO w2 ta txt):=YJ.out.below hb2;have HG2:Hid (Vec w2 ga got.length got):=HGO.out.below hb2 (Nat.le_refl _);have hTr:=P7 ma mc aA n w2 (HTR.out.below hb2 (Nat.le_refl _)) mm;unfold maxLen at mt mg ms mm;clear Jl Di hb2 c0 c1 c2 c3 c4 c5 c6 c7 hw0 g5 e1 e2 YJ HGO HTR
 go_loop [5] (fun i=>∃ k:Nat,k≤txt.length∧i=.int .i64 k∧∀ j,j<k→(txt.getD j []).length≤20) (fun i=>txt.length-(intOf i).toNat)
 case atStart=>exact⟨0,Nat.zero_le _,rfl,fun j hj=>by omega⟩
 case round =>
  obtain⟨k,hk,rfl,hall⟩:=hrel;have HA:=aj hall;clear hall;by_cases hlt:k<txt.length
  ·rcases HT2.out with h0|⟨b,off,rfl,hc⟩
   ·omega
   have hck:=hc k hlt;have k1:(k:Int)<(txt.length:Int):=by omega
   have k0:(0:Int)≤(k:Int):=by omega
   clear hc;have ak5:=vO (txt.getD k []);by_cases h20:(txt.getD k []).length≤20
   ·have g20:¬ ((20:Int)<((txt.getD k []).length:Int)):=by omega
    have HN:Hid (∀ j,j<k+1→(txt.getD j []).length≤20):=fun j hj=>by
     rcases Nat.lt_succ_iff_lt_or_eq.1 hj with h1|h1
     ·exact HA.out j h1
     ·rw[h1];exact h20
    generalize txt.getD k []=t at *;clear h20;go_wp2
    go_round
    case rel=>exact⟨k+1,by omega,by go_num,HN.out⟩
    case measure=>simp[intOf];omega
   ·have g20:(20:Int)<((txt.getD k []).length:Int):=by omega
    have HZ:Hid (bI ⟨ver,txt,got,ak,wed,aB,aC,aA⟩ n=false):=ak4 (k:=k) hlt h20;generalize txt.getD k []=t at *;clear h20;go_wp2;go_ret
    exact⟨aH (by rw[HZ.out]),HB2.out⟩
  ·have k1:¬ ((k:Int)<(txt.length:Int)):=by omega
   have ak6:Hid (∀ j,j<txt.length→(txt.getD j []).length≤20):=fun j hj=>HA.out j (by omega)
   clear HA HT2;go_wp2
   go_loop [6] (fun i=>∃ m:Nat,m≤got.length∧i=.int .i64 m∧∀ j,j<m→el got j≤12) (fun i=>got.length-(intOf i).toNat)
   case atStart=>exact⟨0,Nat.zero_le _,rfl,fun j hj=>by omega⟩
   case round =>
    obtain⟨m,hm,rfl,hall⟩:=hrel;have HA:=aj hall;clear hall;by_cases hlt2:m<got.length
    ·rcases HG2.out.2.2 with h0|⟨b,off,rfl,hc⟩
     ·omega
     have hck:=hc m hlt2;have k1:(m:Int)<(got.length:Int):=by omega
     have k0:(0:Int)≤(m:Int):=by omega
     clear hc;by_cases P8:el got m≤12
     ·have aw9:¬ (12<el got m):=by omega
      have HN:Hid (∀ j,j<m+1→el got j≤12):=fun j hj=>by
       rcases Nat.lt_succ_iff_lt_or_eq.1 hj with h1|h1
       ·exact HA.out j h1
       ·rw[h1];exact P8
      generalize el got m=x at *;clear P8;go_wp2
      go_round
      case rel=>exact⟨m+1,by omega,by go_num,HN.out⟩
      case measure=>simp[intOf];omega
     ·have aw9:12<el got m:=by omega
      have HZ:Hid (bI ⟨ver,txt,got,ak,wed,aB,aC,aA⟩ n=false):=EC (NP (v:=got) hlt2 P8);generalize el got m=x at *;clear P8;go_wp2;go_ret
      exact⟨aH (by rw[HZ.out]),HB2.out⟩
    ·have k1:¬ ((m:Int)<(got.length:Int)):=by omega
     have HE:Hid (bI ⟨ver,txt,got,ak,wed,aB,aC,aA⟩ n=FY ⟨ver,txt,got,ak,wed,aB,aC,aA⟩ n):=Ve yH.out zT.out h12 (HSM.out (fun j hj=>HA.out j (by omega))) HN6.out ak6.out
     clear HA HG2 ak6;have hwn:wrap64 (n-1)=n-1:=by unfold wrap64;omega
     cases aB with
     | true =>
      cases wed with
      | false =>
       have HZ:Hid (bI ⟨ver,txt,got,ak,false,true,aC,aA⟩ n=false):=by rw[Hid,HE.out];rfl
       go_wp2;go_ret
       exact⟨aH (by rw[HZ.out]),HB2.out⟩
      | true =>
       cases e7:inB aC 0 (n-1) with
       | false =>
        have HZ:Hid (bI ⟨ver,txt,got,ak,true,true,aC,aA⟩ n=false):=by rw[Hid,HE.out,FY];simp[e7]
        go_wp2_with (first|(go_at_call 40;refine (dS _ _ _ _).mono ?_;rintro e w' ⟨rfl,hw'⟩;rw[hw'];clear hw'))
        go_ret
        exact⟨aH (by rw[HZ.out]),HB2.out⟩
       | true =>
        have HZ:Hid (bI ⟨ver,txt,got,ak,true,true,aC,aA⟩ n=jc aA n):=by rw[Hid,HE.out,FY];simp[e7]
        generalize jc aA n=Q at *;go_wp2_with (first|(go_at_call 40;refine (dS _ _ _ _).mono ?_;rintro e w' ⟨rfl,hw'⟩;rw[hw'];clear hw')|(go_at_call 115;refine hTr.mono ?_;rintro e w' ⟨rfl,hw'⟩;rw[hw'];clear hw'))
        go_ret
        exact⟨aH (by rw[HZ.out]),HB2.out⟩
     | false =>
      have HZ:Hid (bI ⟨ver,txt,got,ak,wed,false,aC,aA⟩ n=(decide (aC=0)&&decide (aA=[]))):=by rw[Hid,HE.out];rfl
      by_cases h7:aC=0
      ·have g7:(aC==0)=true:=by simpa using h7
       have HZ2:Hid (bI ⟨ver,txt,got,ak,wed,false,aC,aA⟩ n=decide (aA=[])):=by rw[Hid,HZ.out,decide_eq_true h7];rfl
       by_cases h8:aA=[]
       ·have g8:((aA.length:Int)==0)=true:=by rw[h8];rfl
        have HZ3:Hid (bI ⟨ver,txt,got,ak,wed,false,aC,aA⟩ n=true):=by rw[Hid,HZ2.out,decide_eq_true h8]
        clear h7 h8;go_wp2;go_ret
        exact⟨aH (by rw[HZ3.out]),HB2.out⟩
       ·have g8:((aA.length:Int)==0)=false:=by
         have:=List.length_pos_iff.2 h8;simp;omega
        have HZ3:Hid (bI ⟨ver,txt,got,ak,wed,false,aC,aA⟩ n=false):=by rw[Hid,HZ2.out,decide_eq_false h8]
        clear h7 h8;go_wp2;go_ret
        exact⟨aH (by rw[HZ3.out]),HB2.out⟩
      ·have g7:(aC==0)=false:=by simpa using h7
       have HZ3:Hid (bI ⟨ver,txt,got,ak,wed,false,aC,aA⟩ n=false):=by rw[Hid,HZ.out,decide_eq_false h7];rfl
       clear h7;go_wp2;go_ret
       exact⟨aH (by rw[HZ3.out]),HB2.out⟩
end
section
theorem ED {l o:List Int} {k:Nat} (hk:k<o.length) (h:el o k∉l):o.all (fun x=>decide (x∈l))=false:=by
 rw[List.all_eq_false];exact⟨el o k,iF hk,by simpa using h⟩
theorem GU {l o:List Int} (h:∀ k,k<o.length→el o k∈l):o.all (fun x=>decide (x∈l))=true:=by
 rw[List.all_eq_true];intro x hx;obtain⟨j,hj,rfl⟩:=List.mem_iff_getElem.1 hx;have:=h j hj;simpa[el,hj] using this
theorem Vg (a b:Option Addr) (c d:Nat) (l o:List Int) (w:World) (hv:Vec w a l.length l) (hu:Vec w b o.length o) (hm:l.length≤maxLen) (hm2:o.length≤maxLen) :
  Calls Tryz.prog 151 #[.slice a l.length c,.slice b o.length d] w fun e w'=>e=.returned (.bool (o.all (fun x=>decide (x∈l))))∧w'=w:=by
 have hH:=fun x=>oI a l.length c x l w hv hm
 have HU:=aj hu;unfold maxLen at hm hm2;clear hu hv;go_enter Tryz.func151,Tryz.ntmps151
 go_wp2
 go_loop [5] (fun i=>∃ k:Nat,k≤o.length∧i=.int .i64 k∧∀ j,j<k→el o j∈l) (fun i=>o.length-(intOf i).toNat)
 case atStart=>exact⟨0,Nat.zero_le _,rfl,fun j hj=>by omega⟩
 case round =>
  obtain⟨k,hk,rfl,hall⟩:=hrel;have HA:=aj hall;clear hall;by_cases hlt:k<o.length
  ·rcases HU.out.2.2 with h0|⟨b',off,rfl,hc⟩
   ·omega
   have hck:=hc k hlt;have k1:(k:Int)<(o.length:Int):=by omega
   have k0:(0:Int)≤(k:Int):=by omega
   have hI:=hH (el o k);clear hc hH;by_cases hb:el o k∈l
   ·rw[decide_eq_true hb] at hI
    have HN:Hid (∀ j,j<k+1→el o j∈l):=fun j hj=>by
     rcases Nat.lt_succ_iff_lt_or_eq.1 hj with h1|h1
     ·exact HA.out j h1
     ·rw[h1];exact hb
    generalize el o k=x at *;clear hb;go_wp2_with (go_at_call 113;refine hI.mono ?_;rintro e w' ⟨rfl,hw'⟩;rw[hw'];clear hw')
    go_round
    case rel=>exact⟨k+1,by omega,by go_num,HN.out⟩
    case measure=>simp[intOf];omega
   ·rw[decide_eq_false hb] at hI
    have HZ:=aj (ED hlt hb);generalize el o k=x at *;clear hb;go_wp2_with (go_at_call 113;refine hI.mono ?_;rintro e w' ⟨rfl,hw'⟩;rw[hw'];clear hw')
    go_ret
    exact⟨aH (by rw[HZ.out]),rfl⟩
  ·have k1:¬ ((k:Int)<(o.length:Int)):=by omega
   have HZ:Hid (o.all (fun x=>decide (x∈l))=true):=GU (fun j hj=>HA.out j (by omega))
   go_wp2;go_ret
   exact⟨aH (by rw[HZ.out]),rfl⟩
attribute [local irreducible] sv
end
def fM (r:Rw):List aI:=[lM r.txt,bQ r.got,bQ r.ak,bQ r.aA]
def fC (A:Ra) (r:Rw):List Value:=[.slice A.ta r.txt.length A.tc,.slice A.ga r.got.length A.gc,.slice A.sa r.ak.length A.sc,.slice A.ma r.aA.length A.mc]
def I4 (w w':World) (e:Ending) (r:Rw):Prop:=∃ A:Ra,e=.returned (bV A r)∧iL w w' (fM r) (fC A r)
theorem Vh {w:World} {c1 c2 c3 c4:aI} {v1 v2 v3 v4:Value} {f1 f2 f3 f4:Fp} (h1:aI.ow w c1 v1 f1) (h2:aI.ow w c2 v2 f2) (h3:aI.ow w c3 v3 f3) (h4:aI.ow w c4 v4 f4) (d1:∀ b,f1 b→¬ (f2 b∨f3 b∨f4 b)) (d2:∀ b,f2 b→¬ (f3 b∨f4 b)) (d3:∀ b,f3 b→¬ f4 b) :
  bG w [c1,c2,c3,c4] [v1,v2,v3,v4] (fun b=>f1 b∨f2 b∨f3 b∨f4 b) :=
 ⟨v1,_,f1,fun b=>f2 b∨f3 b∨f4 b,rfl,h1,⟨v2,_,f2,fun b=>f3 b∨f4 b,rfl,h2,⟨v3,_,f3,f4,rfl,h3,⟨v4,[],f4,fun _=>False,rfl,h4,⟨rfl,fun _ h=>h⟩,fun _ _ h=>h,fun b=>by simp⟩,d3,fun b=>Iff.rfl⟩,d2,fun b=>Iff.rfl⟩,d1,fun b=>Iff.rfl⟩
theorem GV (w:World):aI.ow w (lM []) (.slice none 0 0) (fun _=>False):=oJ.2 ⟨none,0,none,rfl,dR.nil _ _ Ey,fun b=>by simp⟩
theorem qP (w:World):aI.ow w (bQ []) (.slice none 0 0) (fun _=>False):=fB.2 ⟨none,0,none,rfl,dR.nil _ _ Ey,fun b=>by simp⟩
theorem Vj {w w':World} (hb:Below w.heap.size w w'):iL w w' (fM jH) (fC ⟨none,0,none,0,none,0,none,0⟩ jH) :=
 ⟨_,Vh (GV w') (qP w') (qP w') (qP w') (fun b h=>absurd h id) (fun b h=>absurd h id) (fun b h=>absurd h id),fun b h=>by rcases h with h|h|h|h<;>exact absurd h id,hb⟩
theorem ZU (w:World) (n:Nat) (hn:n≤maxLen):OI (w.alloc (.cells (madeCells #[.int .i64 0] n) 2)) w.heap.size 0 n n (List.replicate n 0):=by
 have h:=zn w #[.int .i64 0] 1 n 2 rfl (by omega) hn
 rw[Nat.mul_one] at h
 have e:(List.replicate n (#[Value.int .i64 0]:Array Value).toList).flatten=(List.replicate n (0:Int)).map (Value.int .i64):=by
  rw[List.map_replicate];clear h hn
  induction n with
  | zero=>rfl
  | succ n ih=>rw[List.replicate_succ,List.replicate_succ,List.flatten_cons,ih];rfl
 rw[e] at h;exact h
theorem FZ (w:World) (g:Nat) {a b c d e f h i:Value}:aO (fun x=>x=g) w ((((((((w.setCell ⟨g,0,none⟩ a).setCell ⟨g,1,none⟩ b).setCell ⟨g,2,none⟩ c).setCell ⟨g,3,none⟩ d).setCell ⟨g,4,none⟩ e).setCell ⟨g,5,none⟩ f).setCell ⟨g,6,none⟩ h).setCell ⟨g,7,none⟩ i) :=
 (((((((aO.set w g 0 a).trans (aO.set _ g 1 b) (fun _ _ h=>h)).trans (aO.set _ g 2 c) (fun _ _ h=>h)).trans (aO.set _ g 3 d) (fun _ _ h=>h)).trans (aO.set _ g 4 e) (fun _ _ h=>h)).trans (aO.set _ g 5 f) (fun _ _ h=>h)).trans (aO.set _ g 6 h) (fun _ _ h=>h)).trans (aO.set _ g 7 i) (fun _ _ h=>h)
theorem Bx.f8 {w:World} {B:Nat} {T:TypeId} {cs:Array Value} (h:Bx w B T cs):(w.frozen? ⟨B,0,none⟩=false∧w.frozen? ⟨B,1,none⟩=false∧w.frozen? ⟨B,2,none⟩=false∧w.frozen? ⟨B,3,none⟩=false)∧w.frozen? ⟨B,4,none⟩=false∧w.frozen? ⟨B,5,none⟩=false∧w.frozen? ⟨B,6,none⟩=false∧w.frozen? ⟨B,7,none⟩=false :=
 ⟨⟨h.f 0,h.f 1,h.f 2,h.f 3⟩,h.f 4,h.f 5,h.f 6,h.f 7⟩
theorem Jm (n:Int) (w:World) :
  Calls Tryz.prog 80 #[.int .i64 n] w fun e w'=>I4 w w' e (gB n):=by
 have hb0:=aF w (.cells #[.int .i64 0,.slice none 0 0,.slice none 0 0,.slice none 0 0,.bool false,.bool false,.int .i64 0,.slice none 0 0] 44);have hx:=Bx.new w 44 #[.int .i64 0,.slice none 0 0,.slice none 0 0,.slice none 0 0,.bool false,.bool false,.int .i64 0,.slice none 0 0];have HB0:=aj hb0;generalize hW:w.alloc (.cells #[.int .i64 0,.slice none 0 0,.slice none 0 0,.slice none 0 0,.bool false,.bool false,.int .i64 0,.slice none 0 0] 44)=W at *;have hlt:=hx.lt
 cases e1:inB n 1 5 with
 | false =>
  have HZ:Hid (gB n=jH):=by rw[Hid,gB,e1];rfl
  obtain⟨⟨c0,c1,c2,c3⟩,c4,c5,c6,c7⟩:=hx.r8;obtain⟨⟨f0,f1,f2,f3⟩,f4,f5,f6,f7⟩:=hx.f8;clear hx hb0;go_enter Tryz.func80,Tryz.ntmps80
  go_wp2_with (go_at_call 40;refine (dS _ _ _ _).mono ?_;rintro e w' ⟨rfl,hw'⟩;rw[hw'];clear hw')
  refine bodyPost_ret (v:=bV ⟨none,0,none,0,none,0,none,0⟩ jH) (by simp[results,Tryz.results80,go_sem,bV,bD,jH, *]) rfl ?_
  rw[HZ.out];exact⟨_,rfl,Vj ((FZ W w.heap.size).below HB0.out HB0.out.size (fun b h=>by rw[h];exact Nat.le_refl _))⟩
 | true =>
  have hn:=dP.1 e1;obtain⟨N,rfl⟩:∃ N:Nat,n=(N:Int):=⟨n.toNat,by omega⟩
  have HZ:Hid (gB (N:Int)=⟨0,[],List.replicate N 0,[],false,false,0,[]⟩):=by rw[Hid,gB,e1];simp
  have hmk:=run_make_row' (P:=Tryz.prog) 41 2 (.int .i64 0) 8 Tryz.underlying41 Tryz.info2 rfl .i64 .i64 N (by omega) (by omega)
  have hM:=ZU (w.alloc (.cells #[.int .i64 0,.slice none 0 0,.slice (some ⟨w.heap.size+1,0,none⟩) N N,.slice none 0 0,.bool false,.bool false,.int .i64 0,.slice none 0 0] 44)) N (by unfold maxLen;omega)
  have hbM:Below w.heap.size w ((w.alloc (.cells #[.int .i64 0,.slice none 0 0,.slice (some ⟨w.heap.size+1,0,none⟩) N N,.slice none 0 0,.bool false,.bool false,.int .i64 0,.slice none 0 0] 44)).alloc (.cells (madeCells #[.int .i64 0] N) 2)):=(aF w _).trans ((aF _ _).mono (aF w _).size);rw[World.size_alloc] at hM
  have HA:Hid (iL w ((w.alloc (.cells #[.int .i64 0,.slice none 0 0,.slice (some ⟨w.heap.size+1,0,none⟩) N N,.slice none 0 0,.bool false,.bool false,.int .i64 0,.slice none 0 0] 44)).alloc (.cells (madeCells #[.int .i64 0] N) 2)) (fM ⟨0,[],List.replicate N 0,[],false,false,0,[]⟩) (fC ⟨none,0,some ⟨w.heap.size+1,0,none⟩,N,none,0,none,0⟩ ⟨0,[],List.replicate N 0,[],false,false,0,[]⟩)):=by
   refine⟨_,Vh (GV _) (f2:=fun b=>b=w.heap.size+1) ?_ (qP _) (qP _) (fun b h=>absurd h id) (fun b _ h=>by rcases h with h|h<;>exact absurd h id) (fun b h=>absurd h id),fun b h=>?_,hbM⟩
   ·refine fB.2 ⟨_,N,some (w.heap.size+1),rfl,dR.of ?_,fun b=>by simp[eq_comm]⟩
    have e:(List.replicate N (0:Int)).length=N:=List.length_replicate;simp only[e]
    exact hM
   ·rcases h with h|h|h|h
    ·exact absurd h id
    ·rw[h];omega
    ·exact absurd h id
    ·exact absurd h id
  clear hx hb0 hM hbM hW hlt HB0;go_enter Tryz.func80,Tryz.ntmps80
  go_wp2_with (go_at_call 40;refine (dS _ _ _ _).mono ?_;rintro e w' ⟨rfl,hw'⟩;rw[hw'];clear hw')
  refine bodyPost_ret (v:=bV ⟨none,0,some ⟨w.heap.size+1,0,none⟩,N,none,0,none,0⟩ ⟨0,[],List.replicate N 0,[],false,false,0,[]⟩) (by simp[results,Tryz.results80,go_sem,bV,bD]) rfl ?_
  rw[HZ.out];exact⟨_,rfl,HA.out⟩
abbrev Vw:=Int×List Int
def Jo (v:Vw):Prop:=(1≤v.1∧v.1≤1000000)∧(1≤v.2.length∧v.2.length≤8)∧v.2.Pairwise (·<·)∧∀ x∈v.2,0≤x∧x≤99
instance (v:Vw):Decidable (Jo v):=by unfold Jo;infer_instance
theorem au4 {xs:List Int} {i:Nat} (h:i<xs.length):el xs i∈xs:=by simp[el,List.getD,h]
theorem au5 {xs:List Int} {x:Int} (h:x∈xs):∃ i,i<xs.length∧el xs i=x:=by
 obtain⟨i,hi,e⟩:=List.mem_iff_getElem.1 h;exact⟨i,hi,by simp[el,List.getD,hi,e]⟩
def ax0 (m l:List Int):Nat:=(m.filter (fun x=>decide (x∈l))).length
def mjP (v:Vw) (l:List Int):Prop:=Jo v∧v.2.length<2*ax0 v.2 l
instance (v:Vw) (l:List Int):Decidable (mjP v l):=by unfold mjP;infer_instance
def ak7 (m gone:List Int):List Int:=m.filter (fun x=>decide (x∉gone))
def au6 (m come:List Int):List Int:=come.foldl bT m
def ak8 (v:Vw) (gone come:List Int):Prop:=Jo v∧mjP v (ak7 v.2 gone)∧Jo (v.1+1,au6 (ak7 v.2 gone) come)
instance (v:Vw) (gone come:List Int):Decidable (ak8 v gone come):=by unfold ak8;infer_instance
theorem Vk (h:List Int) (n:Int):(bT h n).length≤h.length+1:=by
 induction h with
 | nil=>simp[bT]
 | cons x h ih =>
  unfold bT
  split
  ·simp only[List.length_cons];omega
  ·split<;>simp only[List.length_cons]<;>omega
theorem VV.below {w w':World} {a:Option Addr} {len cap:Nat} {H:List (List Int)} (h:VV w a len cap H) (hb:Below w.heap.size w w'):VV w' a len cap H :=
 ⟨h.n,h.le,h.mx,fun i hi => by
  obtain⟨b,off,x,c,e,h1,h2,h3,h4⟩:=h.row i hi;exact⟨b,off,x,c,e,(hb.cell (World.block_lt_of_cell? _ _ h1)).trans h1,h2.below hb (Nat.le_refl _),h3,h4⟩⟩
theorem ni {w w':World} (hb:Below w.heap.size w w') {p:Addr} {v:Value} (h:w.cell? p=some v):w'.cell? p=some v:=(hb.cell (World.block_lt_of_cell? _ _ h)).trans h
theorem ZV (n:Int):∀ (h:List Int) (k:Nat),k≤h.length→(∀ t,t<k→el h t<n)→(k<h.length→¬ el h k<n) →
  bT h n=if k<h.length∧el h k=n then h else h.take k++n::h.drop k:=by
 intro h
 induction h with
 | nil=>intro k hk _ _;simp at hk;subst hk;simp[bT]
 | cons x l ih =>
  intro k hk hlt hge
  cases k with
  | zero =>
   have h0:¬ x<n:=by simpa[el] using hge (by simp)
   unfold bT;rw[if_neg h0];by_cases e:x=n
   ·rw[if_pos e,if_pos ⟨by simp,by simpa[el] using e⟩]
   ·rw[if_neg e,if_neg (by simp[el];exact e)]
    simp
  | succ k =>
   have h0:x<n:=by simpa[el] using hlt 0 (by omega)
   have hs:∀ t,el (x::l) (t+1)=el l t:=fun t=>by simp[el]
   unfold bT;rw[if_pos h0,ih k (by simpa using hk) (fun t ht=>by rw[← hs];exact hlt (t+1) (by omega)) (fun hk'=>by rw[← hs];exact hge (by simpa using hk')),hs]
   by_cases e:k<l.length∧el l k=n
   ·rw[if_pos e,if_pos ⟨by simpa using e.1,e.2⟩]
   ·rw[if_neg e,if_neg (by simpa using e)]
    simp
theorem F5 {xs:List Int} {k i:Nat} (h:i<k):el (xs.take k) i=el xs i:=by simp[el,List.getElem?_take,h]
theorem ZW {xs:List Int} {k i:Nat}:el (xs.drop k) i=el xs (k+i):=by simp[el,List.getElem?_drop]
theorem vP {w w2:World} {g2 o2 c2 m:Nat} {Z:List Int} (ho2:fA w2 1 g2 o2 (0+m) c2 (([]:List Int).map (Value.int .i64)++Z.map (Value.int .i64))) (hg2:(w.alloc (.cells #[] 2)).grownBy w2 (some w.heap.size))
  (uQ:g2=w.heap.size∨g2=(w.alloc (.cells #[] 2)).heap.size):OI w2 g2 o2 m c2 Z∧w.heap.size≤g2∧Below w.heap.size w w2∧g2<w2.heap.size:=by
 simp only[List.map_nil,List.nil_append,Nat.zero_add] at ho2;refine⟨ho2, ?_,kE ((Below.refl _ _).alloc (Nat.le_refl _) _) hg2 (Nat.le_refl _) (by simp),ho2.blk⟩
 rcases uQ with h|h
 ·rw[h];exact Nat.le_refl _
 ·rw[h];simp
theorem D8 {w w3 w4:World} {o:Obj} {g3 g4 o4 c4 m k:Nat} {T:List Int} {n:Int} (hB:Below w.heap.size w w3) (hg:w.heap.size≤g3) (ho:fA w4 1 g4 o4 (k+1) c4 (T.map (Value.int .i64)++[.int .i64 n])) (hg4:(w3.alloc o).grownBy w4 (some g3))
  (hat:g4=g3∨g4=(w3.alloc o).heap.size):OI w4 g4 o4 (k+1) c4 (T++[n])∧w.heap.size≤g4∧Below w.heap.size w w4:=by
 refine⟨by rw[OI,List.map_append];exact ho, ?_,kE (hB.alloc hB.size _) hg4 hg (Nat.le_trans hB.size (by simp))⟩
 rcases hat with h|h
 ·rw[h];exact hg
 ·rw[h];exact Nat.le_trans hB.size (by simp)
theorem D9 {w w4 w5:World} {g4 g5 o5 c5 m k:Nat} {T D:List Int} {n:Int} (hB:Below w.heap.size w w4) (hg:w.heap.size≤g4) (ho:fA w5 1 g5 o5 (k+1+m) c5 ((T++[n]).map (Value.int .i64)++D.map (Value.int .i64))) (hg5:w4.grownBy w5 (some g4))
  (hat:g5=g4∨g5=w4.heap.size):OI w5 g5 o5 (k+1+m) c5 (T++n::D)∧w.heap.size≤g5∧Below w.heap.size w w5:=by
 refine⟨by rw[OI,show T++n::D=(T++[n])++D by simp,List.map_append];exact ho, ?_,kE hB hg5 hg hB.size⟩
 rcases hat with h|h
 ·rw[h];exact hg
 ·rw[h];exact hB.size
theorem Vl (b off len cap:Nat) (xs:List Int) (n:Int) (w:World) (hl:xs.length=len) (hc:∀ i,i<len→w.cell? ⟨b,off+i,none⟩=some (.int .i64 (el xs i))) (hcap:len≤cap) (hm:cap≤maxLen) (hn:len≤100000000) :
  Calls Tryz.prog 106 #[.slice (some ⟨b,off,none⟩) len cap,.int .i64 n] w fun e w'=>(e=.returned (.slice (some ⟨b,off,none⟩) len cap)∧bT xs n=xs∧w'=w)∨DX w w' e (bT xs n):=by
 obtain⟨i0,hi0,hz0,hz1,hz2⟩:=gX Tryz.info2n;unfold maxLen at hm;have HL:=aj hl
 have HP:Hid (∀ k,k≤len→(∀ t,t<k→el xs t<n)→(k<len→¬ el xs k<n)→bT xs n=if k<len∧el xs k=n then xs else xs.take k++n::xs.drop k):=fun k h1 h2 h3=>by
  have:=ZV n xs k (by omega) h2 (by rw[hl];exact h3)
  rw[hl] at this;exact this
 clear hl;go_enter Tryz.func106,Tryz.ntmps106
 go_wp2_with fail
 go_loop [5] (fun i=>∃ k:Nat,k≤len∧i=.int .i64 k∧∀ t,t<k→el xs t<n) (fun i=>len-(intOf i).toNat)
 case atStart=>exact⟨0,Nat.zero_le _,rfl,fun t ht=>by omega⟩
 case round =>
  obtain⟨k,hk,rfl,hlo⟩:=hrel;have HO:=aj hlo;clear hlo;have k0:(0:Int)≤(k:Int):=by omega
  by_cases hlt:k<len
  ·have hck:=hc k hlt
   have k1:(k:Int)<(len:Int):=by omega
   by_cases hx:el xs k<n
   ·have hd:decide (el xs k<n)=true:=by simpa using hx
    have HE:Hid (∀ t,t<k+1→el xs t<n):=fun t ht=>by
     rcases Nat.lt_succ_iff_lt_or_eq.1 ht with h1|h1
     ·exact HO.out t h1
     ·rw[h1];exact hx
    go_wp2
    go_round
    case rel=>exact⟨k+1,by omega,by go_num,HE.out⟩
    case measure=>simp[intOf];omega
   ·have hd:decide (el xs k<n)=false:=by simpa using hx
    have HQ:=HP.out k hk HO.out (fun _=>by omega)
    by_cases he:el xs k=n
    ·have hb:(el xs k==n)=true:=by simpa using he
     have HZ:Hid (bT xs n=xs):=by rw[Hid,HQ,if_pos ⟨hlt,he⟩]
     clear HQ he hx;go_wp2;go_ret
     exact .inl ⟨rfl,HZ.out,rfl⟩
    ·have hb:(el xs k==n)=false:=by simpa using he
     have HZ:Hid (bT xs n=xs.take k++n::xs.drop k):=by rw[Hid,HQ,if_neg (fun h=>he h.2)]
     clear HQ he hx;have k2:(k:Int)≤(len:Int):=by omega
     have k3:(k:Int)≤(cap:Int):=by omega
     have oK:Hid ((xs.take k).length=k):=by rw[Hid,List.length_take,HL.out];omega
     have uj:Hid ((xs.drop k).length=len-k):=by rw[Hid,List.length_drop,HL.out]
     have HD:Hid (∀ i,i<(xs.drop k).length→(w.alloc (.cells #[] 2)).cell? ⟨b,off+k+i,none⟩=some (.int .i64 (el (xs.drop k) i))):=fun i hi=>by
      rw[ZW,Nat.add_assoc];exact ni ((Below.refl _ _).alloc (Nat.le_refl _) _) (hc (k+i) (by have:=uj.out;omega))
     have HT:Hid (∀ i,i<(xs.take k).length→w.cell? ⟨b,off+i,none⟩=some (.int .i64 (el (xs.take k) i))):=fun i hi=>by
      rw[F5 (by have:=oK.out;omega)]
      exact hc i (by have:=oK.out;omega)
     clear hc;generalize xs.take k=T at *;generalize xs.drop k=D at *;have Rn:(T.map (Value.int .i64)).length=k*1:=by rw[List.length_map,oK.out];omega
     have hDn:(D.map (Value.int .i64)).length=(len-k)*1:=by rw[List.length_map,uj.out];omega
     go_wp2_with (first
      | (at_builtin;refine dG _ rfl (.tmp 34) (.tmp 37) _ rfl 2 i0 _ 1 8 Tryz.underlying41 hi0 hz0 hz1 hz2 rfl (by omega) w.heap.size 0 0 0 (([]:List Int).map (Value.int .i64)) rfl (jX w 2) ⟨b,off+k,none⟩ (len-k) (cap-k) (D.map (Value.int .i64)) rfl hDn (lI HD.out) (by simp[Value.oneCell']) (by unfold maxLen;omega) (by omega) ?_;intro g2 o2 c2 w2 ho2 hg2 uQ;obtain⟨q2,r2,s2,t2⟩:=vP ho2 hg2 uQ;clear ho2 hg2 uQ)
      | (at_builtin;refine dG _ rfl (.tmp 39) (.tmp 42) _ rfl 2 i0 _ 1 8 Tryz.underlying41 hi0 hz0 hz1 hz2 rfl (by omega) w2.heap.size 0 0 0 (([]:List Int).map (Value.int .i64)) rfl (jX w2 2) ⟨b,off,none⟩ k cap (T.map (Value.int .i64)) rfl Rn (lI (fun i hi=>ni ((Below.refl _ _).alloc (Nat.le_refl _) _) (ni s2 (HT.out i hi)))) (by simp[Value.oneCell']) (by unfold maxLen;omega) (by omega) ?_;intro g3 o3 c3 w3 ho3 hg3 AP;obtain⟨q3,r3,s3,t3⟩:=vP ho3 hg3 AP;clear ho3 hg3 AP)
      | (at_builtin;refine dG _ rfl (.tmp 43) (.tmp 45) _ rfl 2 i0 _ 1 8 Tryz.underlying41 hi0 hz0 hz1 hz2 rfl (by omega) g3 o3 k c3 (T.map (Value.int .i64)) rfl (fA.below q3 ((Below.refl _ _).alloc (Nat.le_refl _) _) t3) ⟨w3.heap.size,0,none⟩ 1 1 [.int .i64 n] rfl rfl (World.news_of_block (cs:=#[.int .i64 n]) (t:=2) (fr:=(0,0)) (heap_alloc_new _ _)) (by simp[Value.oneCell']) (by unfold maxLen;omega) (by omega) ?_;intro g4 o4 c4 w4 uq hg4 AQ;obtain⟨q4,r4,s4⟩:=D8 (m:=0) s3 r3 uq hg4 AQ;clear uq hg4 AQ)
      | (at_builtin;refine dG _ rfl (.tmp 46) (.tmp 47) _ rfl 2 i0 _ 1 8 Tryz.underlying41 hi0 hz0 hz1 hz2 rfl (by omega) g4 o4 (k+1) c4 ((T++[n]).map (Value.int .i64)) rfl q4 ⟨g2,o2,none⟩ (len-k) c2 (D.map (Value.int .i64)) rfl hDn (lI (fun i hi=>OI.cellAt (show OI w4 g2 o2 (len-k) c2 D from fA.below q2 s4 t2) (by have:=uj.out;omega))) (by simp[Value.oneCell']) (by unfold maxLen;omega) (by omega) ?_;intro g5 o5 c5 w5 GX hg5 AU;obtain⟨q5,r5,s5⟩:=D9 s4 r4 GX hg5 AU;clear GX hg5 AU))
     go_ret
     refine .inr ⟨g5,o5,c5, ?_,Nat.le_trans s2.size r5, ?_,s2.trans (s5.mono s2.size)⟩
     ·rw[HZ.out,List.length_append,List.length_cons,oK.out,uj.out]
      exact congrArg (fun z=>Ending.returned (.slice (some ⟨g5,o5,none⟩) z c5)) (by omega)
     ·rw[HZ.out,List.length_append,List.length_cons,oK.out,uj.out,show k+(len-k+1)=k+1+(len-k) by omega]
      exact q5
  ·have HQ:=HP.out k hk HO.out (fun h=>absurd h hlt)
   have HZ:Hid (bT xs n=xs.take k++n::xs.drop k):=by rw[Hid,HQ,if_neg (fun h=>hlt h.1)]
   clear HQ;have hkl:len=k:=by omega
   subst hkl;clear hlt;by_cases hcl:len=cap
   ·subst hcl
    have k2:(0:Int)≤(len:Int):=by omega
    have k3:(len:Int)≤(len:Int):=by omega
    have oK:Hid ((xs.take len).length=len):=by rw[Hid,List.length_take,HL.out];omega
    have uj:Hid ((xs.drop len).length=0):=by rw[Hid,List.length_drop,HL.out];omega
    have HD:Hid (∀ i,i<(xs.drop len).length→(w.alloc (.cells #[] 2)).cell? ⟨b,off+i,none⟩=some (.int .i64 (el (xs.drop len) i))):=fun i hi=>absurd hi (by have:=uj.out;omega)
    have HT:Hid (∀ i,i<(xs.take len).length→w.cell? ⟨b,off+i,none⟩=some (.int .i64 (el (xs.take len) i))):=fun i hi=>by
     rw[F5 (by have:=oK.out;omega)]
     exact hc i (by have:=oK.out;omega)
    clear hc;generalize xs.take len=T at *;generalize xs.drop len=D at *;have Rn:(T.map (Value.int .i64)).length=len*1:=by rw[List.length_map,oK.out];omega
    have hDn:(D.map (Value.int .i64)).length=0*1:=by rw[List.length_map,uj.out]
    go_wp2_with (first
     | (at_builtin;refine dG _ rfl (.tmp 34) (.tmp 37) _ rfl 2 i0 _ 1 8 Tryz.underlying41 hi0 hz0 hz1 hz2 rfl (by omega) w.heap.size 0 0 0 (([]:List Int).map (Value.int .i64)) rfl (jX w 2) ⟨b,off,none⟩ 0 0 (D.map (Value.int .i64)) rfl hDn (lI HD.out) (by simp[Value.oneCell']) (by unfold maxLen;omega) (by omega) ?_;intro g2 o2 c2 w2 ho2 hg2 uQ;obtain⟨q2,r2,s2,t2⟩:=vP ho2 hg2 uQ;clear ho2 hg2 uQ)
     | (at_builtin;refine dG _ rfl (.tmp 39) (.tmp 42) _ rfl 2 i0 _ 1 8 Tryz.underlying41 hi0 hz0 hz1 hz2 rfl (by omega) w2.heap.size 0 0 0 (([]:List Int).map (Value.int .i64)) rfl (jX w2 2) ⟨b,off,none⟩ len len (T.map (Value.int .i64)) rfl Rn (lI (fun i hi=>ni ((Below.refl _ _).alloc (Nat.le_refl _) _) (ni s2 (HT.out i hi)))) (by simp[Value.oneCell']) (by unfold maxLen;omega) (by omega) ?_;intro g3 o3 c3 w3 ho3 hg3 AP;obtain⟨q3,r3,s3,t3⟩:=vP ho3 hg3 AP;clear ho3 hg3 AP)
     | (at_builtin;refine dG _ rfl (.tmp 43) (.tmp 45) _ rfl 2 i0 _ 1 8 Tryz.underlying41 hi0 hz0 hz1 hz2 rfl (by omega) g3 o3 len c3 (T.map (Value.int .i64)) rfl (fA.below q3 ((Below.refl _ _).alloc (Nat.le_refl _) _) t3) ⟨w3.heap.size,0,none⟩ 1 1 [.int .i64 n] rfl rfl (World.news_of_block (cs:=#[.int .i64 n]) (t:=2) (fr:=(0,0)) (heap_alloc_new _ _)) (by simp[Value.oneCell']) (by unfold maxLen;omega) (by omega) ?_;intro g4 o4 c4 w4 uq hg4 AQ;obtain⟨q4,r4,s4⟩:=D8 (m:=0) s3 r3 uq hg4 AQ;clear uq hg4 AQ)
     | (at_builtin;refine dG _ rfl (.tmp 46) (.tmp 47) _ rfl 2 i0 _ 1 8 Tryz.underlying41 hi0 hz0 hz1 hz2 rfl (by omega) g4 o4 (len+1) c4 ((T++[n]).map (Value.int .i64)) rfl q4 ⟨g2,o2,none⟩ 0 c2 (D.map (Value.int .i64)) rfl hDn (lI (fun i hi=>OI.cellAt (show OI w4 g2 o2 0 c2 D from fA.below q2 s4 t2) (by have:=uj.out;omega))) (by simp[Value.oneCell']) (by unfold maxLen;omega) (by omega) ?_;intro g5 o5 c5 w5 GX hg5 AU;obtain⟨q5,r5,s5⟩:=D9 s4 r4 GX hg5 AU;clear GX hg5 AU))
    go_ret
    refine .inr ⟨g5,o5,c5, ?_,Nat.le_trans s2.size r5, ?_,s2.trans (s5.mono s2.size)⟩
    ·rw[HZ.out,List.length_append,List.length_cons,oK.out,uj.out]
     exact congrArg (fun z=>Ending.returned (.slice (some ⟨g5,o5,none⟩) z c5)) (by omega)
    ·rw[HZ.out,List.length_append,List.length_cons,oK.out,uj.out,show len+(0+1)=len+1+0 by omega]
     exact q5
   ·have aC1:¬ (cap=len):=fun h=>hcl h.symm
    have k2:(0:Int)≤(len:Int):=by omega
    have k3:(len:Int)≤(cap:Int):=by omega
    have oK:Hid ((xs.take len).length=len):=by rw[Hid,List.length_take,HL.out];omega
    have uj:Hid ((xs.drop len).length=0):=by rw[Hid,List.length_drop,HL.out];omega
    have HD:Hid (∀ i,i<(xs.drop len).length→(w.alloc (.cells #[] 2)).cell? ⟨b,off+len+i,none⟩=some (.int .i64 (el (xs.drop len) i))):=fun i hi=>absurd hi (by have:=uj.out;omega)
    have HT:Hid (∀ i,i<(xs.take len).length→w.cell? ⟨b,off+i,none⟩=some (.int .i64 (el (xs.take len) i))):=fun i hi=>by
     rw[F5 (by have:=oK.out;omega)]
     exact hc i (by have:=oK.out;omega)
    clear hc;generalize xs.take len=T at *;generalize xs.drop len=D at *;have Rn:(T.map (Value.int .i64)).length=len*1:=by rw[List.length_map,oK.out];omega
    have hDn:(D.map (Value.int .i64)).length=0*1:=by rw[List.length_map,uj.out]
    go_wp2_with (first
     | (at_builtin;refine dG _ rfl (.tmp 34) (.tmp 37) _ rfl 2 i0 _ 1 8 Tryz.underlying41 hi0 hz0 hz1 hz2 rfl (by omega) w.heap.size 0 0 0 (([]:List Int).map (Value.int .i64)) rfl (jX w 2) ⟨b,off+len,none⟩ 0 (cap-len) (D.map (Value.int .i64)) rfl hDn (lI HD.out) (by simp[Value.oneCell']) (by unfold maxLen;omega) (by omega) ?_;intro g2 o2 c2 w2 ho2 hg2 uQ;obtain⟨q2,r2,s2,t2⟩:=vP ho2 hg2 uQ;clear ho2 hg2 uQ)
     | (at_builtin;refine dG _ rfl (.tmp 39) (.tmp 42) _ rfl 2 i0 _ 1 8 Tryz.underlying41 hi0 hz0 hz1 hz2 rfl (by omega) w2.heap.size 0 0 0 (([]:List Int).map (Value.int .i64)) rfl (jX w2 2) ⟨b,off,none⟩ len cap (T.map (Value.int .i64)) rfl Rn (lI (fun i hi=>ni ((Below.refl _ _).alloc (Nat.le_refl _) _) (ni s2 (HT.out i hi)))) (by simp[Value.oneCell']) (by unfold maxLen;omega) (by omega) ?_;intro g3 o3 c3 w3 ho3 hg3 AP;obtain⟨q3,r3,s3,t3⟩:=vP ho3 hg3 AP;clear ho3 hg3 AP)
     | (at_builtin;refine dG _ rfl (.tmp 43) (.tmp 45) _ rfl 2 i0 _ 1 8 Tryz.underlying41 hi0 hz0 hz1 hz2 rfl (by omega) g3 o3 len c3 (T.map (Value.int .i64)) rfl (fA.below q3 ((Below.refl _ _).alloc (Nat.le_refl _) _) t3) ⟨w3.heap.size,0,none⟩ 1 1 [.int .i64 n] rfl rfl (World.news_of_block (cs:=#[.int .i64 n]) (t:=2) (fr:=(0,0)) (heap_alloc_new _ _)) (by simp[Value.oneCell']) (by unfold maxLen;omega) (by omega) ?_;intro g4 o4 c4 w4 uq hg4 AQ;obtain⟨q4,r4,s4⟩:=D8 (m:=0) s3 r3 uq hg4 AQ;clear uq hg4 AQ)
     | (at_builtin;refine dG _ rfl (.tmp 46) (.tmp 47) _ rfl 2 i0 _ 1 8 Tryz.underlying41 hi0 hz0 hz1 hz2 rfl (by omega) g4 o4 (len+1) c4 ((T++[n]).map (Value.int .i64)) rfl q4 ⟨g2,o2,none⟩ 0 c2 (D.map (Value.int .i64)) rfl hDn (lI (fun i hi=>OI.cellAt (show OI w4 g2 o2 0 c2 D from fA.below q2 s4 t2) (by have:=uj.out;omega))) (by simp[Value.oneCell']) (by unfold maxLen;omega) (by omega) ?_;intro g5 o5 c5 w5 GX hg5 AU;obtain⟨q5,r5,s5⟩:=D9 s4 r4 GX hg5 AU;clear GX hg5 AU))
    go_ret
    refine .inr ⟨g5,o5,c5, ?_,Nat.le_trans s2.size r5, ?_,s2.trans (s5.mono s2.size)⟩
    ·rw[HZ.out,List.length_append,List.length_cons,oK.out,uj.out]
     exact congrArg (fun z=>Ending.returned (.slice (some ⟨g5,o5,none⟩) z c5)) (by omega)
    ·rw[HZ.out,List.length_append,List.length_cons,oK.out,uj.out,show len+(0+1)=len+1+0 by omega]
     exact q5
theorem Vm (n:Int) (w:World):Calls Tryz.prog 106 #[.slice none 0 0,.int .i64 n] w fun e w'=>DX w w' e [n]:=by
 obtain⟨i0,hi0,hz0,hz1,hz2⟩:=gX Tryz.info2n;go_enter Tryz.func106,Tryz.ntmps106
 go_wp2_with fail
 go_loop [5] (fun i=>i=.int .i64 0) (fun i=>0)
 case atStart=>rfl
 case round =>
  subst hrel;go_wp2_with (first
   | (at_builtin;refine oH _ rfl (.tmp 34) (.tmp 37) _ rfl 2 i0 Tryz.underlying41 hi0 (some ⟨w.heap.size,0,none⟩) 0 0 rfl (Nat.le_refl _) none 0 rfl ?_)
   | (at_builtin;refine oH _ rfl (.tmp 39) (.tmp 42) _ rfl 2 i0 Tryz.underlying41 hi0 (some ⟨w.heap.size+1,0,none⟩) 0 0 rfl (Nat.le_refl _) none 0 rfl ?_)
   | (at_builtin;refine DY _ rfl (.tmp 43) (.tmp 45) _ rfl 2 i0 _ 1 8 Tryz.underlying41 hi0 hz0 hz1 hz2 rfl (by omega) (some ⟨w.heap.size+1,0,none⟩) 0 0 [] none rfl (dR.nil _ _ (jG _ _)) (some ⟨w.heap.size+1+1,0,none⟩) 1 1 [.int .i64 n] rfl rfl (.inr ⟨_,rfl,World.news_of_block (cs:=#[.int .i64 n]) (t:=2) (fr:=(0,0)) (by simpa using heap_alloc_new ((w.alloc (.cells #[] 2)).alloc (.cells #[] 2)) (.cells #[.int .i64 n] 2))⟩) (by simp[Value.oneCell']) (by unfold maxLen;omega) (by omega) ?_;intro a2 c2 G2 w2 ho2 hg2 uQ)
   | (at_builtin;refine oH _ rfl (.tmp 46) (.tmp 47) _ rfl 2 i0 Tryz.underlying41 hi0 a2 (0+1) c2 rfl ho2.le.1 (some ⟨w.heap.size,0,none⟩) 0 rfl ?_))
  go_ret
  rcases ho2 with ⟨h0,_⟩|⟨g,off,rfl,ho2,rfl⟩
  ·omega
  ·have hG:g=w.heap.size+1+1+1:=by
    rcases uQ with h|h
    ·cases h
    ·simpa using h
   refine⟨g,off,c2,rfl,by omega,by simpa[OI] using ho2, ?_⟩
   have h3:Below w.heap.size w (((w.alloc (.cells #[] 2)).alloc (.cells #[] 2)).alloc (.cells #[.int .i64 n] 2)):=(((Below.refl _ _).alloc (Nat.le_refl _) _).alloc (by simp) _).alloc (by simp;omega) _
   exact below_of_grown h3 hg2 (fun k hk=>by cases hk) h3.size
theorem Jp (a:Option Addr) (cap:Nat) (xs:List Int) (n:Int) (w:World) (hv:Vec w a xs.length xs) (ha:a=none→cap=0) (hcap:xs.length≤cap) (hm:cap≤maxLen) (hn:xs.length≤100000000) (hoff:oC a) :
  Calls Tryz.prog 106 #[.slice a xs.length cap,.int .i64 n] w fun e w'=>(e=.returned (.slice a xs.length cap)∧bT xs n=xs∧w'=w)∨DX w w' e (bT xs n):=by
 cases a with
 | none =>
  have hc:=ha rfl;subst hc;have hx:xs=[]:=List.eq_nil_of_length_eq_zero (by omega)
  subst hx;exact (Vm n w).mono (fun e w' h=>.inr h)
 | some x =>
  obtain⟨b,off,rfl⟩:=hoff x rfl;refine Vl b off xs.length cap xs n w rfl (fun i hi=>?_) hcap hm hn
  rcases hv.2.2 with h|⟨b',off',hb,hc⟩
  ·omega
  ·cases hb
   exact hc i hi
structure Cc (w X:World) (p:Nat) (a:Option Addr) (len cap:Nat) (bs:Nat→Int):Prop where
 cur:fK X p a len cap
 code:kW w a len bs
 below:Below w.heap.size w X
 off:Az a len p
 hl:len≤4096
 hp:w.heap.size≤p
theorem Cc.uS {w X:World} {p:Nat} {a:Option Addr} {len cap:Nat} {bs:Nat→Int} (h:Cc w X p a len cap bs):kW X a len bs:=h.code.below h.below (Nat.le_refl _)
theorem Cc.step {w X X':World} {p:Nat} {a:Option Addr} {len cap:Nat} {bs:Nat→Int} (h:Cc w X p a len cap bs) (hb:Below X.heap.size X X'):Cc w X' p a len cap bs :=
 ⟨h.cur.below hb h.cur.lt,h.code,h.below.trans (hb.mono h.below.size),h.off,h.hl,h.hp⟩
theorem Cc.drawn {w X X':World} {p:Nat} {a:Option Addr} {len cap:Nat} {bs:Nat→Int} (h:Cc w X p a len cap bs) (hg:X.grownBy X' (some p)) (hc:fK X' p a len cap):Cc w X' p a len cap bs :=
 ⟨hc,h.code,below_of_grown h.below hg (fun k e=>by cases e;exact h.hp) h.below.size,h.off,h.hl,h.hp⟩
theorem Cc.lt {w X:World} {p:Nat} {a:Option Addr} {len cap:Nat} {bs:Nat→Int} (h:Cc w X p a len cap bs):p<X.heap.size:=h.cur.lt
theorem fQ (N:Nat) (n:Int) (hN:n=(N:Int)) {w X:World} {p:Nat} {a:Option Addr} {len cap:Nat} {bs:Nat→Int} (h:Cc w X p a len cap bs) (h1:1≤N) (h2:N≤10000) :
  Calls Tryz.prog 27 #[.pointer (some ⟨p,0,none⟩),.int .i64 n] X fun e w'=>∃ Y:Nat,e=.returned (.int .i64 (Y:Int))∧Y<N∧Cc w w' p a len cap bs∧X.grownBy w' (some p):=by
 subst hN;refine (kY p a len cap bs (N:Int) X h.cur h.uS h.off h.hl (by omega)).mono ?_
 rintro e w' ⟨x,rfl,h0,h3,_,hc,hg⟩;have h4:=h3 (by omega)
 exact⟨x.toNat,by rw[show ((x.toNat:Nat):Int)=x by omega],by omega,h.drawn hg hc,hg⟩
theorem pF (n:Int) {w X:World} {p:Nat} {a:Option Addr} {len cap:Nat} {bs:Nat→Int} (h:Cc w X p a len cap bs) (hn:n≤10000) :
  Calls Tryz.prog 28 #[.pointer (some ⟨p,0,none⟩),.int .i64 n] X fun e w'=>∃ t:Bool,e=.returned (.bool t)∧Cc w w' p a len cap bs∧X.grownBy w' (some p):=by
 refine (zk p a len cap bs n X h.cur h.uS h.off h.hl (by omega)).mono ?_
 rintro e w' ⟨t,rfl,hc,hg⟩;exact⟨t,rfl,h.drawn hg hc,hg⟩
theorem newC (a:Option Addr) (len cap:Nat) (bs:Nat→Int) (w X:World) (hb:Below w.heap.size w X) (hv:kW w a len bs) (hl:len≤4096) :
  Calls Tryz.prog 26 #[.slice a len cap] X fun e w'=>∃ p,e=.returned (.pointer (some ⟨p,0,none⟩))∧X.heap.size≤p∧Cc w w' p a len cap bs∧Below X.heap.size X w':=by
 refine (new_any a len cap bs X (hv.below hb (Nat.le_refl _)) hl).mono ?_;rintro e w1 ⟨p,rfl,hp,hc1,hb1⟩;have hs:=hb.size;exact⟨p,rfl,hp,⟨hc1,hv,hb.trans (hb1.mono hb.size),fun hl b off e=>by have:=hv.inB hl b off e;omega,hl,by omega⟩,hb1⟩
theorem EF (lo hi:Int) (h0:-1000≤lo) (h1:lo≤hi) (h2:hi≤1000) {w X:World} {p:Nat} {a:Option Addr} {len cap:Nat} {bs:Nat→Int} (h:Cc w X p a len cap bs) :
  Calls Tryz.prog 62 #[.pointer (some ⟨p,0,none⟩),.int .i64 lo,.int .i64 hi] X fun e w'=>∃ x:Int,e=.returned (.int .i64 x)∧lo≤x∧x≤hi∧Cc w w' p a len cap bs∧X.grownBy w' (some p):=by
 have hB:=fQ (hi-lo+1).toNat (hi-lo+1) (by omega) h (by omega) (by omega)
 go_enter Tryz.func62,Tryz.ntmps62
 go_wp2_with fail
 refine hB.mono ?_;rintro e w1 ⟨Y,rfl,hY,hq,hg⟩;have b1:lo+(Y:Int)≤9223372036854775807:=by omega
 have b2:-9223372036854775808≤lo+(Y:Int):=by omega
 have HQ:Hid (Cc w w1 p a len cap bs∧X.grownBy w1 (some p)):=⟨hq,hg⟩;clear hq hB hg;go_wp2;go_ret
 exact⟨lo+(Y:Int),rfl,by omega,by omega,HQ.out⟩
structure Bk (B:World) where
 w:World
 h:Below B.heap.size B w
theorem Jq {P:Program} {id:Nat} {Q:Exit→Act→World→Prop} {a:Act} {w:World} {l:List Oper} (hm:P.follows .mixedOrders=true) (hB:Region.lexB .any l.toArray=true)
  (h:wpQuiet P l.toArray (fun w'=>∃ p:Bk w,w'=p.w) (fun a'=>∀ w',(∃ p:Bk w,w'=p.w)→Q .normal a' w') l a):(Code.region id l.toArray true).wp P Q a w :=
 wp_region_quiet (C:=fun w'=>∃ p:Bk w,w'=p.w) hm hB ⟨⟨w.drewN 1,bg (Below.refl _ _)⟩,rfl⟩ (by simpa using h)
theorem aQ {P:Program} {f:FuncId} {args:Array Value} {B:World} {v:Value} (p:Bk B) (h:Calls P f args p.w fun e w'=>e=.returned v∧Below p.w.heap.size p.w w'):Calls P f args p.w fun e w'=>e=.returned v∧∃ q:Bk B,w'=q.w :=
 h.mono fun e w' h=>⟨h.1,⟨w',p.h.trans (h.2.mono p.h.size)⟩,rfl⟩
theorem dK {W:World} {Q:World→Prop} (h:∀ w', Below W.heap.size W w'→Q w'):∀ w', (∃ p:Bk W, w'=p.w)→Q w':=fun _ ⟨p, e⟩=>e ▸ h p.w p.h
theorem eU {P : Program} {id : Nat} {Q : Exit → Act → World → Prop} {a : Act} {w : World} {l : List Oper} 
    (h:wpQuiet P l.toArray (fun w'=>∃ p:Bk w, w'=p.w) (fun a'=>∀ w', (∃ p:Bk w, w'=p.w)→Q .normal a' w') l a) (hm:P.follows .mixedOrders=true:=by kernel_rfl) (hB:Region.lexB .any l.toArray=true:=by kernel_rfl):(Code.region id l.toArray true).wp P Q a w:=Jq hm hB h
theorem Jr (a:Option Addr) (cap:Nat) (xs:List Int) (n:Int) (w:World) (fp:Fp) (ho:aI.ow w (bQ xs) (.slice a xs.length cap) fp) (hf:Fits xs) (hn:xs.length≤100000000) :
  Calls Tryz.prog 106 #[.slice a xs.length cap,.int .i64 n] w fun e w'=>∃ a' c' fp',e=.returned (.slice a' (bT xs n).length c')∧aI.ow w' (bQ (bT xs n)) (.slice a' (bT xs n).length c') fp'∧(∀ b,fp' b→fp b∨w.heap.size≤b)∧Below w.heap.size w w':=by
 obtain⟨a0,c0,e0,hv,h1,h2⟩:=jV (aI.tK ho) hf
 cases e0
 obtain⟨a1,c1,G,e1,hs,hG⟩:=fB.1 ho
 cases e1
 have hnone:a=none→cap=0:=fun e=>by
  rcases hs with ⟨_,h,_⟩|⟨g,off,ha,_⟩
  ·exact h
  ·rw[ha] at e;cases e
 refine (Jp a cap xs n w hv hnone h1 h2 hn hs.plain).mono ?_;rintro e w' (⟨rfl,h3,rfl⟩|⟨g,off,c,rfl,hg,hO,hb⟩)
 ·exact⟨a,cap,fp,by rw[h3],by rw[h3];exact ho,fun b hb=>.inl hb,Below.refl _ _⟩
 ·exact⟨_,c,fun b=>b=g,rfl,fB.2 ⟨_,c,some g,rfl,dR.of hO,fun b=>by simp[eq_comm]⟩,fun b hb=>.inr (by rw[hb];exact hg),hb⟩
def eH (x:Int):Prop:=-9223372036854775808≤x∧x≤9223372036854775807
structure Js (w:World) (a:Option Addr) (c:Nat) (M:List Int):Prop where
 vec:Vec w a M.length M
 le:M.length≤c
 mx:c≤maxLen
 pl:oC a
 nn:a=none→c=0
theorem Js.below {w w':World} {a:Option Addr} {c:Nat} {M:List Int} (h:Js w a c M) (hb:Below w.heap.size w w'):Js w' a c M:=⟨h.vec.below hb (Nat.le_refl _),h.le,h.mx,h.pl,h.nn⟩
theorem oL {w:World} {a:Option Addr} {c:Nat} {M:List Int} {fp:Fp} (h:aI.ow w (bQ M) (.slice a M.length c) fp) (hf:Fits M):Js w a c M:=by
 obtain⟨a0,c0,e0,hv,h1,h2⟩:=jV (aI.tK h) hf
 cases e0
 obtain⟨a1,c1,G,e1,hs,hG⟩:=fB.1 h
 cases e1
 refine⟨hv,h1,h2,hs.plain,fun e=>?_⟩
 rcases hs with ⟨_,h,_⟩|⟨g,off,ha,_⟩
 ·exact h
 ·rw[ha] at e;cases e
section
def iy (r:Rw):Nat:=r.txt.length+yt r.txt r.txt.length+r.got.length+r.ak.length+r.aA.length
attribute [local irreducible] sv
end
section
theorem lg {α:Type}:∀ {l:List α} {k:Nat} {x:α},l[k]?=some x→l.set k x=l
 | [],k,x,h=>by simp at h
 | y::l,0,x,h=>by simp at h;rw[h];rfl
 | y::l,k+1,x,h=>by rw[List.set_cons_succ,lg (by simpa using h)]
attribute [local irreducible] sv
end
def oM (r:Rw):Prop:=eH r.ver∧eH r.aC
structure iM (w:World) (A:Ra) (r:Rw):Prop where
 txt:Dh w A.ta A.tc r.txt
 got:Js w A.ga A.gc r.got
 ak:Js w A.sa A.sc r.ak
 aA:Js w A.ma A.mc r.aA
 i64:oM r
 sz:iy r≤1048576
theorem iM.below {w w':World} {A:Ra} {r:Rw} (h:iM w A r) (hb:Below w.heap.size w w'):iM w' A r:=⟨h.txt.below hb,h.got.below hb,h.ak.below hb,h.aA.below hb,h.i64,h.sz⟩
theorem iM.rws {w:World} {A:Ra} {r:Rw} (h:iM w A r):nJ w A r:=by
 have hs:=h.sz;unfold iy at hs;exact⟨h.txt.NM,h.got.vec,h.ak.vec,h.aA.vec,by unfold maxLen;omega,by unfold maxLen;omega,by unfold maxLen;omega,by unfold maxLen;omega⟩
def lV (r:Rw):Prop:=Fits r.got∧Fits r.ak∧Fits r.aA
theorem Jt {w:World} {A:Ra} {r:Rw} {lo hi:Nat} (h:It w (fM r) (fC A r) lo hi):∃ f1 f2 f3 f4,aI.ow w (lM r.txt) (.slice A.ta r.txt.length A.tc) f1∧aI.ow w (bQ r.got) (.slice A.ga r.got.length A.gc) f2∧aI.ow w (bQ r.ak) (.slice A.sa r.ak.length A.sc) f3∧aI.ow w (bQ r.aA) (.slice A.ma r.aA.length A.mc) f4:=by
 obtain⟨f,h1,_⟩:=h;obtain⟨u1,rD,f1,g1,e1,o1,h2,_⟩:=h1
 cases e1
 obtain⟨u2,uy,f2,g2,e2,o2,h3,_⟩:=h2
 cases e2
 obtain⟨u3,Dj,f3,g3,e3,o3,h4,_⟩:=h3
 cases e3
 obtain⟨u4,Ju,f4,g4,e4,o4,h5,_⟩:=h4
 cases e4
 exact⟨f1,f2,f3,f4,o1,o2,o3,o4⟩
theorem yI {w:World} {A:Ra} {r:Rw} {lo hi:Nat} (h:It w (fM r) (fC A r) lo hi) (hf:lV r) (h6:oM r) (hs:iy r≤1048576):iM w A r:=by
 obtain⟨f1,f2,f3,f4,o1,o2,o3,o4⟩:=Jt h;exact⟨Jk o1,oL o2 hf.1,oL o3 hf.2.1,oL o4 hf.2.2,h6,hs⟩
theorem Jv {w:World} {A:Ra} {r:Rw} {lo hi:Nat} (h:It w (fM r) (fC A r) lo hi) (hf:lV r) (hs:iy r≤1048576):nJ w A r:=by
 obtain⟨f1,f2,f3,f4,o1,o2,o3,o4⟩:=Jt h;unfold iy at hs;exact⟨(Jk o1).NM,(oL o2 hf.1).vec,(oL o3 hf.2.1).vec,(oL o4 hf.2.2).vec,by unfold maxLen;omega,by unfold maxLen;omega,by unfold maxLen;omega,by unfold maxLen;omega⟩
def Ro:Prop:=∀ (A:Ra) (r:Rw) (n:Int) (w:World),iM w A r→eH n→Calls Tryz.prog 51 #[bV A r,.int .i64 n] w fun e w'=>e=.returned (.bool (bI r n))∧Below w.heap.size w w'
def Dk:Prop:=∀ (A B:Ra) (r s:Rw) (n:Int) (w:World),iM w A r→iM w B s→eH n→Calls Tryz.prog 17 #[bV A r,bV B s,.int .i64 n] w fun e w'=>e=.returned (.bool (yj r s n))∧Below w.heap.size w w'
structure Nx (r r':Rw):Prop where
 ver:r.ver≤r'.ver
 txt:r.txt <+: r'.txt
 got:∀ i,el r.got i≤el r'.got i
 ak:∀ x∈r.ak,x∈r'.ak
 wed:r.wed=true→r'.wed=true∧r'.got=r.got∧r'.txt=r.txt
 aB:r.aB=true→r'.aB=true∧r.aC≤r'.aC∧(r'.aC=r.aC→r'.aA=r.aA)
theorem Nx.refl (r:Rw):Nx r r:=⟨Int.le_refl _,List.prefix_refl _,fun _=>Int.le_refl _,fun _ h=>h,fun h=>⟨h,rfl,rfl⟩,fun h=>⟨h,Int.le_refl _,fun _=>rfl⟩⟩
theorem Nx.trans {a b c:Rw} (h:Nx a b) (k:Nx b c):Nx a c:=by
 refine⟨Int.le_trans h.ver k.ver,h.txt.trans k.txt,fun i=>Int.le_trans (h.got i) (k.got i),fun x hx=>k.ak x (h.ak x hx),fun hw=>?_,fun hr=>?_⟩
 ·obtain⟨h1,h2,h3⟩:=h.wed hw
  obtain⟨k1,k2,k3⟩:=k.wed h1;exact⟨k1,k2.trans h2,k3.trans h3⟩
 ·obtain⟨h1,h2,h3⟩:=h.aB hr
  obtain⟨k1,k2,k3⟩:=k.aB h1;refine⟨k1,Int.le_trans h2 k2,fun e=>?_⟩
  have e2:b.aC=a.aC:=by omega
  rw[k3 (by omega),h3 e2]
def Chain (l:List Rw):Prop:=l.Pairwise (fun new old=>Nx old new)
theorem Chain.comp {l:List Rw} (h:Chain l) {p q:Rw} (hp:p∈l) (hq:q∈l):Nx p q∨Nx q p:=by
 induction l with
 | nil=>cases hp
 | cons x l ih =>
  obtain⟨h1,h2⟩:=List.pairwise_cons.1 h;rcases List.mem_cons.1 hp with rfl|hp
  ·rcases List.mem_cons.1 hq with rfl|hq
   ·exact .inl (Nx.refl _)
   ·exact .inr (h1 q hq)
  ·rcases List.mem_cons.1 hq with e|hq
   ·rw[e];exact .inl (h1 p hp)
   ·exact ih h2 hp hq
abbrev Hs:=Nat→List Rw
structure Half (n:Nat) (Q:List Nat):Prop where
 nd:Q.Nodup
 lt:∀ x∈Q,x<n
 half:n<2*Q.length
structure Pp where
 b:Nat
 T:List Int
 Q:List Nat
 p:Nat→Rw
 Qo:List Nat
 po:Nat→Rw
structure F6 (n:Nat) (h:Hs) (P:Pp) (rest:List Pp):Prop where
 bn:P.b<n
 half:Half n P.Q
 mem:∀ j∈P.Q,P.p j∈h j
 wed:∀ j∈P.Q,(P.p j).wed=true
 low:∀ j∈P.Q,∀ x:Nat,x<P.b→(x:Int)∈(P.p j).ak
 row:∃ r∈h P.b,r.aB=true∧r.aC=(P.b:Int)∧r.aA=P.T
 top:(∀ j∈P.Q,(P.p j).aB=false)∨∃ j∈P.Q,(P.p j).aB=true∧(∀ k∈P.Q,(P.p k).aB=true→(P.p k).aC≤(P.p j).aC)∧∃ P'∈rest,(P'.b:Int)=(P.p j).aC∧P'.T=P.T
 oh:Half n P.Qo
 om:∀ j∈P.Qo,P.po j∈h j
 ow:∀ j∈P.Qo,(P.po j).wed=true∧(P.po j).aB=false
 oT:∀ s,s<n→(∀ j∈P.Qo,el P.T s≤el (P.po j).got s)∧∃ j∈P.Qo,el P.T s=el (P.po j).got s
 os:∀ i,i<n→i∉P.Qo→∀ j∈P.Qo,(i:Int)∈(P.po j).ak
def rF (n:Nat) (h:Hs):List Pp→Prop
 | []=>True
 | P::rest=>F6 n h P rest∧rF n h rest
theorem rF.at {n:Nat} {h:Hs}:∀ {log:List Pp},rF n h log→∀ {P:Pp},P∈log→∃ rest,F6 n h P rest∧rF n h rest∧(∀ P'∈rest,P'∈log)∧rest.length<log.length
 | [],hl,P,hP=>by cases hP
 | P0::rest,hl,P,hP=>by
  rcases List.mem_cons.1 hP with rfl|hP
  ·exact⟨rest,hl.1,hl.2,fun P' h'=>List.mem_cons_of_mem _ h',by simp⟩
  ·obtain⟨r,h1,h2,h3,h4⟩:=rF.at hl.2 hP
   exact⟨r,h1,h2,fun P' h'=>List.mem_cons_of_mem _ (h3 P' h'),by simp;omega⟩
theorem F6.more {n:Nat} {h h':Hs} {P:Pp} {rest:List Pp} (k:F6 n h P rest) (hm:∀ j r,r∈h j→r∈h' j):F6 n h' P rest :=
 ⟨k.bn,k.half,fun j hj=>hm j _ (k.mem j hj),k.wed,k.low,by obtain⟨r,h1,h2⟩:=k.row;exact⟨r,hm _ _ h1,h2⟩,k.top,k.oh,fun j hj=>hm j _ (k.om j hj),k.ow,k.oT,k.os⟩
theorem rF.more {n:Nat} {h h':Hs} (hm:∀ j r,r∈h j→r∈h' j):∀ {log:List Pp},rF n h log→rF n h' log
 | [],_=>trivial
 | P::rest,k=>⟨k.1.more hm,rF.more hm k.2⟩
structure lq (n:Nat) (h:Hs) (log:List Pp):Prop where
 chain:∀ j,Chain (h j)
 acc:∀ j,∀ r∈h j,r.aB=true→∃ r0∈h j,Nx r0 r∧r0.aB=true∧r0.aC=r.aC∧r0.aC∉r0.ak
 prop:∀ j,∀ r∈h j,r.aB=true→∃ P∈log,(P.b:Int)=r.aC∧P.T=r.aA
 log:rF n h log
def F7 (n:Nat) (h:Hs) (q:Nat):Prop:=∀ j,j<n→∃ r∈h j,((q/n:Nat):Int)<el r.got (q%n)
theorem lq.covers {n:Nat} {h:Hs} {log:List Pp} (S:lq n h log) (hn:0<n) {P:Pp} (hP:P∈log) {q:Nat} (hq:F7 n h q):((q/n:Nat):Int)<el P.T (q%n):=by
 obtain⟨_,k,_⟩:=S.log.at hP;obtain⟨_,j,hj,e⟩:=k.oT (q%n) (Nat.mod_lt _ hn);obtain⟨r,h1,h2⟩:=hq j (k.oh.lt j hj);rw[e];rcases (S.chain j).comp h1 (k.om j hj) with c|c
 ·have:=c.got (q%n);omega
 ·rw[← (c.wed (k.ow j hj).1).2.1];exact h2
def iC (cs:List Int) (k j:Nat):List Int:=((List.range j).filter (fun i=>decide ((k:Int)<el cs i))).map (fun i:Nat=>(cs.length:Int)*(k:Int)+(i:Int))
def dh (cs:List Int) (M:Nat):List Int:=(List.range M).flatMap (fun k=>iC cs k cs.length)
theorem uz (cs:List Int) (k j:Nat):iC cs k (j+1)=iC cs k j++(if (k:Int)<el cs j then [(cs.length:Int)*(k:Int)+(j:Int)] else []):=by
 unfold iC;rw[List.range_succ,List.filter_append,List.map_append];by_cases h:(k:Int)<el cs j
 ·simp[h]
 ·simp[h]
theorem mM (cs:List Int) (M:Nat):dh cs (M+1)=dh cs M++iC cs M cs.length:=by simp[dh,List.range_succ]
theorem Jw {cs:List Int} {k j:Nat} {q:Int}:q∈iC cs k j↔∃ i:Nat,i<j∧(k:Int)<el cs i∧q=(cs.length:Int)*(k:Int)+(i:Int):=by
 simp only[iC,List.mem_map,List.mem_filter,List.mem_range,decide_eq_true_eq]
 constructor
 ·rintro⟨i,⟨h1,h2⟩,h3⟩;exact⟨i,h1,h2,h3.symm⟩
 ·rintro⟨i,h1,h2,h3⟩;exact⟨i,⟨h1,h2⟩,h3.symm⟩
theorem sS {cs:List Int} {M:Nat} {q:Int}:q∈dh cs M↔∃ k i:Nat,k<M∧i<cs.length∧(k:Int)<el cs i∧q=(cs.length:Int)*(k:Int)+(i:Int):=by
 simp only[dh,List.mem_flatMap,List.mem_range,Jw]
 constructor
 ·rintro⟨k,hk,i,h⟩;exact⟨k,i,hk,h⟩
 ·rintro⟨k,i,hk,h⟩;exact⟨k,hk,i,h⟩
theorem P9 (cs:List Int) (k j:Nat):(iC cs k j).Pairwise (·<·):=by
 unfold iC;rw[List.pairwise_map];exact ((List.pairwise_lt_range (n:=j)).filter _).imp (fun hab=>by omega)
theorem rG (cs:List Int) (M:Nat):(dh cs M).Pairwise (·<·):=by
 induction M with
 | zero=>simp[dh]
 | succ M ih =>
  rw[mM,List.pairwise_append];refine⟨ih,P9 _ _ _,fun a ha b hb=>?_⟩
  obtain⟨k,i,hk,hi,_,rfl⟩:=sS.1 ha;obtain⟨i',_,_,rfl⟩:=Jw.1 hb;have h1:(cs.length:Int)*((k:Int)+1)≤(cs.length:Int)*(M:Int):=Int.mul_le_mul_of_nonneg_left (by omega) (by omega)
  rw[Int.mul_add,Int.mul_one] at h1;omega
theorem NQ {cs:List Int} {M:Nat} (h1:1≤cs.length) (hM:∀ i,i<cs.length→el cs i≤(M:Int)):CJ cs (dh cs M):=by
 refine⟨rG cs M,fun q=>?_⟩
 rw[sS]
 constructor
 ·rintro⟨k,i,hk,hi,hlt,rfl⟩
  have e:(cs.length:Int)*(k:Int)+(i:Int)=((cs.length*k+i:Nat):Int):=by simp
  rw[e];refine⟨by omega, ?_⟩
  rw[Int.toNat_natCast];unfold bel;rw[Nat.mul_add_mod,Nat.mod_eq_of_lt hi,Nat.mul_add_div (by omega),Nat.div_eq_of_lt hi]
  simpa using hlt
 ·rintro⟨h0,hb⟩
  obtain⟨p,rfl⟩:∃ p:Nat,q=(p:Int):=⟨q.toNat,by omega⟩
  rw[Int.toNat_natCast] at hb;unfold bel at hb;have hm:p%cs.length<cs.length:=Nat.mod_lt _ (by omega)
  have hle:=hM (p%cs.length) hm;refine⟨p/cs.length,p%cs.length,by omega,hm,hb, ?_⟩
  have:=Nat.div_add_mod p cs.length
  exact_mod_cast this.symm
def uT (cs:List Int) (M j:Nat):Nat:=((List.range j).map (fun i=>min (el cs i).toNat M)).sum
theorem uD (cs:List Int) (M j:Nat):uT cs M (j+1)=uT cs M j+min (el cs j).toNat M:=by simp[uT,List.range_succ]
theorem Vo (cs:List Int) (M j:Nat):uT cs (M+1) j=uT cs M j+(iC cs M j).length:=by
 induction j with
 | zero=>simp[uT,iC]
 | succ j ih =>
  rw[uD,uD,uz,List.length_append,ih];by_cases h:(M:Int)<el cs j
  ·rw[if_pos h];simp;omega
  ·rw[if_neg h];simp;omega
theorem Jy (cs:List Int) (M:Nat):(dh cs M).length=uT cs M cs.length:=by
 induction M with
 | zero =>
  have:∀ j,uT cs 0 j=0:=fun j=>by
   induction j with
   | zero=>rfl
   | succ j ih=>rw[uD,ih];simp
  rw[this];simp[dh]
 | succ M ih=>rw[mM,List.length_append,ih,Vo]
theorem Vp {cs:List Int} {M:Nat} (hM:∀ i,i<cs.length→0≤el cs i∧el cs i≤(M:Int)):∀ j,j≤cs.length→(uT cs M j:Int)=lH (cs.take j):=by
 intro j
 induction j with
 | zero=>intro _;simp[uT,lH]
 | succ j ih =>
  intro hj;have h:=hM j (by omega)
  rw[uD,List.take_succ_eq_append_getElem (by omega),Au,← ih (by omega),← o8 (by omega)]
  omega
theorem Qa {cs:List Int} {M:Nat} (hM:∀ i,i<cs.length→0≤el cs i∧el cs i≤(M:Int)):((dh cs M).length:Int)=lH cs:=by
 have:=Vp hM cs.length (Nat.le_refl _);rw[List.take_length] at this;rw[Jy,this]
end Go.Proofs.YtafimeakbdmkjaaGreat