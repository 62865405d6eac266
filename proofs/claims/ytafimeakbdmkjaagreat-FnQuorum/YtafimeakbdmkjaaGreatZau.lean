/-
  Texts in one.
-/
import Derived.Test.YtafimeakbdmkjaaGreatZaa
import Derived.Test.YtafimeakbdmkjaaGreatZat
import Derived.Test.YtafimeakbdmkjaaGreatZao
import Derived.Test.YtafimeakbdmkjaaGreatZap
import Derived.Test.YtafimeakbdmkjaaGreatZam
import Derived.Test.YtafimeakbdmkjaaGreatZaf
import Derived.Test.YtafimeakbdmkjaaGreatZai
import Derived.Test.YtafimeakbdmkjaaGreatZal
import Derived.Test.YtafimeakbdmkjaaGreatZan
namespace Go.Proofs.YtafimeakbdmkjaaGreat
set_option linter.unusedVariables false
set_option linter.unusedSimpArgs false
open Go.RowKit Go.Sort
set_option maxRecDepth 100000
set_option maxHeartbeats 12800000
theorem tC (n last:Int) (w:World):Calls Tryz.prog 87 #[.int .i64 n,.int .i64 last] w fun e w'=>e=.returned (.bool (inB n 0 last))∧w'=w:=by
 by_cases h0:(0:Int)≤n
 ·have H:Hid (inB n 0 last=decide (n≤last)):=by rw[Hid,inB];simp[h0]
  go_enter Tryz.func87,Tryz.ntmps87
  go_wp2;go_ret
  exact⟨aH (by rw[H.out]),rfl⟩
 ·have H:Hid (inB n 0 last=false):=by rw[Hid,inB];simp[h0]
  go_enter Tryz.func87,Tryz.ntmps87
  go_wp2;go_ret
  exact⟨aH (by rw[H.out]),rfl⟩
theorem nU (n:Int) (w:World):Calls Tryz.prog 162 #[.int .i64 n] w fun e w'=>e=.returned (.bool (inB n 1 8))∧w'=w:=by
 by_cases h0:(1:Int)≤n
 ·have H:Hid (inB n 1 8=decide (n≤8)):=by rw[Hid,inB];simp[h0]
  go_enter Tryz.func162,Tryz.ntmps162
  go_wp2;go_ret
  exact⟨aH (by rw[H.out]),rfl⟩
 ·have H:Hid (inB n 1 8=false):=by rw[Hid,inB];simp[h0]
  go_enter Tryz.func162,Tryz.ntmps162
  go_wp2;go_ret
  exact⟨aH (by rw[H.out]),rfl⟩
theorem zL (n q:Int) (w:World):Calls Tryz.prog 128 #[.int .i64 n,.int .i64 q] w fun e w'=>e=.returned (.bool (ql n q))∧w'=w:=by
 cases e0:inB n 1 8 with
 | false =>
  have H:Hid (ql n q=false):=by rw[Hid,ql,e0];rfl
  go_enter Tryz.func128,Tryz.ntmps128
  go_wp2_with (first|(go_at_call 162;refine (nU _ _).mono ?_;rintro e w' ⟨rfl,rfl⟩)|(go_at_call 87;refine (tC _ _ _).mono ?_;rintro e w' ⟨rfl,rfl⟩))
  go_ret
  exact⟨aH (by rw[H.out]),rfl⟩
 | true =>
  have H:Hid (ql n q=inB q 0 800000):=by rw[Hid,ql,e0];rfl
  go_enter Tryz.func128,Tryz.ntmps128
  go_wp2_with (first|(go_at_call 162;refine (nU _ _).mono ?_;rintro e w' ⟨rfl,rfl⟩)|(go_at_call 87;refine (tC _ _ _).mono ?_;rintro e w' ⟨rfl,rfl⟩))
  go_ret
  exact⟨aH (by rw[H.out]),rfl⟩
theorem Xv (n s i:Int) (hn:I64 n) (w:World):Calls Tryz.prog 136 #[.int .i64 n,.int .i64 s,.int .i64 i] w fun e w'=>e=.returned (.int .i64 (wo n s i))∧w'=w:=by
 unfold I64 at hn
 cases e0:inB n 1 8 with
 | false =>
  have HZ:Hid (wo n s i=-1):=by rw[Hid,wo,seqB,e0];rfl
  go_enter Tryz.func136,Tryz.ntmps136
  go_wp2_with (first|(go_at_call 162;refine (nU _ _).mono ?_;rintro e w' ⟨rfl,rfl⟩)|(go_at_call 87;refine (tC _ _ _).mono ?_;rintro e w' ⟨rfl,rfl⟩))
  go_ret
  exact⟨jC (by rw[HZ.out]),rfl⟩
 | true =>
  have hk:=dP.1 e0
  cases e1:inB s 0 (n-1) with
  | false =>
   have HZ:Hid (wo n s i=-1):=by rw[Hid,wo,seqB,e0,e1];rfl
   go_enter Tryz.func136,Tryz.ntmps136
   go_wp2_with (first|(go_at_call 162;refine (nU _ _).mono ?_;rintro e w' ⟨rfl,rfl⟩)|(go_at_call 87;refine (tC _ _ _).mono ?_;rintro e w' ⟨rfl,rfl⟩))
   go_ret
   exact⟨jC (by rw[HZ.out]),rfl⟩
  | true =>
   have hs:=dP.1 e1
   cases e2:inB i 0 100000 with
   | false =>
    have HZ:Hid (wo n s i=-1):=by rw[Hid,wo,seqB,e0,e1,e2];rfl
    go_enter Tryz.func136,Tryz.ntmps136
    go_wp2_with (first|(go_at_call 162;refine (nU _ _).mono ?_;rintro e w' ⟨rfl,rfl⟩)|(go_at_call 87;refine (tC _ _ _).mono ?_;rintro e w' ⟨rfl,rfl⟩))
    go_ret
    exact⟨jC (by rw[HZ.out]),rfl⟩
   | true =>
    have hi:=dP.1 e2;have HZ:Hid (wo n s i=n*i+s):=by rw[Hid,wo,seqB,e0,e1,e2];rfl
    have m0:0≤n*i:=Int.mul_nonneg (by omega) hi.1
    have m1:n*i≤8*100000:=Int.mul_le_mul hk.2 hi.2 hi.1 (by omega)
    generalize hm:n*i=m at *;go_enter Tryz.func136,Tryz.ntmps136
    go_wp2_with (first|(go_at_call 162;refine (nU _ _).mono ?_;rintro e w' ⟨rfl,rfl⟩)|(go_at_call 87;refine (tC _ _ _).mono ?_;rintro e w' ⟨rfl,rfl⟩))
    go_ret
    exact⟨jC (by rw[HZ.out]),rfl⟩
theorem Xw (n q:Int) (w:World):Calls Tryz.prog 91 #[.int .i64 n,.int .i64 q] w fun e w'=>e=.returned (.int .i64 (D5 n q))∧w'=w:=by
 cases e0:ql n q with
 | false =>
  have HZ:Hid (D5 n q=-1):=by rw[Hid,D5,e0];rfl
  go_enter Tryz.func91,Tryz.ntmps91
  go_wp2_with (go_at_call 128;refine (zL _ _ _).mono ?_;rintro e w' ⟨rfl,rfl⟩)
  go_ret
  exact⟨jC (by rw[HZ.out]),rfl⟩
 | true =>
  have hk:=AO.1 e0;have HZ:Hid (D5 n q=q%n):=by rw[Hid,D5,e0];rfl
  have hne:(n==0)=false:=by simp;omega
  have ht:q.tmod n=q%n:=Int.tmod_eq_emod_of_nonneg hk.2.1;have b0:0≤q%n:=Int.emod_nonneg _ (by omega)
  have b1:q%n<n:=Int.emod_lt_of_pos _ (by omega)
  go_enter Tryz.func91,Tryz.ntmps91
  go_wp2_with (go_at_call 128;refine (zL _ _ _).mono ?_;rintro e w' ⟨rfl,rfl⟩)
  go_ret
  exact⟨jC (by rw[HZ.out]),rfl⟩
theorem Xx (n q:Int) (w:World):Calls Tryz.prog 92 #[.int .i64 n,.int .i64 q] w fun e w'=>e=.returned (.int .i64 (D6 n q))∧w'=w:=by
 cases e0:ql n q with
 | false =>
  have HZ:Hid (D6 n q=-1):=by rw[Hid,D6,e0];rfl
  go_enter Tryz.func92,Tryz.ntmps92
  go_wp2_with (go_at_call 128;refine (zL _ _ _).mono ?_;rintro e w' ⟨rfl,rfl⟩)
  go_ret
  exact⟨jC (by rw[HZ.out]),rfl⟩
 | true =>
  have hk:=AO.1 e0;have HZ:Hid (D6 n q=q/n):=by rw[Hid,D6,e0];rfl
  have hne:(n==0)=false:=by simp;omega
  have ht:q.tdiv n=q/n:=Int.tdiv_eq_ediv_of_nonneg hk.2.1;have b0:0≤q/n:=Int.ediv_nonneg hk.2.1 (by omega)
  have b1:q/n≤q:=Int.ediv_le_self n hk.2.1;go_enter Tryz.func92,Tryz.ntmps92
  go_wp2_with (go_at_call 128;refine (zL _ _ _).mono ?_;rintro e w' ⟨rfl,rfl⟩)
  go_ret
  exact⟨jC (by rw[HZ.out]),rfl⟩
def gr (cs:List Int):Int:=hiL (el cs 0) cs.tail
theorem aq9 {x m:Int}:∀ {xs:List Int},hiL x xs≤m↔x≤m∧∀ y∈xs,y≤m:=by
 intro xs
 induction xs generalizing x with
 | nil=>simp[hiL]
 | cons y ys ih =>
  show hiL (max x y) ys≤m↔_
  rw[ih];simp only[List.mem_cons]
  constructor
  ·rintro⟨h1,h2⟩
   exact⟨by omega,fun z hz=>by rcases hz with rfl|hz;omega;exact h2 z hz⟩
  ·rintro⟨h1,h2⟩
   exact⟨by have:=h2 y (.inl rfl);omega,fun z hz=>h2 z (.inr hz)⟩
theorem I8 {cs:List Int} {m:Int} (h1:1≤cs.length):gr cs≤m↔∀ i,i<cs.length→el cs i≤m:=by
 cases cs with
 | nil=>simp at h1
 | cons c ds =>
  have e:gr (c::ds)=hiL c ds:=rfl;rw[e,aq9]
  constructor
  ·rintro⟨a,b⟩ i hi
   rw[o8 hi];have:=List.getElem_mem hi;rcases List.mem_cons.1 this with h|h
   ·rw[h];exact a
   ·exact b _ h
  ·intro h
   refine⟨h 0 (by simp),fun y hy=>?_⟩
   obtain⟨i,hi,rfl⟩:=List.getElem_of_mem hy;have:=h (i+1) (by simp;omega)
   rw[o8 (by simp;omega)] at this
   simpa using this
theorem ZA {cs:List Int} {i:Nat} (hi:i<cs.length):el cs i≤gr cs:=(I8 (by omega)).1 (Int.le_refl _) i hi
theorem ag3 {cs:List Int} (h:okB cs=true):nV cs=decide (gr cs≤100000):=by
 have h1:=(ji h).1;rw[Bool.eq_iff_iff,decide_eq_true_eq,I8 h1];exact⟨fun k=>fun i hi=>((wL k).2 i hi).2,fun k=>aa2 h k⟩
theorem IX (a:Option Addr) (len cap:Nat) (cs:List Int) (w:World) (hv:Vec w a len cs) (hcap:len≤cap) (hm:cap≤maxLen) :
  Calls Tryz.prog 101 #[.slice a len cap] w fun e w'=>e=.returned (.bool (nV cs))∧∃ n,w'=w.drewN n:=by
 have hV:=PN a len cap cs w hv hcap hm
 cases hb:okB cs with
 | false =>
  rw[hb] at hV;have HZ:Hid (nV cs=false):=by rw[Hid,nV,hb];rfl
  clear hb;go_enter Tryz.func101,Tryz.ntmps101
  go_wp2_with (go_at_call 132;refine hV.mono ?_;rintro e w' ⟨rfl,n1,rfl⟩)
  go_ret
  exact⟨aH (by rw[HZ.out]),_,rfl⟩
 | true =>
  rw[hb] at hV;have HZ:=aj (ag3 hb);have h18:=ji hb;clear hb;obtain⟨hlen,hf,hcs⟩:=hv
  have hG:Hid (∀ n,Calls Tryz.prog 131 #[.slice a len cap] (w.drewN n) fun e w'=>e=.returned (.int .i64 (gr cs))∧∃ m,w'=(w.drewN n).drewN m):=by
   intro n;rcases hcs with h0|⟨b,off,rfl,hc⟩
   ·omega
   ·exact nG b off len cap cs _ hlen hf (fun k hk=>by rw[World.cell?_drewN];exact hc k hk) (by omega) hcap hm
  have HL:=aj hlen;clear hlen hcs hf h18;generalize gr cs=G at *;go_enter Tryz.func101,Tryz.ntmps101
  go_wp2_with (first|(go_at_call 132;refine hV.mono ?_;rintro e w' ⟨rfl,n1,rfl⟩)|(go_at_call 131;refine (hG.out _).mono ?_;rintro e w' ⟨rfl,n2,rfl⟩))
  go_ret
  exact⟨aH (by rw[HZ.out]),_,rfl⟩
section
theorem ag4 {n q:Nat} (hn:1≤n∧n≤5) (hq:q≤60):D5 (n:Int) (q:Int)=((q%n:Nat):Int)∧D6 (n:Int) (q:Int)=((q/n:Nat):Int):=by
 have ht:ql (n:Int) (q:Int)=true:=AO.2 (by omega)
 unfold D5 D6;rw[ht];exact⟨by simp,by simp⟩
attribute [local irreducible] sv
end
structure OkW (m:Mb) (i n:Nat):Prop where
 hid:m.id=(i:Int)
 n5:1≤n∧n≤5
 lt:i<n
 len:m.rows.length=n
 ok:∀ k,k<n→dL (ah m.rows k) n
 fit:kH m
theorem dO.Ur {m:Mb} {i n:Nat} (h:dO m i n):OkW m i n:=⟨h.hid,h.n5,h.lt,h.len,h.ok,h.fit⟩
theorem ag5 (w0:World) (B:Nat) (m:Mb) (i n q:Nat) (fp:Fp) (g off c:Nat) (X:World) (M:Iw w0 X B m fp g off c) (ok:OkW m i n) (hq:q≤60) :
  Calls Tryz.prog 174 #[.pointer (some ⟨B,0,none⟩),.int .i64 (q:Int)] X fun e w'=>e=.returned (.bool (lC m.rows n q))∧Below X.heap.size X w':=by
 have fG:=ok.n5;have c1:=M.rws;rw[ok.len] at c1;have hC:=vT B (some ⟨g,off,none⟩) n c X c1;obtain⟨e1,e2⟩:=ag4 fG hq;have hS:=Xw (n:Int) (q:Int) X;have hI:=Xx (n:Int) (q:Int) X;rw[e1] at hS;rw[e2] at hI;obtain⟨z,hz⟩:∃ z:Nat,Hid (q%n=z):=⟨_,rfl⟩;obtain⟨y,hy⟩:∃ y:Nat,Hid (q/n=y):=⟨_,rfl⟩;have hzn:z<n:=by rw[← hz.out];exact Nat.mod_lt _ (by omega)
 rw[hz.out] at hS;rw[hy.out] at hI;have HM:=aj M;have HLn:=aj ok.len;have cO:=aj ok.ok;have Ah:=aj ok.fit;clear e1 e2 M;go_enter Tryz.func174,Tryz.ntmps174
 go_wp2_with (first|(go_at_call 166;refine hC.mono ?_;rintro e w' ⟨rfl,hw'⟩;rw[hw'];clear hw')|(go_at_call 91;refine hS.mono ?_;rintro e w' ⟨rfl,hw'⟩;rw[hw'];clear hw')|(go_at_call 92;refine hI.mono ?_;rintro e w' ⟨rfl,hw'⟩;rw[hw'];clear hw'))
 clear hC hS hI c1
 go_loopw [22] (fun v wr=>∃ k:Nat,k≤n∧v=.int .i64 (k:Int)∧(∀ j,j<k→(y:Int)<el (ah m.rows j).got z)∧Below X.heap.size X wr) (fun v _=>n-(intOf v).toNat)
 case atStart=>exact⟨0,Nat.zero_le _,rfl,fun j hj=>by omega,Below.refl _ _⟩
 case round =>
  obtain⟨k,hk,rfl,hall,hb⟩:=hrel;have HA:=aj hall;have HB:=aj hb;clear hall;by_cases hlt:k<n
  ·have hkl:k<m.rows.length:=by rw[HLn.out];exact hlt
   obtain⟨Ak,⟨⟨d0,d1,d2,d3⟩,d4,d5,d6,d7⟩,hrs⟩:=(HM.out.step hb).row Ah.out hkl;have hgl:=(cO.out k hlt).gl;have k0:(0:Int)≤(k:Int):=by omega
   have k1:(k:Int)<(n:Int):=by omega
   have jA:Hid (¬ ((y:Int)<el (ah m.rows k).got z)→lC m.rows n q=false):=fun h=>Kr hkl (by rw[hy.out,hz.out];exact h)
   have HY:Hid ((y:Int)<el (ah m.rows k).got z→∀ j,j<k+1→(y:Int)<el (ah m.rows j).got z):=fun h1 j hj=>by
    rcases Nat.lt_succ_iff_lt_or_eq.1 hj with h|h
    ·exact HA.out j h
    ·rw[h];exact h1
   generalize ah m.rows k=r at *;have hba:=aF wr (.cells #[.int .i64 r.ver,.slice Ak.ta r.txt.length Ak.tc,.slice Ak.ga r.got.length Ak.gc,.slice Ak.sa r.ak.length Ak.sc,.bool r.wed,.bool r.aB,.int .i64 r.aC,.slice Ak.ma r.aA.length Ak.mc] 44);have hxr:=Bx.new wr 44 #[.int .i64 r.ver,.slice Ak.ta r.txt.length Ak.tc,.slice Ak.ga r.got.length Ak.gc,.slice Ak.sa r.ak.length Ak.sc,.bool r.wed,.bool r.aB,.int .i64 r.aC,.slice Ak.ma r.aA.length Ak.mc];have iw:=aj (HB.out.trans (hba.mono HB.out.size));rcases (hrs.got.below hba (Nat.le_refl _)).2.2 with h0|⟨gb,go,hga,hgc⟩
   ·omega
   have hge:=hgc z (by omega)
   have z0:(0:Int)≤(z:Int):=by omega
   have z1:(z:Int)<(r.got.length:Int):=by omega
   have mG:=aj hxr;have FK:=aj hga;clear hrs hb hgc hba hxr hga hgl;generalize hxe:el r.got z=x at *;go_upto_region 5 with fail
   generalize wr.alloc (.cells #[.int .i64 r.ver,.slice Ak.ta r.txt.length Ak.tc,.slice Ak.ga r.got.length Ak.gc,.slice Ak.sa r.ak.length Ak.sc,.bool r.wed,.bool r.aB,.int .i64 r.aC,.slice Ak.ma r.aA.length Ak.mc] 44)=W5 at *;clear d0 d1 d2 d3 d4 d5 d6 d7;have x2:=mG.out.at 2 (v:=.slice Ak.ga r.got.length Ak.gc) rfl;rw[FK.out] at x2;by_cases hxy:(y:Int)<x
   ·have e2:¬ (x≤(y:Int)):=by omega
    have e3:=decide_eq_false e2;have HN:=aj (HY.out hxy);clear HY jA hxy;go_wp2;go_roundw
    case rel=>exact⟨k+1,by omega,by go_num,HN.out,iw.out⟩
    case measure=>simp[intOf];omega
   ·have e2:x≤(y:Int):=by omega
    have e3:=decide_eq_true e2;have HN:=aj (jA.out hxy);clear HY jA hxy;go_wp2;go_ret
    exact⟨aH (by rw[HN.out]),iw.out⟩
  ·have k1:¬ ((k:Int)<(n:Int)):=by omega
   obtain rfl:k=n:=by omega
   have HN:Hid (lC m.rows k q=true):=Hy (fun j hj=>by rw[hy.out,hz.out];exact HA.out j (by rw[← HLn.out];exact hj))
   clear hb;go_wp2;go_ret
   exact⟨aH (by rw[HN.out]),HB.out⟩
theorem Xy {m:Mb} {i n q:Nat} (ok:OkW m i n) (h:lC m.rows n q=true):q<60:=by
 have h5:=ok.n5;have h0:=ok.ok 0 (by omega)
 have hl:=ok.len;rw[lC,List.all_eq_true] at h;have:=h _ (List.mem_of_getElem? (dW (R:=m.rows) (k:=0) (by omega)))
 simp only[decide_eq_true_eq] at this;have hm:q%n<n:=Nat.mod_lt _ (by omega)
 have hg:=(fF h0.n5 h0.gl).1 ⟨h0.got,h0.g12⟩ (q%n) hm;have hq:q/n<12:=by omega
 have hd:=Nat.div_add_mod q n;have h1:n*(q/n)≤n*11:=Nat.mul_le_mul_left n (by omega)
 omega
theorem ag6 (w0:World) (B:Nat) (m:Mb) (i n:Nat) (fp:Fp) (g off c:Nat) (X:World) (M:Iw w0 X B m fp g off c) (ok:OkW m i n) (hsl:m.au.length≤60) :
  Calls Tryz.prog 146 #[.pointer (some ⟨B,0,none⟩)] X fun e w'=>e=.returned (.tuple #[])∧Iw w0 w' B { m with au:=iW m.rows n (60-m.au.length) m.au } fp g off c:=by
 have bH:=dH;have ig:=aj M;have cO:=aj ok;clear M;go_enter Tryz.func146,Tryz.ntmps146
 go_wp2_with fail
 go_loopg [] 61 (fun gk wr=>∃ s:List Int,s.length≤60∧60-s.length<gk∧Fits s∧Hid (iW m.rows n (60-m.au.length) m.au=iW m.rows n (60-s.length) s)∧Iw w0 wr B { m with au:=s } fp g off c)
 case atStart=>exact⟨m.au,hsl,by omega,cO.out.fit.2,rfl,ig.out⟩
 case round =>
  obtain⟨s,Jz,hgk,hfs,hS,M⟩:=hrel;have yB:OkW { m with au:=s } i n:=⟨cO.out.hid,cO.out.n5,cO.out.lt,cO.out.len,cO.out.ok,cO.out.fit.1,hfs⟩
  obtain⟨sa,sc,⟨c0,c1,c2,c3⟩,hms⟩:=M.box yB.fit;simp only at c0 c1 c2 c3
  have HM:=aj M;have Cj:∀ q:Bk wr,Calls Tryz.prog 174 #[.pointer (some ⟨B,0,none⟩),.int .i64 (s.length:Int)] q.w fun e w'=>e=.returned (.bool (lC m.rows n s.length))∧Below q.w.heap.size q.w w':=fun q=>ag5 w0 B { m with au:=s } i n s.length fp g off c q.w (HM.out.step q.h) yB Jz
  have y2:∀ q:Bk wr,q.w.cell? ⟨B,2,none⟩=some (.slice sa s.length sc):=fun q=>(q.h.cell (World.block_lt_of_cell? _ _ c2)).trans c2
  have YR:Hid (lC m.rows n s.length=true→s.length<60):=fun h=>Xy cO.out h
  clear M hms c0 c1 c2 c3
  cases hsg:lC m.rows n s.length with
  | false =>
   have HE:Hid (iW m.rows n (60-m.au.length) m.au=s):=by
    rw[Hid,hS.out]
    cases 60-s.length with
    | zero=>rfl
    | succ f=>rw[iW,if_neg (by rw[hsg];decide)]
   rw[hsg] at Cj;clear hsg;go_wp2_with fail
   refine eU ?_;repeat (go_big_quiet_step ((first|(go_at_call 174;exact aQ _ (Cj _))|rfl)))
   refine wpQuiet_nil (dK fun wE aJ=>?_)
   have Kt:=aj (HM.out.step aJ);clear Cj y2 aJ;go_wp2
   first|go_end0|go_ret
   exact⟨rfl,by rw[HE.out];exact Kt.out⟩
  | true =>
   have aD3:=YR.out hsg
   have HE:Hid (iW m.rows n (60-m.au.length) m.au=iW m.rows n (60-(s++[(s.length:Int)]).length) (s++[(s.length:Int)])):=by
    rw[Hid,hS.out,List.length_append,show 60-s.length=(60-(s.length+1))+1 by omega,iW,if_pos hsg]
    rfl
   rw[hsg] at Cj;clear hsg YR;go_upto_region 0 with fail
   refine eU ?_;repeat (go_big_quiet_step ((first|(go_at_call 174;exact aQ _ (Cj _))|rfl)))
   refine wpQuiet_nil (dK fun wE aJ=>?_)
   have M1:=HM.out.step aJ;obtain⟨u,f,hu,hz,how,hlt,hset⟩:=M1.He (j:=2) rfl (by decide)
   have hu2:=y2 ⟨wE,aJ⟩;simp only at hu2
   obtain rfl:=Option.some.inj (hu.symm.trans hu2);obtain⟨sa',sc',es,hA⟩:=ny (s.length:Int) how (Nat.le_trans Jz (by decide))
   cases es
   have hbd:=(Same.drewN wE 1).below;have KS:∀ Z,Below wE.heap.size wE Z→Z.cell? ⟨B,2,none⟩=some (.slice sa s.length sc):=fun Z hZ=>(hZ.cell (World.block_lt_of_cell? _ _ hu2)).trans hu2
   have hba:=aF wE (.cells #[.int .i64 (s.length:Int)] 2);have Gz:=aj hset;clear Cj y2 hset hu hz hlt M1 how aJ;go_upto_region 1 with fail
   refine jE (S:=fun Z:World=>Z.cell? ⟨B,2,none⟩=some (.slice sa s.length sc)) 14 bH ((KS _ hbd)) fun hHeld=>?_
   refine aY (i:=0) rfl hHeld ?_;refine aY (i:=1) rfl hHeld ?_;refine aY (i:=2) rfl hHeld ?_;refine aY (i:=3) rfl hHeld ?_;refine aY (i:=4) rfl hHeld ?_;refine aY (i:=5) rfl hHeld ?_;refine aY (i:=6) rfl hHeld ?_;refine aY (i:=7) rfl hHeld ?_;refine aY (i:=8) rfl hHeld ?_;refine aY (i:=9) rfl hHeld ?_;refine dI (i:=10) rfl fun K hK=>?_
   go_simp;refine hK.out _ _ (KS _ (hbd.trans ((aF wE.drew (.cells #[.int .i64 (s.length:Int)] 2)).mono hbd.size))) (fun aK=>?_)
   clear hK hHeld;have hHeld:=aK;try simp only[dw]
   refine dI (i:=11) rfl fun K hK=>?_
   refine gQ (by rfl) _ _ _ _ (by rfl) (.slice sa s.length sc) _ (by rfl) (by rfl) hA ⟨rfl,rfl,rfl,rfl⟩ ?_
   rintro v9 w1 ⟨a1,e1,f1,rfl,k1,k2,k3⟩;obtain⟨q1,q2,M2⟩:=Gz.out w1 (bQ (s++[(s.length:Int)])) (.slice a1 (s.length+1) e1) f1 { m with au:=s++[(s.length:Int)] } rfl rfl k3 k1 k2
   have eF:=aj M2;refine hK.out _ _ q1 (fun aK=>?_)
   clear hK hHeld;have hHeld:=aK;try simp only[dw]
   refine dI (i:=12) rfl fun K hK=>?_
   go_simp;refine hK.out _ _ q1 (fun aK=>?_)
   clear hK hHeld;have hHeld:=aK;try simp only[dw]
   refine dI (i:=13) rfl fun K hK=>?_
   go_simp;refine hK.out _ _ q1 (fun aK=>?_)
   clear hK hHeld;have hHeld:=aK;try simp only[dw]
   refine lQ rfl fun K hK=>?_
   go_simp;refine hK.out _ _ ?_;clear hHeld hK M2 k1 k2 k3 hA Gz q1 q2 KS hbd hba hu2;generalize w1.setCell ⟨B,2,none⟩ (.slice a1 (s.length+1) e1)=W9 at *;go_wp2
   go_roundg (60-s.length)
   case measure=>omega
   case rel => exact ⟨s ++ [(s.length : Int)],by simp;omega,by simp;omega,fun x hx => by
    rcases List.mem_append.1 hx with h|h
    ·exact hfs x h
    ·rw[List.mem_singleton.1 h];omega,HE.out,eF.out⟩
theorem Iw.aA6 {w X:World} {B:Nat} {m:Mb} {fp:Fp} {g off c:Nat} (h:Iw w X B m fp g off c) {i J:Nat} (hi:i<m.rows.length) (hJ:J<m.rows.length) (hne:J≠i) (hfit:lV (ah m.rows J)):∃ (f:Fp) (A:Ra),dN X g (off+i*8) (eY (ah m.rows i)) f∧B≠g∧¬ f B∧RV X g (off+J*8) A (ah m.rows J)∧(∀ b o,A.sa=some ⟨b,o,none⟩→(ah m.rows J).ak≠[]→¬ f b∧b≠g)∧∀ (X1 Y:World) (r:Rw),Below X.heap.size X X1→bC X1 Y g (off+i*8) (eY r) f→Iw w Y B { m with rows:=m.rows.set i r } fp g off c:=by
 obtain⟨dD,hp,hf1,hgo⟩:=h.bU.next;obtain⟨g',off',c',f,f2,vs2,h1,hgB,hfs,hpl,hpv,hdis,hvl,hput⟩:=hp.elO (F:=eY) gI (by omega) (j:=1) (L:=m.rows) rfl (dW hi) (dW hJ) hne
 have e:=Option.some.inj (h1.symm.trans h.rws)
 cases e
 have hfB:¬ f B:=fun hb=>hp.nB (hfs B hb)
 obtain⟨A,rfl,hl⟩:=rU hpv.own;refine⟨f,A,hpl,fun e=>hgB e.symm,hfB,hpv.rv rfl hfit,fun b o e hn=>?_,fun X1 Y r hb hB=>?_⟩
 ·obtain⟨u1,rD,q1,g1,e1,o1,l2,d1,i1⟩:=hl
  cases e1
  obtain⟨u2,uy,q2,g2,e2,o2,l3,d2,i2⟩:=l2
  cases e2
  obtain⟨u3,Dj,q3,g3,e3,o3,l4,d3,i3⟩:=l3
  cases e3
  have hf2:∀ b,q3 b→f2 b:=fun b hb=>(i1 b).2 (.inr ((i2 b).2 (.inr ((i3 b).2 (.inl hb)))))
  have hlen:0<(ah m.rows J).ak.length:=by
   rcases Nat.eq_zero_or_pos (ah m.rows J).ak.length with h|h
   ·exact absurd (List.eq_nil_of_length_eq_zero h) hn
   ·exact h
  obtain⟨g1',NT,c1',ee,hq,_⟩:=jh o3 hlen;rw[e] at ee
  cases ee
  exact⟨hdis _ (hf2 _ hq),fun e=>hpv.nB (e ▸ hf2 _ hq)⟩
 ·have hB1:=hB.first hb hpl.lt hpl.flt
  refine⟨hgo Y _ rfl (hput Y r hB1), ?_⟩;rw[World.cell?_of_block (hB1.wrt.block B hp.lt (fun kk=>by rcases kk with kk|kk;exact hfB kk;exact hgB kk.symm)),h.rws]
  simp
theorem ag7 (w0:World) (B:Nat) (m:Mb) (i n:Nat) (fp:Fp) (g off c:Nat) (X:World) (M:Iw w0 X B m fp g off c) (ok:dO m i n) :
  Calls Tryz.prog 142 #[.pointer (some ⟨B,0,none⟩)] X fun e w'=>e=.returned (.tuple #[])∧Iw w0 w' B { m with rows:=m.rows.set i (learn m.rows i (ah m.rows i) (aP n (ah m.rows i).ak)) } fp g off c:=by
 have hil:i<m.rows.length:=by rw[ok.len];exact ok.lt
 have hr:=ok.ok i ok.lt;have fG:=ok.n5;have hL:=Gv w0 B m i n fp g off c X M ok;have HM:=aj M;have HLn:Hid (∀ k∈aP n (ah m.rows i).ak,k<n):=fun k hk=>(dY.1 hk).1
 have EU:=oP n (ah m.rows i).ak;generalize Dq:aP n (ah m.rows i).ak=L at *;clear Dq M;go_enter Tryz.func142,Tryz.ntmps142
 go_wp2_with fail
 refine hL.mono ?_;rintro e wl ⟨la,lc,rfl,fl,hl1,hl2,hl3⟩;obtain⟨gy,f1,f2,_,M5,f4⟩:=HM.out.sub hl3;have uJ:=aj f4;have dJ:=aj M5;have uI:=aj hl1;have zU:Hid (∀ b,fl b→¬ gy b∧b≠B):=fun b hb=>⟨fun k=>by have:=f1 b k;have:=hl2 b hb;omega,fun k=>by have:=hl2 b hb;omega⟩
 rw[eP] at uI ⊢;clear hl1 hl2 hl3 f1 f2 f4 M5 hL HM;go_wp2_with fail
 go_loopw [8] (fun v wr=>∃ (k:Nat) (ow:Rw),k≤L.length∧v=.int .i64 (k:Int)∧Hid (ow=learn m.rows i (ah m.rows i) (L.take k))∧Iw wl wr B { m with rows:=m.rows.set i ow } gy g off c) (fun v _=>L.length-(intOf v).toNat)
 case atStart =>
  refine⟨0,ah m.rows i,Nat.zero_le _,rfl,rfl, ?_⟩
  have e:({ m with rows:=m.rows.set i (ah m.rows i) }:Mb)=m:=by
   have:=lg (dW hil);rw[this]
  rw[e];exact dJ.out
 case round =>
  obtain⟨k,ow,hk,rfl,lF,M⟩:=hrel;have HM:=aj M;clear dJ;by_cases hlt:k<L.length
  ·have yB:dL ow n:=by rw[lF.out];exact Bz ok.ok hr (fun x hx=>HLn.out x (List.mem_of_mem_take hx))
   have hfm:kH { m with rows:=m.rows.set i ow }:=J8 ok yB
   have l9:L.getD k 0<n:=HLn.out _ (jq hlt);have pK:L.getD k 0<({ m with rows:=m.rows.set i ow }:Mb).rows.length:=by rw[jD,ok.len];exact l9
   have nC:i<({ m with rows:=m.rows.set i ow }:Mb).rows.length:=by rw[jD];exact hil
   have Oc:=M.Ob uI.out zU.out;have nP:=jo (by rw[eP];exact Oc) (sW HLn.out (by omega))
   rcases nP.2.2 with hz|⟨lb,lo,hla,hlc⟩
   ·rw[eP] at hz;omega
   have hlk:=hlc k (by rw[eP];exact hlt)
   rw[rX hlt] at hlk;have Hw:Hid (learn m.rows i (ah m.rows i) (L.take (k+1))=jd i ow (L.getD k 0) (ah m.rows (L.getD k 0))):=by rw[Hid,ES hlt,← lF.out]
   have HRk:Hid (L.getD k 0≠i→ah (m.rows.set i ow) (L.getD k 0)=ah m.rows (L.getD k 0)):=fun hne=>by rw[bZ hil,if_neg hne]
   generalize L.getD k 0=J at *;have k1:(k:Int)<(L.length:Int):=by omega
   have k0:(0:Int)≤(k:Int):=by omega
   have J0:(0:Int)≤(J:Int):=by omega
   have J1:(J:Int)<(m.rows.length:Int):=by rw[ok.len];omega
   have hml:m.rows.length≤5:=by rw[ok.len];exact fG.2
   have jP:=M.rws;rw[jD] at jP;obtain⟨c0,_⟩:=M.id';simp only at c0
   rw[ok.hid] at c0
   have hokr:dL (ah (m.rows.set i ow) J) n:=by
    rw[bZ hil]
    split
    ·exact yB
    ·exact ok.ok J l9
   have hs2:ah (m.rows.set i ow) i=ow:=dM hil;by_cases xK:J=i
   ·-- itself: nothing
    subst xK;obtain⟨AJ,⟨⟨d0,d1,d2,d3⟩,d4,d5,d6,d7⟩,_⟩:=M.row hfm pK;simp only at d0 d1 d2 d3 d4 d5 d6 d7
    have HT:Hid (ow=learn m.rows J (ah m.rows J) (L.take (k+1))):=by rw[Hid,Hw.out,jd,if_pos (.inl rfl)]
    have e1:((J:Int) != (J:Int))=false:=by simp
    generalize ah (m.rows.set J ow) J=r at *;have hba:=aF wr (.cells #[.int .i64 r.ver,.slice AJ.ta r.txt.length AJ.tc,.slice AJ.ga r.got.length AJ.gc,.slice AJ.sa r.ak.length AJ.sc,.bool r.wed,.bool r.aB,.int .i64 r.aC,.slice AJ.ma r.aA.length AJ.mc] 44);have Kt:=aj (HM.out.step hba);have b0:=(hba.cell (World.block_lt_of_cell? _ _ c0)).trans c0;rw[hla];have ZB:=aj hla;clear M Oc nP hlc hba hla hs2 hokr;go_upto_region 4 with fail
    generalize wr.alloc (.cells #[.int .i64 r.ver,.slice AJ.ta r.txt.length AJ.tc,.slice AJ.ga r.got.length AJ.gc,.slice AJ.sa r.ak.length AJ.sc,.bool r.wed,.bool r.aB,.int .i64 r.aC,.slice AJ.ma r.aA.length AJ.mc] 44)=W5 at *;clear d0 d1 d2 d3 d4 d5 d6 d7 jP c0 hlk;go_wp2;go_roundw
    case rel=>exact⟨k+1,ow,by omega,by go_num,HT,Kt.out⟩
    case measure=>simp[intOf];omega
   obtain⟨f,AJ,hpl,hBg,hfB,wJ,hvb,hput⟩:=M.aA6 nC pK xK hokr.fit;simp only at hpl wJ hvb hput
   rw[hs2] at hpl;obtain⟨⟨⟨d0,d1,d2,d3⟩,d4,d5,d6,d7⟩,hrs⟩:=wJ;have EX:=HRk.out xK;have SE:=aj EX;rw[← EX] at Hw;generalize ah (m.rows.set i ow) J=r at *;have e1:((J:Int) != (i:Int))=true:=by simp;omega
   have hba:=aF wr (.cells #[.int .i64 r.ver,.slice AJ.ta r.txt.length AJ.tc,.slice AJ.ga r.got.length AJ.gc,.slice AJ.sa r.ak.length AJ.sc,.bool r.wed,.bool r.aB,.int .i64 r.aC,.slice AJ.ma r.aA.length AJ.mc] 44);have hxr:=Bx.new wr 44 #[.int .i64 r.ver,.slice AJ.ta r.txt.length AJ.tc,.slice AJ.ga r.got.length AJ.gc,.slice AJ.sa r.ak.length AJ.sc,.bool r.wed,.bool r.aB,.int .i64 r.aC,.slice AJ.ma r.aA.length AJ.mc];have iw:=aj hba;have mG:=aj hxr;have b0:=(hba.cell (World.block_lt_of_cell? _ _ c0)).trans c0;have b1:=(hba.cell (World.block_lt_of_cell? _ _ jP)).trans jP;have hWd:=O4 B i m.rows.length g off c n ow f r.ak AJ.sa AJ.sc _ (hpl.below hba) hBg hfB b0 b1 hil (hrs.ak.below hba (Nat.le_refl _)) hvb yB hokr.ak (by have:=hokr.sl;have:=hokr.n5;omega)
   have L9 : Calls Tryz.prog 169 #[.pointer (some ⟨B,0,none⟩),.slice AJ.sa r.ak.length AJ.sc] (wr.alloc (.cells #[.int .i64 r.ver,.slice AJ.ta r.txt.length AJ.tc,.slice AJ.ga r.got.length AJ.gc,.slice AJ.sa r.ak.length AJ.sc,.bool r.wed,.bool r.aB,.int .i64 r.aC,.slice AJ.ma r.aA.length AJ.mc] 44)) fun e w' => e = .returned (.tuple #[]) ∧ Iw wl w' B { m with rows := m.rows.set i { ow with wed := true,ak := gY i ow.ak r.ak } } gy g off c := hWd.mono (fun e w' h => ⟨h.1,by
    have:=hput _ w' _ hba h.2;simp only[List.set_set,jr,List.take_length] at this;exact this⟩)
   have Kt:=aj (HM.out.step hba);rw[hla];have ZB:=aj hla;have Oe:=aj xK;clear M Oc nP hlc hba hxr hla hpl hput hvb hWd hrs hBg hfB hs2 EX;go_upto_region 4 with fail
   generalize wr.alloc (.cells #[.int .i64 r.ver,.slice AJ.ta r.txt.length AJ.tc,.slice AJ.ga r.got.length AJ.gc,.slice AJ.sa r.ak.length AJ.sc,.bool r.wed,.bool r.aB,.int .i64 r.aC,.slice AJ.ma r.aA.length AJ.mc] 44)=W5 at *;clear d0 d1 d2 d3 d4 d5 d6 d7 jP c0 hlk xK;obtain⟨⟨x0,x1,x2,x3⟩,x4,x5,x6,x7⟩:=Bx.r8 mG.out;by_cases hws:r.wed=false∧r.ak=[]
   ·have HT:Hid (ow=learn m.rows i (ah m.rows i) (L.take (k+1))):=by rw[Hid,Hw.out,jd,if_pos (.inr hws)]
    rw[hws.1] at x4;have e3:¬ ((0:Int)<(r.ak.length:Int)):=by rw[hws.2];simp
    clear hws;go_wp2;go_roundw
    case rel=>exact⟨k+1,ow,by omega,by go_num,HT,Kt.out⟩
    case measure=>simp[intOf];omega
   have HT:Hid ({ ow with wed:=true,ak:=gY i ow.ak r.ak }=learn m.rows i (ah m.rows i) (L.take (k+1))):=by rw[Hid,Hw.out,jd,if_neg (by rintro (h|h);exact Oe.out h;exact hws h)]
   cases hwd:r.wed with
   | true =>
    rw[hwd] at x4;clear hwd hws;go_wp2_with (go_at_call 169;refine L9.mono ?_;rintro e w9 ⟨rfl,Bg⟩;have gu:Hid (Iw wl w9 B { m with rows:=m.rows.set i { ow with wed:=true,ak:=gY i ow.ak r.ak } } gy g off c):=Bg;clear Bg)
    go_roundw
    case rel=>exact⟨k+1,_,by omega,by go_num,HT,gu.out⟩
    case measure=>simp[intOf];omega
   | false =>
    rw[hwd] at x4
    have e3:(0:Int)<(r.ak.length:Int):=by
     have:r.ak≠[]:=fun h=>hws ⟨hwd,h⟩
     have:r.ak.length≠0:=fun h=>this (List.eq_nil_of_length_eq_zero h)
     omega
    clear hwd hws;go_wp2_with (go_at_call 169;refine L9.mono ?_;rintro e w9 ⟨rfl,Bg⟩;have gu:Hid (Iw wl w9 B { m with rows:=m.rows.set i { ow with wed:=true,ak:=gY i ow.ak r.ak } } gy g off c):=Bg;clear Bg)
    go_roundw
    case rel=>exact⟨k+1,_,by omega,by go_num,HT,gu.out⟩
    case measure=>simp[intOf];omega
  ·have k1:¬ ((k:Int)<(L.length:Int)):=by omega
   have eo:ow=learn m.rows i (ah m.rows i) L:=by rw[lF.out,show k=L.length by omega,List.take_length]
   have HF:Hid (Iw w0 wr B { m with rows:=m.rows.set i (learn m.rows i (ah m.rows i) L) } fp g off c):=by rw[Hid,← eo];exact uJ.out _ _ M
   clear M;go_wp2
   first|go_end0|go_ret
   exact⟨rfl,HF.out⟩
theorem ag8 (w0:World) (B:Nat) (m:Mb) (i n:Nat) (fp:Fp) (g off c:Nat) (X:World) (M:Iw w0 X B m fp g off c) (ok:OkW m i n) :
  Calls Tryz.prog 145 #[.pointer (some ⟨B,0,none⟩)] X fun e w'=>e=.returned (.tuple #[])∧Iw w0 w' B { m with rows:=m.rows.set i { ah m.rows i with got:=kS m.rows (ah m.rows i) n } } fp g off c:=by
 have bH:=dH;have hil:i<m.rows.length:=by rw[ok.len];exact ok.lt
 have fG:=ok.n5;have hr:=ok.ok i ok.lt;obtain⟨c0,_⟩:=M.id';have c1:=M.rws;rw[ok.hid] at c0;have lF:=jQ B i m.rows.length g off c X c0 c1 hil;have ig:=aj M;have HLn:=aj ok.len;have zX:=aj hr.gl;have aD4:=aj ok.ok;have Ah:=aj ok.fit;have hml:m.rows.length≤5:=by rw[ok.len];exact fG.2
 have VI:Hid (∀ k,kH ({ m with rows:=m.rows.set i { ah m.rows i with got:=gV m.rows (ah m.rows i) n k } }:Mb)):=fun k=>by
  refine⟨fun x hx=>?_,ok.fit.2⟩
  rcases List.mem_or_eq_of_mem_set hx with h|h
  ·exact ok.fit.1 x h
  ·rw[h]
   refine⟨fun y hy=>?_,hr.fit.2⟩
   have hy':=hy;unfold gV at hy';obtain⟨j,hj,rfl⟩:=List.mem_map.1 hy';have hjn:=List.mem_range.1 hj;have hg:=(fF hr.n5 hr.gl).1 ⟨hr.got,hr.g12⟩ j hjn;have ht:=(ok.ok j hjn).tl
   split
   ·omega
   ·omega
 clear M c0 c1;go_enter Tryz.func145,Tryz.ntmps145
 go_wp2_with fail
 refine lF.mono ?_;rintro e XA ⟨rfl,mW⟩;have M1:=ig.out.step mW;obtain⟨u,f,hu,hz,how,_,_⟩:=M1.at hil (j:=2) rfl;have how':=how;have hgi:0<(ah m.rows i).got.length:=by rw[zX.out];omega
 obtain⟨gb,go,gc,rfl,_⟩:=jh how' hgi;have c1:=M1.rws
 have bF:Hid (Iw w0 XA B ({ m with rows:=m.rows.set i { ah m.rows i with got:=gV m.rows (ah m.rows i) n 0 } }:Mb) fp g off c):=by
  rw[Hid,Ic zX.out];have:=lg (dW hil)
  have e:({ m with rows:=m.rows.set i { ah m.rows i with got:=(ah m.rows i).got } }:Mb)=m:=by
   show ({ m with rows:=m.rows.set i (ah m.rows i) }:Mb)=m
   rw[this]
  rw[e];exact M1
 have su:=aj hu;clear lF mW M1 hz how how' ig;go_wp2_with fail
 clear hu c1;have HSL:Hid (∀ k,ah (m.rows.set i { ah m.rows i with got:=gV m.rows (ah m.rows i) n k }) i={ ah m.rows i with got:=gV m.rows (ah m.rows i) n k }):=fun k=>dM hil
 go_loopw [15] (fun v wr=>∃ k:Nat,k≤m.rows.length∧v=.int .i64 (k:Int)∧Iw w0 wr B ({ m with rows:=m.rows.set i { ah m.rows i with got:=gV m.rows (ah m.rows i) n k } }:Mb) fp g off c∧wr.cell? ⟨g,off+i*8+2,none⟩=some (.slice (some ⟨gb,go,none⟩) (ah m.rows i).got.length gc)) (fun v _=>m.rows.length-(intOf v).toNat)
 case atStart=>exact⟨0,Nat.zero_le _,rfl,bF.out,su.out⟩
 case round =>
  obtain⟨k,hk,rfl,M,hcg⟩:=hrel;have HM:=aj M;clear bF su;by_cases hlt:k<m.rows.length
  ·have hkn:k<n:=by rw[← HLn.out];exact hlt
   have hkl2:k<(({ m with rows:=m.rows.set i { ah m.rows i with got:=gV m.rows (ah m.rows i) n k } }:Mb)).rows.length:=by rw[jD];exact hlt
   have nC:i<(({ m with rows:=m.rows.set i { ah m.rows i with got:=gV m.rows (ah m.rows i) n k } }:Mb)).rows.length:=by rw[jD];exact hil
   obtain⟨Ak,⟨⟨d0,d1,d2,d3⟩,d4,d5,d6,d7⟩,hrs⟩:=M.row (VI.out k) hkl2;simp only at d0 d1 d2 d3 d4 d5 d6 d7
   have HTx:Hid ((ah (m.rows.set i { ah m.rows i with got:=gV m.rows (ah m.rows i) n k }) k).txt.length=(ah m.rows k).txt.length):=by
    rw[Hid,bZ hil]
    split
    ·rename_i e;rw[e]
    ·rfl
   generalize hrk:ah (m.rows.set i { ah m.rows i with got:=gV m.rows (ah m.rows i) n k }) k=r at *
   have k0:(0:Int)≤(k:Int):=by omega
   have k1:(k:Int)<(m.rows.length:Int):=by omega
   have hba:=aF wr (.cells #[.int .i64 r.ver,.slice Ak.ta r.txt.length Ak.tc,.slice Ak.ga r.got.length Ak.gc,.slice Ak.sa r.ak.length Ak.sc,.bool r.wed,.bool r.aB,.int .i64 r.aC,.slice Ak.ma r.aA.length Ak.mc] 44);have hxr:=Bx.new wr 44 #[.int .i64 r.ver,.slice Ak.ta r.txt.length Ak.tc,.slice Ak.ga r.got.length Ak.gc,.slice Ak.sa r.ak.length Ak.sc,.bool r.wed,.bool r.aB,.int .i64 r.aC,.slice Ak.ma r.aA.length Ak.mc];have M5:=HM.out.step hba;have dJ:=aj M5;have mG:=aj hxr;have HCg:Hid ((wr.alloc (.cells #[.int .i64 r.ver,.slice Ak.ta r.txt.length Ak.tc,.slice Ak.ga r.got.length Ak.gc,.slice Ak.sa r.ak.length Ak.sc,.bool r.wed,.bool r.aB,.int .i64 r.aC,.slice Ak.ma r.aA.length Ak.mc] 44)).cell? ⟨g,off+i*8+2,none⟩=some (.slice (some ⟨gb,go,none⟩) (ah m.rows i).got.length gc)):=(hba.cell (World.block_lt_of_cell? _ _ hcg)).trans hcg;have jP:=M.rws;clear M hrs hba hxr M5 hrk hcg;go_upto_region 4 with fail
   generalize wr.alloc (.cells #[.int .i64 r.ver,.slice Ak.ta r.txt.length Ak.tc,.slice Ak.ga r.got.length Ak.gc,.slice Ak.sa r.ak.length Ak.sc,.bool r.wed,.bool r.aB,.int .i64 r.aC,.slice Ak.ma r.aA.length Ak.mc] 44)=W5 at *;clear d0 d1 d2 d3 d4 d5 d6 d7 jP;have DF:k<(gV m.rows (ah m.rows i) n k).length:=by rw[nD];exact hkn
   obtain⟨u,f,hu,hz,how,_,_⟩:=dJ.out.at nC (j:=2) (cl:=bQ (gV m.rows (ah m.rows i) n k)) (by simp only[HSL.out];rfl)
   obtain rfl:=Option.some.inj (hu.symm.trans HCg.out);obtain⟨gb',go',gc',e4,_,hge,_⟩:=jh how DF;rw[nD,zX.out] at e4
   cases e4
   rw[Ou hkn,if_neg (Nat.lt_irrefl _)] at hge;have x1:=mG.out.at 1 (v:=.slice Ak.ta r.txt.length Ak.tc) rfl;have T:∀ {x v},W5.cell? x=some v→∀ q:Bk W5,q.w.cell? x=some v:=fun h q=>(q.h.cell (World.block_lt_of_cell? _ _ h)).trans h
   have y1:=T x1;have y2:=T hge;have l1:(k:Int)<((ah m.rows i).got.length:Int):=by rw[zX.out];omega
   have xJ:Hid ((gV m.rows (ah m.rows i) n k).set k (max (el (ah m.rows i).got k) (r.txt.length:Int))=gV m.rows (ah m.rows i) n (k+1)):=by
    rw[Hid,HTx.out];exact Ie hkn
   clear T x1 hge hu hz how;generalize el (ah m.rows i).got k=x at *;refine bK (C:=fun w'=>∃ p:Bk W5,w'=p.w) 11 bH (by kernel_rfl) ⟨⟨W5.drewN 1,bg (Below.refl _ _)⟩,rfl⟩ ?_
   simp only[List.take_succ_cons,List.take_zero]
   repeat (go_big_quiet_step ((first|rfl)))
   refine wpQuiet_nil (dK fun wE aJ=>?_)
   simp only[List.drop_succ_cons,List.drop_zero]
   have ar0:=(aJ.cell (World.block_lt_of_cell? _ _ HCg.out)).trans HCg.out;obtain⟨u,f3,hu,hfz,how,hlt3,hset⟩:=(dJ.out.step aJ).at nC (j:=2) (cl:=bQ (gV m.rows (ah m.rows i) n k)) (by simp only[HSL.out];rfl)
   obtain rfl:=Option.some.inj (hu.symm.trans ar0);obtain⟨gb',go',gc',e4,Qm,hge,hgz,hgs⟩:=jh how DF;rw[nD,zX.out] at e4
   cases e4
   have HFin:Hid (∀ y,y=max x (r.txt.length:Int)→Iw w0 (wE.setCell ⟨gb,go+k,none⟩ (.int .i64 y)) B ({ m with rows:=m.rows.set i { ah m.rows i with got:=gV m.rows (ah m.rows i) n (k+1) } }:Mb) fp g off c∧(wE.setCell ⟨gb,go+k,none⟩ (.int .i64 y)).cell? ⟨g,off+i*8+2,none⟩=some (.slice (some ⟨gb,go,none⟩) (ah m.rows i).got.length gc)):=fun y hy=>by
    subst hy;obtain⟨q1,q2⟩:=hgs (max x (r.txt.length:Int));obtain⟨p1,_,_,p4⟩:=hset _ (bQ ((gV m.rows (ah m.rows i) n k).set k (max x (r.txt.length:Int)))) _ f3 { ah m.rows i with got:=(gV m.rows (ah m.rows i) n k).set k (max x (r.txt.length:Int)) } (by simp only[HSL.out];rfl) q2 q1 (fun b hb=>.inl hb)
    refine⟨?_,p1⟩;have:=p4 rfl;simp only[List.set_set] at this;rw[xJ.out] at this;exact this
   clear hset hgs how Qm hlt3 y1 y2 hu hfz ar0;go_wp2;generalize hmx:max x (r.txt.length:Int)=mx at *;obtain⟨q1,q2⟩:=HFin.out mx rfl;have pY:Hid _:=q1;have yK:Hid _:=q2;go_roundw
   case rel=>exact⟨k+1,by omega,by go_num,pY.out,yK.out⟩
   case measure=>simp[intOf];omega
  ·have k1:¬ ((k:Int)<(m.rows.length:Int)):=by omega
   have HF:Hid (Iw w0 wr B { m with rows:=m.rows.set i { ah m.rows i with got:=kS m.rows (ah m.rows i) n } } fp g off c):=by
    rw[Hid,← KW,show n=k by rw[← HLn.out];omega]
    have e:k=n:=by rw[← HLn.out];omega
    subst e;exact M
   clear M hcg;go_wp2
   first|go_end0|go_ret
   exact⟨rfl,HF.out⟩
theorem FN (w:World) (g o1 o2:Nat) (u v:Value) (h:o1≠o2):(w.setCell ⟨g,o1,none⟩ u).setCell ⟨g,o2,none⟩ v=(w.setCell ⟨g,o2,none⟩ v).setCell ⟨g,o1,none⟩ u:=by
 unfold World.setCell;simp only[World.mk.injEq,and_true,true_and]
 refine Array.ext (by simp) (fun i h1 h2=>?_)
 simp only[Array.getElem_modify,Option.isSome_none,Bool.false_eq_true,if_false]
 by_cases e:g=i
 ·subst e
  simp only[if_true]
  cases w.heap[g]'(by simpa using h1) with
  | cells c t fz =>
   simp only
   rw[Array.setIfInBounds_comm _ _ h]
  | _=>rfl
 ·simp[e]
theorem O5 (w0:World) (B:Nat) (m:Mb) (i n:Nat) (aC:Int) (fp:Fp) (g off c:Nat) (X:World) (M:Iw w0 X B m fp g off c) (ok:OkW m i n) :
  Calls Tryz.prog 184 #[.pointer (some ⟨B,0,none⟩),.int .i64 aC] X fun e w'=>e=.returned (.bool (!(ah m.rows i).aB||decide ((ah m.rows i).aC<aC)))∧Below X.heap.size X w':=by
 have hil:i<m.rows.length:=by rw[ok.len];exact ok.lt
 have kL:Hid (∀ Y,Below X.heap.size X Y→Calls Tryz.prog 140 #[.pointer (some ⟨B,0,none⟩)] Y fun e w'=>e=.returned (.pointer (some ⟨g,off+i*8,none⟩))∧Below Y.heap.size Y w'):=fun Y hY=>by
  have M1:=M.step hY;obtain⟨c0,_⟩:=M1.id';rw[ok.hid] at c0;exact jQ B i m.rows.length g off c Y c0 M1.rws hil
 have HC:Hid (∀ Y,Below X.heap.size X Y→Y.cell? ⟨g,off+i*8+5,none⟩=some (.bool (ah m.rows i).aB)∧Y.cell? ⟨g,off+i*8+6,none⟩=some (.int .i64 (ah m.rows i).aC)):=fun Y hY=>by
  obtain⟨Ak,⟨⟨d0,d1,d2,d3⟩,d4,d5,d6,d7⟩,_⟩:=(M.step hY).row ok.fit hil;exact⟨d5,d6⟩
 have Hz:=kL.out X (Below.refl _ _);clear M;generalize ah m.rows i=r at *
 cases hrd:r.aB with
 | false =>
  go_enter Tryz.func184,Tryz.ntmps184
  go_wp2_with (go_at_call 140;refine Hz.mono ?_;rintro e w1 ⟨rfl,hb1⟩;obtain⟨g5,g6⟩:=HC.out w1 hb1;rw[hrd] at g5;have HB1:Hid (Below X.heap.size X w1):=hb1;clear hb1)
  go_ret
  exact⟨by simp,HB1.out⟩
 | true =>
  go_enter Tryz.func184,Tryz.ntmps184
  go_wp2_with fail
  refine Hz.mono ?_;rintro e w1 ⟨rfl,hb1⟩;obtain⟨g5,g6⟩:=HC.out w1 hb1;rw[hrd] at g5;have HB1:=aj hb1;have hO2:=kL.out w1 hb1;clear hb1 Hz;go_wp2_with fail
  refine hO2.mono ?_;rintro e w2 ⟨rfl,hb2⟩;have HB2:=aj (HB1.out.trans (hb2.mono HB1.out.size));clear g5 g6 hb2 hO2;obtain⟨g5,g6⟩:=HC.out w2 HB2.out;go_wp2;go_ret
  exact⟨by simp,HB2.out⟩
theorem O6 (w0:World) (B:Nat) (m:Mb) (i n:Nat) (aC:Int) (T:List Int) (ta:Option Addr) (tc:Nat) (fp:Fp) (g off c:Nat) (X:World) (M:Iw w0 X B m fp g off c) (ok:OkW m i n) (hv:Vec X ta T.length T) (hT:T.length≤100) :
  Calls Tryz.prog 185 #[.pointer (some ⟨B,0,none⟩),.int .i64 aC,.slice ta T.length tc] X fun e w'=>e=.returned (.tuple #[])∧Iw w0 w' B { m with rows:=m.rows.set i { ah m.rows i with aB:=true,aC:=aC,aA:=T } } fp g off c:=by
 have hil:i<m.rows.length:=by rw[ok.len];exact ok.lt
 obtain⟨c0,_⟩:=M.id';rw[ok.hid] at c0;have lF:=jQ B i m.rows.length g off c X c0 M.rws hil;have HM:=aj M;have HV:=aj hv;have oK:Hid (T.length≤1000000):=Nat.le_trans hT (by decide)
 clear M hv c0;go_enter Tryz.func185,Tryz.ntmps185
 go_wp2_with fail
 refine lF.mono ?_;rintro e XA ⟨rfl,mW⟩;have Ue:=yV ta tc T XA (HV.out.below mW (Nat.le_refl _)) oK.out;have Aj:=aj (HM.out.step mW);clear lF mW;go_wp2_with fail
 refine Ue.mono ?_;rintro e XB ⟨a1,e1,rfl,f1,o1,p1,b1⟩;have hlt1:=aI.iT o1;obtain⟨fx,hpl,hBg,hfB,Qn,hgl,_⟩:=Aj.out.own hil
 -- Trim first,then Ready and By: one block's cells
 obtain⟨u,f,hu,hz,how,hlt,hset⟩:=Aj.out.at hil (j:=7) rfl;obtain⟨_,_,M7,_⟩:=hset XB (bQ T) (.slice a1 T.length e1) f1 { ah m.rows i with aA:=T } rfl (aO.of_below b1) o1 (fun b hb=>.inr (p1 b hb))
 have hs7:ah (m.rows.set i { ah m.rows i with aA:=T }) i={ ah m.rows i with aA:=T }:=dM hil
 have Qp:i<(m.rows.set i { ah m.rows i with aA:=T }).length:=by rw[List.length_set];exact hil
 obtain⟨_,_,M5⟩:=M7.put Qp (j:=5) (x:=.bool (ah m.rows i).aB) (y:=.bool true) (r':={ ah m.rows i with aA:=T,aB:=true }) (by simp only[hs7];rfl) (by simp only[hs7];rfl)
 simp only[List.set_set] at M5;have hs5:ah (m.rows.set i { ah m.rows i with aA:=T,aB:=true }) i={ ah m.rows i with aA:=T,aB:=true }:=dM hil
 have ar1:i<(m.rows.set i { ah m.rows i with aA:=T,aB:=true }).length:=by rw[List.length_set];exact hil
 obtain⟨_,_,M6⟩:=M5.put ar1 (j:=6) (x:=.int .i64 (ah m.rows i).aC) (y:=.int .i64 aC) (r':={ ah m.rows i with aB:=true,aC:=aC,aA:=T }) (by simp only[hs5];rfl) (by simp only[hs5];rfl)
 simp only[List.set_set] at M6;rw[FN XB g (off+i*8+7) (off+i*8+5) _ _ (by omega),FN _ g (off+i*8+7) (off+i*8+6) _ _ (by omega)] at M6
 have gJ:Hid _:=M6;obtain⟨Ak,⟨⟨d0,d1,d2,d3⟩,d4,d5,d6,d7⟩,_⟩:=(Aj.out.step b1).row ok.fit hil;obtain⟨⟨j0,j1,j2,j3⟩,j4,j5,j6,j7⟩:=(Aj.out.step b1).free hil;clear M7 M5 M6 hset how hu hz hlt Ue o1 p1 b1 hpl Qn hlt1 hs7 hs5 Qp ar1;go_wp2
 first|go_end0|go_ret
 exact⟨rfl,gJ.out⟩
theorem IC {α:Type} {p:α→Bool} {L:List α} {k:Nat} {d:α} (hk:k<L.length) (h:(L.take k).all p=true) (h2:p (L.getD k d)=true):(L.take (k+1)).all p=true:=by
 rw[List.getD_eq_getElem?_getD,List.getElem?_eq_getElem hk,Option.getD_some] at h2;rw[List.take_succ_eq_append_getElem hk,List.all_append,h,Bool.true_and];simp[h2]
theorem O7 {α:Type} {p:α→Bool} {L:List α} {k:Nat} {d:α} (hk:k<L.length) (h2:p (L.getD k d)=false):L.all p=false:=by
 rw[List.getD_eq_getElem?_getD,List.getElem?_eq_getElem hk,Option.getD_some] at h2;exact List.all_eq_false.2 ⟨_,List.getElem_mem hk,by simp[h2]⟩
theorem ag9 (w0:World) (B:Nat) (m:Mb) (i n:Nat) (fp:Fp) (g off c:Nat) (X:World) (M:Iw w0 X B m fp g off c) (ok:OkW m i n) (L:List Nat) (la:Option Addr) (lc:Nat) (hv:Vec X la (lN L).length (lN L)) (hLn:∀ k∈L,k<n) (EU:L.length≤5) :
  Calls Tryz.prog 186 #[.pointer (some ⟨B,0,none⟩),.slice la L.length lc] X fun e w'=>e=.returned (.bool (iH m.rows (ah m.rows i) L))∧Below X.heap.size X w':=by
 have fG:=ok.n5;have HM:=aj M;have HLn:=aj ok.len;have hml:m.rows.length≤5:=by rw[ok.len];exact fG.2
 have cO:=aj ok.ok;have Ah:=aj ok.fit;have Mc:Hid (i<m.rows.length):=by rw[Hid,ok.len];exact ok.lt
 have HL:=aj hLn;have HV:=aj hv
 have kL:Hid (∀ Y,Below X.heap.size X Y→Calls Tryz.prog 140 #[.pointer (some ⟨B,0,none⟩)] Y fun e w'=>e=.returned (.pointer (some ⟨g,off+i*8,none⟩))∧Below Y.heap.size Y w'):=fun Y hY=>by
  have M1:=M.step hY;obtain⟨c0,_⟩:=M1.id';rw[ok.hid] at c0;exact jQ B i m.rows.length g off c Y c0 M1.rws Mc.out
 clear M hv hLn;go_enter Tryz.func186,Tryz.ntmps186
 go_wp2_with fail
 go_loopw [10] (fun v wr=>∃ k:Nat,k≤L.length∧v=.int .i64 (k:Int)∧Hid ((L.take k).all (fun k=>(ah m.rows k).wed&&(ah m.rows i).ak.all (fun x=>decide (x∈(ah m.rows k).ak)))=true)∧Below X.heap.size X wr) (fun v _=>L.length-(intOf v).toNat)
 case atStart=>exact⟨0,Nat.zero_le _,rfl,rfl,Below.refl _ _⟩
 case round =>
  obtain⟨k,hk,rfl,HA,hb⟩:=hrel;have HB:=aj hb;by_cases hlt:k<L.length
  ·have l9:L.getD k 0<n:=HL.out _ (jq hlt)
   have pK:L.getD k 0<m.rows.length:=by rw[HLn.out];exact l9
   rcases (HV.out.below hb (Nat.le_refl _)).2.2 with hz|⟨lb,lo,hla,hlc⟩
   ·rw[eP] at hz;omega
   have hlk:=hlc k (by rw[eP];exact hlt)
   rw[rX hlt] at hlk;obtain⟨AJ,⟨⟨d0,d1,d2,d3⟩,d4,d5,d6,d7⟩,hrs⟩:=(HM.out.step hb).row Ah.out pK;have jP:=(HM.out.step hb).rws;have HT:Hid (((ah m.rows (L.getD k 0)).wed&&(ah m.rows i).ak.all (fun x=>decide (x∈(ah m.rows (L.getD k 0)).ak)))=true→(L.take (k+1)).all (fun k=>(ah m.rows k).wed&&(ah m.rows i).ak.all (fun x=>decide (x∈(ah m.rows k).ak)))=true):=fun h=>IC (d:=0) hlt HA.out h
   have HF:Hid (((ah m.rows (L.getD k 0)).wed&&(ah m.rows i).ak.all (fun x=>decide (x∈(ah m.rows (L.getD k 0)).ak)))=false→iH m.rows (ah m.rows i) L=false):=fun h=>O7 (d:=0) hlt h
   have yN:Hid ((ah m.rows (L.getD k 0)).ak.length≤maxLen):=by have h:=cO.out _ l9;have:=h.sl;have:=h.n5;unfold maxLen;rw[Hid];omega
   have HSo:Hid ((ah m.rows i).ak.length≤maxLen):=by have h:=cO.out i (by rw[← HLn.out];exact Mc.out);have:=h.sl;have:=h.n5;unfold maxLen;rw[Hid];omega
   generalize L.getD k 0=J at *;have k1:(k:Int)<(L.length:Int):=by omega
   have k0:(0:Int)≤(k:Int):=by omega
   have J0:(0:Int)≤(J:Int):=by omega
   have J1:(J:Int)<(m.rows.length:Int):=by omega
   generalize ah m.rows J=r at *;have hba:=aF wr (.cells #[.int .i64 r.ver,.slice AJ.ta r.txt.length AJ.tc,.slice AJ.ga r.got.length AJ.gc,.slice AJ.sa r.ak.length AJ.sc,.bool r.wed,.bool r.aB,.int .i64 r.aC,.slice AJ.ma r.aA.length AJ.mc] 44);have hxr:=Bx.new wr 44 #[.int .i64 r.ver,.slice AJ.ta r.txt.length AJ.tc,.slice AJ.ga r.got.length AJ.gc,.slice AJ.sa r.ak.length AJ.sc,.bool r.wed,.bool r.aB,.int .i64 r.aC,.slice AJ.ma r.aA.length AJ.mc];have iw:=aj (HB.out.trans (hba.mono HB.out.size));have mG:=aj hxr;have Us:=aj (hrs.ak.below hba (Nat.le_refl _));rw[hla];have ZB:=aj hla;clear hrs hb hlc hba hxr hla;go_upto_region 5 with fail
   generalize wr.alloc (.cells #[.int .i64 r.ver,.slice AJ.ta r.txt.length AJ.tc,.slice AJ.ga r.got.length AJ.gc,.slice AJ.sa r.ak.length AJ.sc,.bool r.wed,.bool r.aB,.int .i64 r.aC,.slice AJ.ma r.aA.length AJ.mc] 44)=W5 at *;clear d0 d1 d2 d3 d4 d5 d6 d7 jP hlk;have T:∀ {x v},W5.cell? x=some v→∀ q:Bk W5,q.w.cell? x=some v:=fun h q=>(q.h.cell (World.block_lt_of_cell? _ _ h)).trans h
   have x4:=mG.out.at 4 (v:=.bool r.wed) rfl;have p3:=T (mG.out.at 3 (v:=.slice AJ.sa r.ak.length AJ.sc) rfl);obtain⟨Ai,⟨⟨_,_,_,d3⟩,_⟩,uY⟩:=(HM.out.step iw.out).row Ah.out Mc.out;have q3:=T d3;have CO:=fun q:Bk W5=>kL.out q.w (iw.out.trans (q.h.mono iw.out.size))
   have CA:=fun q:Bk W5=>(Lp AJ.sa Ai.sa AJ.sc Ai.sc r.ak (ah m.rows i).ak q.w (Us.out.below q.h (Nat.le_refl _)) (uY.ak.below q.h (Nat.le_refl _)) yN.out HSo.out).mono (fun e w' h=>(⟨h.1,h.2 ▸ Below.refl _ _⟩:e=.returned (.bool ((ah m.rows i).ak.all (fun x=>decide (x∈r.ak))))∧Below q.w.heap.size q.w w'))
   clear uY d3
   cases hwd:r.wed with
   | false =>
    rw[hwd] at x4;have p4:=T x4;have HN:Hid (iH m.rows (ah m.rows i) L=false):=HF.out (by rw[hwd];rfl)
    clear HT HF T x4 p3 q3 CO CA;go_wp2_with fail
    refine eU ?_;repeat (go_big_quiet_step ((first|rfl)))
    refine wpQuiet_nil (dK fun wE aJ=>?_)
    have HB1:=aj (iw.out.trans (aJ.mono iw.out.size));clear aJ p4;go_wp2;go_ret
    exact⟨by first|(rw[HN.out];done)|(have h:=HN.out;simp only[h];done)|simp[HN.out],HB1.out⟩
   | true =>
    rw[hwd] at x4;have p4:=T x4;rw[hwd] at HT HF
    cases hin:(ah m.rows i).ak.all (fun x=>decide (x∈r.ak)) with
    | true =>
     rw[hin] at CA;have HN:Hid _:=HT.out (by rw[hin];rfl)
     clear HT HF T x4 hin hwd;go_wp2_with fail
     refine eU ?_;repeat (go_big_quiet_step ((first|(go_at_call 140;exact aQ _ (CO _))|(go_at_call 192;exact aQ _ (CA _))|rfl)))
     refine wpQuiet_nil (dK fun wE aJ=>?_)
     have HB1:=aj (iw.out.trans (aJ.mono iw.out.size));clear aJ p4 p3 q3 CO CA;go_wp2;go_roundw
     case rel=>exact⟨k+1,by omega,by go_num,HN,HB1.out⟩
     case measure=>simp[intOf];omega
    | false =>
     rw[hin] at CA;have HN:Hid (iH m.rows (ah m.rows i) L=false):=HF.out (by rw[hin];rfl)
     clear HT HF T x4 hin hwd;go_wp2_with fail
     refine eU ?_;repeat (go_big_quiet_step ((first|(go_at_call 140;exact aQ _ (CO _))|(go_at_call 192;exact aQ _ (CA _))|rfl)))
     refine wpQuiet_nil (dK fun wE aJ=>?_)
     have HB1:=aj (iw.out.trans (aJ.mono iw.out.size));clear aJ p4 p3 q3 CO CA;go_wp2;go_ret
     exact⟨by first|(rw[HN.out];done)|(have h:=HN.out;simp only[h];done)|simp[HN.out],HB1.out⟩
  ·have k1:¬ ((k:Int)<(L.length:Int)):=by omega
   have HN:Hid (iH m.rows (ah m.rows i) L=true):=by
    have:=HA.out;rw[show k=L.length by omega,List.take_length] at this
    exact this
   clear HA hb;go_wp2;go_ret
   exact⟨by first|(rw[HN.out];done)|(have h:=HN.out;simp only[h];done)|simp[HN.out],HB.out⟩
theorem ah0 (w0:World) (B:Nat) (m:Mb) (i n:Nat) (fp:Fp) (g off c:Nat) (X:World) (M:Iw w0 X B m fp g off c) (ok:OkW m i n) (L:List Nat) (la:Option Addr) (lc:Nat) (hv:Vec X la (lN L).length (lN L)) (hLn:∀ k∈L,k<n) (EU:L.length≤5) :
  Calls Tryz.prog 173 #[.pointer (some ⟨B,0,none⟩),.slice la L.length lc] X fun e w'=>e=.returned (.bool (ends m.rows i (ah m.rows i) L))∧Below X.heap.size X w':=by
 have fG:=ok.n5;have HM:=aj M;have HLn:=aj ok.len;have hml:m.rows.length≤5:=by rw[ok.len];exact fG.2
 have cO:=aj ok.ok;have Ah:=aj ok.fit;have HId:=aj ok.hid;have Mc:Hid (i<m.rows.length):=by rw[Hid,ok.len];exact ok.lt
 have HL:=aj hLn;have HV:=aj hv
 have kL:Hid (∀ Y,Below X.heap.size X Y→Calls Tryz.prog 140 #[.pointer (some ⟨B,0,none⟩)] Y fun e w'=>e=.returned (.pointer (some ⟨g,off+i*8,none⟩))∧Below Y.heap.size Y w'):=fun Y hY=>by
  have M1:=M.step hY;obtain⟨c0,_⟩:=M1.id';rw[ok.hid] at c0;exact jQ B i m.rows.length g off c Y c0 M1.rws Mc.out
 have hO:=kL.out X (Below.refl _ _);clear M hv hLn;go_enter Tryz.func173,Tryz.ntmps173
 go_wp2_with fail
 refine hO.mono ?_;rintro e XA ⟨rfl,mW⟩;have HXA:=aj mW;clear hO mW;go_wp2_with fail
 go_loopw [13] (fun v wr=>∃ k:Nat,k≤L.length∧v=.int .i64 (k:Int)∧Hid ((L.take k).all (fun k=>(ah m.rows k).aB&&(decide ((ah m.rows k).aC=(ah m.rows i).aC)&&(decide ((ah m.rows k).aA=(ah m.rows i).aA)&&decide ((i:Int)∉(ah m.rows k).ak))))=true)∧Below X.heap.size X wr) (fun v _=>L.length-(intOf v).toNat)
 case atStart=>exact⟨0,Nat.zero_le _,rfl,rfl,HXA.out⟩
 case round =>
  obtain⟨k,hk,rfl,HA,hb⟩:=hrel;have HB:=aj hb;by_cases hlt:k<L.length
  ·have l9:L.getD k 0<n:=HL.out _ (jq hlt)
   have pK:L.getD k 0<m.rows.length:=by rw[HLn.out];exact l9
   rcases (HV.out.below hb (Nat.le_refl _)).2.2 with hz|⟨lb,lo,hla,hlc⟩
   ·rw[eP] at hz;omega
   have hlk:=hlc k (by rw[eP];exact hlt)
   rw[rX hlt] at hlk;obtain⟨AJ,⟨⟨d0,d1,d2,d3⟩,d4,d5,d6,d7⟩,hrs⟩:=(HM.out.step hb).row Ah.out pK;have jP:=(HM.out.step hb).rws;have HT:Hid (((ah m.rows (L.getD k 0)).aB&&(decide ((ah m.rows (L.getD k 0)).aC=(ah m.rows i).aC)&&(decide ((ah m.rows (L.getD k 0)).aA=(ah m.rows i).aA)&&decide ((i:Int)∉(ah m.rows (L.getD k 0)).ak))))=true→(L.take (k+1)).all (fun k=>(ah m.rows k).aB&&(decide ((ah m.rows k).aC=(ah m.rows i).aC)&&(decide ((ah m.rows k).aA=(ah m.rows i).aA)&&decide ((i:Int)∉(ah m.rows k).ak))))=true):=fun h=>IC (d:=0) hlt HA.out h
   have HF:Hid (((ah m.rows (L.getD k 0)).aB&&(decide ((ah m.rows (L.getD k 0)).aC=(ah m.rows i).aC)&&(decide ((ah m.rows (L.getD k 0)).aA=(ah m.rows i).aA)&&decide ((i:Int)∉(ah m.rows (L.getD k 0)).ak))))=false→ends m.rows i (ah m.rows i) L=false):=fun h=>O7 (d:=0) hlt h
   have yN:Hid ((ah m.rows (L.getD k 0)).ak.length≤maxLen):=by have h:=cO.out _ l9;have:=h.sl;have:=h.n5;unfold maxLen;rw[Hid];omega
   have oK:Hid ((ah m.rows (L.getD k 0)).aA.length≤maxLen):=by have h:=cO.out _ l9;have:=h.ml;have:=h.n5;unfold maxLen;rw[Hid];omega
   have HSo:Hid ((ah m.rows i).ak.length≤maxLen):=by have h:=cO.out i (by rw[← HLn.out];exact Mc.out);have:=h.sl;have:=h.n5;unfold maxLen;rw[Hid];omega
   generalize L.getD k 0=J at *;have k1:(k:Int)<(L.length:Int):=by omega
   have k0:(0:Int)≤(k:Int):=by omega
   have J0:(0:Int)≤(J:Int):=by omega
   have J1:(J:Int)<(m.rows.length:Int):=by omega
   generalize ah m.rows J=r at *;have hba:=aF wr (.cells #[.int .i64 r.ver,.slice AJ.ta r.txt.length AJ.tc,.slice AJ.ga r.got.length AJ.gc,.slice AJ.sa r.ak.length AJ.sc,.bool r.wed,.bool r.aB,.int .i64 r.aC,.slice AJ.ma r.aA.length AJ.mc] 44);have hxr:=Bx.new wr 44 #[.int .i64 r.ver,.slice AJ.ta r.txt.length AJ.tc,.slice AJ.ga r.got.length AJ.gc,.slice AJ.sa r.ak.length AJ.sc,.bool r.wed,.bool r.aB,.int .i64 r.aC,.slice AJ.ma r.aA.length AJ.mc];have iw:=aj (HB.out.trans (hba.mono HB.out.size));have mG:=aj hxr;have Us:=aj (hrs.ak.below hba (Nat.le_refl _));have HTv:=aj (hrs.aA.below hba (Nat.le_refl _));rw[hla];have ZB:=aj hla;clear hrs hb hlc hba hxr hla;go_upto_region 6 with fail
   generalize wr.alloc (.cells #[.int .i64 r.ver,.slice AJ.ta r.txt.length AJ.tc,.slice AJ.ga r.got.length AJ.gc,.slice AJ.sa r.ak.length AJ.sc,.bool r.wed,.bool r.aB,.int .i64 r.aC,.slice AJ.ma r.aA.length AJ.mc] 44)=W5 at *;clear d0 d1 d2 d3 d4 d5 d6 d7 jP hlk;have T:∀ {x v},W5.cell? x=some v→∀ q:Bk W5,q.w.cell? x=some v:=fun h q=>(q.h.cell (World.block_lt_of_cell? _ _ h)).trans h
   have p5:=T (mG.out.at 5 (v:=.bool r.aB) rfl);have p6:=T (mG.out.at 6 (v:=.int .i64 r.aC) rfl);have p7:=T (mG.out.at 7 (v:=.slice AJ.ma r.aA.length AJ.mc) rfl);have p3:=T (mG.out.at 3 (v:=.slice AJ.sa r.ak.length AJ.sc) rfl);obtain⟨Ai,⟨⟨_,_,_,_⟩,_,_,d6,d7⟩,uY⟩:=(HM.out.step iw.out).row Ah.out Mc.out;have q6:=T d6;have q7:=T d7;obtain⟨c0,_⟩:=(HM.out.step iw.out).id';rw[HId.out] at c0;have p0:=T c0;have CE:=fun q:Bk W5=>(tV AJ.ma Ai.ma r.aA.length AJ.mc (ah m.rows i).aA.length Ai.mc r.aA (ah m.rows i).aA q.w (HTv.out.below q.h (Nat.le_refl _)) (uY.aA.below q.h (Nat.le_refl _)) oK.out).mono (fun e w' h=>(⟨h.1,by obtain⟨_,n1,rfl⟩:=h;exact bg (Below.refl _ _)⟩:e=.returned (.bool (decide (r.aA=(ah m.rows i).aA)))∧Below q.w.heap.size q.w w'))
   have CC:=fun q:Bk W5=>(oV AJ.sa AJ.sc r.ak (i:Int) q.w (Us.out.below q.h (Nat.le_refl _)) yN.out).mono (fun e w' h=>(⟨h.1,h.2 ▸ Below.refl _ _⟩:e=.returned (.bool (decide ((i:Int)∈r.ak)))∧Below q.w.heap.size q.w w'))
   clear uY d6 d7 c0 T
   cases hrd:r.aB with
   | false =>
    rw[hrd] at p5;have HN:Hid (ends m.rows i (ah m.rows i) L=false):=HF.out (by rw[hrd];rfl)
    clear HT HF hrd;go_wp2_with fail
    refine eU ?_;repeat (go_big_quiet_step ((first|rfl)))
    refine wpQuiet_nil (dK fun wE aJ=>?_)
    have HB1:=aj (iw.out.trans (aJ.mono iw.out.size));clear aJ p5 p6 p7 p3 q6 q7 p0 CE CC;go_wp2;go_ret
    exact⟨by first|(rw[HN.out];done)|(have h:=HN.out;simp only[h];done)|simp[HN.out],HB1.out⟩
   | true =>
    rw[hrd] at p5 HT HF;clear hrd;by_cases hby:r.aC=(ah m.rows i).aC;rotate_left
    ·have e1:(r.aC != (ah m.rows i).aC)=true:=by simp[hby]
     have HN:Hid (ends m.rows i (ah m.rows i) L=false):=HF.out (by rw[decide_eq_false hby];rfl)
     clear HT HF hby;go_wp2_with fail
     refine eU ?_;repeat (go_big_quiet_step ((first|rfl)))
     refine wpQuiet_nil (dK fun wE aJ=>?_)
     have HB1:=aj (iw.out.trans (aJ.mono iw.out.size));clear aJ p5 p6 p7 p3 q6 q7 p0 CE CC;go_wp2;go_ret
     exact⟨by first|(rw[HN.out];done)|(have h:=HN.out;simp only[h];done)|simp[HN.out],HB1.out⟩
    have e1:(r.aC != (ah m.rows i).aC)=false:=by simp[hby]
    rw[decide_eq_true hby] at HT HF;clear hby;by_cases J5:r.aA=(ah m.rows i).aA;rotate_left
    ·rw[decide_eq_false J5] at CE
     have HN:Hid (ends m.rows i (ah m.rows i) L=false):=HF.out (by rw[decide_eq_false J5];rfl)
     clear HT HF J5;go_wp2_with fail
     refine eU ?_;repeat (go_big_quiet_step ((first|(go_at_call 176;exact aQ _ (CE _))|rfl)))
     refine wpQuiet_nil (dK fun wE aJ=>?_)
     have HB1:=aj (iw.out.trans (aJ.mono iw.out.size));clear aJ p5 p6 p7 p3 q6 q7 p0 CE CC;go_wp2;go_ret
     exact⟨by first|(rw[HN.out];done)|(have h:=HN.out;simp only[h];done)|simp[HN.out],HB1.out⟩
    rw[decide_eq_true J5] at CE HT HF;clear J5;by_cases hin:(i:Int)∈r.ak
    ·rw[decide_eq_true hin] at CC
     have HN:Hid (ends m.rows i (ah m.rows i) L=false):=HF.out (by rw[decide_eq_false (fun h=>h hin)];rfl)
     clear HT HF hin;go_wp2_with fail
     refine eU ?_;repeat (go_big_quiet_step ((first|(go_at_call 176;exact aQ _ (CE _))|(go_at_call 88;exact aQ _ (CC _))|rfl)))
     refine wpQuiet_nil (dK fun wE aJ=>?_)
     have HB1:=aj (iw.out.trans (aJ.mono iw.out.size));clear aJ p5 p6 p7 p3 q6 q7 p0 CE CC;go_wp2;go_ret
     exact⟨by first|(rw[HN.out];done)|(have h:=HN.out;simp only[h];done)|simp[HN.out],HB1.out⟩
    rw[decide_eq_false hin] at CC;have HN:Hid _:=HT.out (by rw[decide_eq_true hin];rfl)
    clear HT HF hin;go_wp2_with fail
    refine eU ?_;repeat (go_big_quiet_step ((first|(go_at_call 176;exact aQ _ (CE _))|(go_at_call 88;exact aQ _ (CC _))|rfl)))
    refine wpQuiet_nil (dK fun wE aJ=>?_)
    have HB1:=aj (iw.out.trans (aJ.mono iw.out.size));clear aJ p5 p6 p7 p3 q6 q7 p0 CE CC;go_wp2;go_roundw
    case rel=>exact⟨k+1,by omega,by go_num,HN,HB1.out⟩
    case measure=>simp[intOf];omega
  ·have k1:¬ ((k:Int)<(L.length:Int)):=by omega
   have HN:Hid (ends m.rows i (ah m.rows i) L=true):=by
    have:=HA.out;rw[show k=L.length by omega,List.take_length] at this
    exact this
   clear HA hb;go_wp2;go_ret
   exact⟨by first|(rw[HN.out];done)|(have h:=HN.out;simp only[h];done)|simp[HN.out],HB.out⟩
end Go.Proofs.YtafimeakbdmkjaaGreat