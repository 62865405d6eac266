/-
  Texts in one.
-/
import Derived.Test.YtafimeakbdmkjaaGreatZaa
import Derived.Test.YtafimeakbdmkjaaGreatZab
import Derived.Test.YtafimeakbdmkjaaGreatZak
import Derived.Test.YtafimeakbdmkjaaGreatZae
import Derived.Deep.CutRange
import Derived.Deep.Cut
import Derived.Deep.RegionHeld3
namespace Go.Proofs.YtafimeakbdmkjaaGreat
set_option linter.unusedVariables false
set_option linter.unusedSimpArgs false
open Go.RowKit Go.Sort
set_option maxRecDepth 100000
set_option maxHeartbeats 12800000
section
def jK (l:List UInt8):List Value:=l.map (fun b=>Value.int .u8 (b.toNat:Int))
theorem aa6 (a b:List UInt8):jK (a++b)=jK a++jK b:=by simp[jK]
theorem Om (l:List UInt8):(jK l).length=l.length:=by simp[jK]
def xQ (w:World) (g off n cap:Nat) (l:List UInt8):Prop:=fA w 1 g off n cap (jK l)
theorem xQ.length {w:World} {g off n cap:Nat} {l:List UInt8} (h:xQ w g off n cap l):l.length=n:=by have:=h.len;rw[Om] at this;omega
theorem xQ.cellAt {w:World} {g off n cap:Nat} {l:List UInt8} (h:xQ w g off n cap l) {i:Nat} (hi:i<l.length):w.cell? ⟨g,off+i,none⟩=some (.int .u8 (l[i].toNat:Int)):=by
 have hl:=h.length;rw[h.cell i (by omega)]
 simp[jK,hi]
theorem Tm (w:World) (T:TypeId):xQ (w.alloc (.cells #[] T)) w.heap.size 0 0 0 [] :=
 ⟨rfl,Nat.le_refl _,Nat.zero_le _,by simp,fun i hi=>by omega,fun i hi=>by omega,fun i hi=>by omega⟩
theorem aa7 {w:World} {g off n m cap:Nat} {l r:List UInt8} (h:fA w 1 g off (n+m) cap (jK l++jK r)):xQ w g off (n+m) cap (l++r):=by unfold xQ;rw[aa6];exact h
theorem xQ.set {w:World} {g off n cap:Nat} {l:List UInt8} (h:xQ w g off n cap l) {i:Nat} (hi:i<n) (b:UInt8):xQ (w.setCell ⟨g,off+i,none⟩ (.int .u8 (b.toNat:Int))) g off n cap (l.set i b):=by
 have hl:=h.length;have hc:=h.cellAt (i:=i) (by omega)
 refine⟨by rw[Om];simp[hl],h.le,h.max,by simp[World.setCell];exact h.blk,fun j hj=>?_,fun j hj=>?_,fun j hj=>by rw[World.frozen?_setCell];exact h.free j hj⟩
 ·by_cases e:i=j
  ·subst e
   rw[World.cell?_setCell_same _ _ _ hc];simp[jK,show i<l.length by omega]
  ·rw[World.cell?_setCell_other _ _ _ _ (by simp[e]),h.cell j hj]
   simp[jK,e]
 ·by_cases e:i=j
  ·subst e
   rw[World.cell?_setCell_same _ _ _ hc];rfl
  ·rw[World.cell?_setCell_other _ _ _ _ (by simp[e])];exact h.some j hj
theorem xQ.str {w:World} {g off cap:Nat} {l:List UInt8} (h:xQ w g off l.length cap l):(convert 22 9 (.slice (some ⟨g,off,none⟩) l.length cap)).run Tryz.prog w=.ok (.string (sv l)) w :=
 run_convert_bytes_back (P:=Tryz.prog) w 22 9 5 ⟨g,off,none⟩ cap l Tryz.underlying22 Tryz.underlying5 Tryz.underlying9 (fun j hj=>by rw[vX];exact h.cellAt hj)
structure Lb (w wr:World) (p:Nat) (a:Option Addr) (len cap g f c:Nat) (l:List UInt8):Prop where
 out:xQ wr g f l.length c l
 new:w.heap.size≤g
 cur:fK wr p a len cap
 grown:w.grownBy wr (some p)
theorem Lb.step {w wr wx:World} {p:Nat} {a:Option Addr} {len cap g f c:Nat} {l:List UInt8} (h:Lb w wr p a len cap g f c l) (hpl:p<w.heap.size) (hc:fK wx p a len cap) (hg:wr.grownBy wx (some p)):Lb w wx p a len cap g f c l :=
 ⟨fA.grown h.out hg (by have:=h.new;simp;omega),h.new,hc,bf h.grown hg⟩
theorem Lb.uS {w wr:World} {p:Nat} {a:Option Addr} {len cap g f c:Nat} {l:List UInt8} {bs:Nat→Int} (h:Lb w wr p a len cap g f c l) (hv:kW w a len bs) (hp:Az a len p):kW wr a len bs:=hv.grown h.grown hp
theorem Lb.push {w wr w6:World} {p:Nat} {a:Option Addr} {len cap g f c g6 f6 c6:Nat} {l r:List UInt8} (h:Lb w wr p a len cap g f c l) (hpl:p<w.heap.size) (o:Obj) (hO:fA w6 1 g6 f6 (l.length+r.length) c6 (jK l++jK r)) (hg:(wr.alloc o).grownBy w6 (some g)) (hat:g6=g∨g6=(wr.alloc o).heap.size):Lb w w6 p a len cap g6 f6 c6 (l++r):=by
 have hs:=h.grown.size;have hn:=h.new;refine⟨by rw[List.length_append];exact aa7 hO, ?_, ?_, ?_⟩
 ·rcases hat with e|e
  ·rw[e];exact h.new
  ·rw[e];simp;omega
 ·exact (h.cur.alloc o).grown hg (by simp;omega)
 ·exact vH (vH h.grown (World.grownBy_alloc wr o none) (by simp)) hg (fun k hk=>by cases hk;exact h.new)
theorem Lb.set {w wr:World} {p:Nat} {a:Option Addr} {len cap g f c i:Nat} {l:List UInt8} (h:Lb w wr p a len cap g f c l) (hpl:p<w.heap.size) (hi:i<l.length) (b:UInt8):Lb w (wr.setCell ⟨g,f+i,none⟩ (.int .u8 (b.toNat:Int))) p a len cap g f c (l.set i b) :=
 ⟨by rw[List.length_set];exact h.out.set hi b,h.new,h.cur.set (by have:=h.new;omega) _ _,AA h.grown h.new _ _⟩
theorem YV {x:Int} (h0:0≤x) (h1:x≤255):((UInt8.ofNat x.toNat).toNat:Int)=x:=by rw[UInt8.toNat_ofNat'];omega
attribute [local irreducible] sv
theorem KR (p:Nat) (a:Option Addr) (len cap:Nat) (bs:Nat→Int) (most:Nat) (w:World) (hcur:fK w p a len cap) (hv:kW w a len bs) (hp:Az a len p) (hl:len≤4096) (aB9:most≤1000) :
  Calls Tryz.prog 64 #[.pointer (some ⟨p,0,none⟩),.int .i64 (most:Int)] w fun e w'=>∃ l:List UInt8,l.length≤most∧e=.returned (.string (sv l))∧fK w' p a len cap∧w.grownBy w' (some p):=by
 obtain⟨i0,hi0,hz0,hz1,hz2⟩:=info_parts Tryz.info5;have hpl:=hcur.lt;have L0:Lb w (w.alloc (.cells #[] 5)) p a len cap w.heap.size 0 0 []:=⟨Tm w 5,Nat.le_refl _,hcur.alloc _,World.grownBy_alloc w _ _⟩;go_enter Tryz.func64,Tryz.ntmps64
 go_wp2_with fail
 refine (kY p a len cap bs ((most:Int)+1) _ L0.cur (L0.uS hv hp) hp hl (by omega)).mono ?_
 rintro e w1 ⟨x,rfl,hx0,hx1,_,hc1,hg1⟩;have hxm:=hx1 (by omega)
 obtain⟨N,hN⟩:∃ N:Nat,x=(N:Int):=⟨x.toNat,by omega⟩
 subst hN;have uI:=aj (L0.step hpl hc1 hg1);clear L0 hx0 hx1 hc1 hg1;go_wp2
 go_loopw [5,6] (fun b n wr=>∃ (l:List UInt8) (g f c M:Nat),n=.int .i64 (M:Nat)∧b=.slice (some ⟨g,f,none⟩) l.length c∧l.length+M≤most∧Lb w wr p a len cap g f c l) (fun _ n _=>(intOf n).toNat)
 case atStart=>exact⟨[],w.heap.size,0,0,N,rfl,rfl,by simp;omega,uI.out⟩
 case round =>
  obtain⟨l,g,f,c,M,rfl,rfl,hlm,hL⟩:=hrel;have KL:=aj hL;clear hL uI;rcases Nat.eq_zero_or_pos M with h0|hpos
  ·subst h0
   go_wp2_with fail
   refine (zk p a len cap bs 7 wr KL.out.cur (KL.out.uS hv hp) hp hl (by omega)).mono ?_
   rintro e w2 ⟨x,rfl,hc2,hg2⟩;have K2:=aj (KL.out.step hpl hc2 hg2);clear hc2 hg2;by_cases hx:x=true∧0<l.length
   ·obtain⟨rfl,hlp⟩:=hx
    have DI:(0:Int)<(l.length:Int):=by omega
    go_wp2_with fail
    refine (kY p a len cap bs (l.length:Int) w2 K2.out.cur (K2.out.uS hv hp) hp hl (by omega)).mono ?_
    rintro e w3 ⟨y,rfl,hy0,hy1,_,hc3,hg3⟩;have hyl:=hy1 (by omega)
    obtain⟨k,hk⟩:∃ k:Nat,y=(k:Int):=⟨y.toNat,by omega⟩
    subst hk;have K3:=aj (K2.out.step hpl hc3 hg3);clear hy0 hy1 hc3 hg3;go_wp2_with fail
    refine (sO p a len cap bs w3 K3.out.cur (K3.out.uS hv hp) hp hl).mono ?_;rintro e w4 ⟨z,rfl,az1,av8,hc4,hg4⟩;have K4:=aj (K3.out.step hpl hc4 hg4);have hkl:k<l.length:=by omega
    have c1:=K4.out.out.cellAt hkl;have f1:=K4.out.out.free k (by have:=K4.out.out.le;omega)
    have K5:=K4.out.set hpl hkl (UInt8.ofNat z.toNat);rw[YV az1 av8] at K5;have hstr:=K5.out.str;rw[List.length_set] at hstr;have hyi:(0:Int)≤(k:Int):=by omega
    have K5':Hid (fK (w4.setCell ⟨g,f+k,none⟩ (.int .u8 z)) p a len cap∧w.grownBy (w4.setCell ⟨g,f+k,none⟩ (.int .u8 z)) (some p)):=⟨K5.cur,K5.grown⟩;clear hc4 hg4 K5;go_wp2;go_ret
    exact⟨l.set k (UInt8.ofNat z.toNat),by rw[List.length_set];omega,rfl,K5'.out.1,K5'.out.2⟩
   ·have hstr:=K2.out.out.str
    have YW:Hid (fK w2 p a len cap∧w.grownBy w2 (some p)):=⟨K2.out.cur,K2.out.grown⟩
    cases x
    ·clear hx
     go_wp2;go_ret
     exact⟨l,by omega,rfl,YW.out.1,YW.out.2⟩
    ·have DI:l.length=0:=by
      rcases Nat.eq_zero_or_pos l.length with h|h
      ·exact h
      ·exact absurd ⟨rfl,h⟩ hx
     rw[DI] at hstr;rw[DI];clear hx;go_wp2;go_ret
     exact⟨l,by omega,rfl,YW.out.1,YW.out.2⟩
  ·have Tn:(0:Int)<(M:Int):=by omega
   go_wp2_with fail
   refine (kY p a len cap bs 3 wr KL.out.cur (KL.out.uS hv hp) hp hl (by omega)).mono ?_
   rintro e w2 ⟨x,rfl,hx0,hx1,_,hc2,hg2⟩;have hx3:=hx1 (by omega)
   have K2:=aj (KL.out.step hpl hc2 hg2);have hu:=YV (x:=97+x) (by omega) (by omega)
   have Hz:fA (w2.alloc (.cells #[.int .u8 (97+x)] 5)) 1 g f l.length c (jK l):=fA.below K2.out.out ((Below.refl _ _).alloc (Nat.le_refl _) _) K2.out.out.blk;clear hx1 hc2 hg2;go_wp2_with (at_builtin;refine dG _ rfl _ _ 22 rfl 5 i0 _ 1 1 Tryz.underlying22 hi0 hz0 hz1 hz2 rfl (by omega) g f l.length c _ rfl Hz ⟨w2.heap.size,0,none⟩ 1 1 [.int .u8 (97+x)] rfl rfl (World.news_of_block (cs:=#[.int .u8 (97+x)]) (t:=5) (fr:=(0,0)) (heap_alloc_new _ _)) (by simp[Value.oneCell']) (by unfold maxLen;omega) (by omega) ?_;intro g6 f6 c6 w6 yP vk tu)
   have hO7:fA w6 1 g6 f6 (l.length+[UInt8.ofNat (97+x).toNat].length) c6 (jK l++jK [UInt8.ofNat (97+x).toNat]):=by
    have e:jK [UInt8.ofNat (97+x).toNat]=[.int .u8 (97+x)]:=by simp only[jK,List.map_cons,List.map_nil,hu]
    rw[e];exact yP
   have K7:=K2.out.push hpl _ hO7 vk tu;go_roundw
   case rel=>exact⟨l++[UInt8.ofNat (97+x).toNat],g6,f6,c6,M-1,by go_num,by rw[List.length_append];rfl,by rw[List.length_append];simp;omega,K7⟩
   case measure=>simp[intOf];omega
end
section
theorem zD (most:Nat) (n:Int) (hn:n=(most:Int)) (hm:most≤1000) {w X:World} {p:Nat} {a:Option Addr} {len cap:Nat} {bs:Nat→Int} (h:Cc w X p a len cap bs) :
  Calls Tryz.prog 64 #[.pointer (some ⟨p,0,none⟩),.int .i64 n] X fun e w'=>∃ l:List UInt8,e=.returned (.string (sv l))∧l.length≤most∧Cc w w' p a len cap bs∧X.grownBy w' (some p):=by
 subst hn;refine (KR p a len cap bs most X h.cur h.uS h.off h.hl hm).mono ?_;rintro e w' ⟨l,h1,rfl,hc,hg⟩;exact⟨l,rfl,h1,h.drawn hg hc,hg⟩
theorem Fb {T:List (List UInt8)} {s:List UInt8} {n:Nat} (h:(∀ i,i<T.length→(T.getD i []).length≤n)) (hs:s.length≤n):∀ i,i<(T++[s]).length→((T++[s]).getD i []).length≤n:=fun i hi=>by
 rw[List.length_append,List.length_singleton] at hi;by_cases e:i<T.length
 ·have:=h i e
  simpa[List.getD_eq_getElem?_getD,List.getElem?_append_left e] using this
 ·obtain rfl:i=T.length:=by omega
  simpa[List.getD_eq_getElem?_getD] using hs
theorem VT (n:Nat) (hn:n≤1048576) (w:World) :
  (Instr.makeSlice 22 (.int .i64 (n:Int)) (.int .i64 (n:Int))).run Tryz.prog w=.ok (.slice (some ⟨w.heap.size,0,none⟩) n n) (w.alloc (.cells (madeCells #[.int .u8 0] n) 5)):=by
 obtain⟨i,hi,hz,hs,hb⟩:=pW Tryz.info5;have hr:=run_make (P:=Tryz.prog) w 22 5 i _ Tryz.underlying22 hi hz .i64 .i64 n n (by omega) (Int.le_refl _) (by rw[hb];omega) (by omega)
 simp only[Int.toNat_natCast,hs,Nat.mul_one] at hr;exact hr
theorem VU (w:World) (n:Nat) (hn:n≤1048576):(convert 22 9 (.slice (some ⟨w.heap.size,0,none⟩) n n)).run Tryz.prog (w.alloc (.cells (madeCells #[.int .u8 0] n) 5))=.ok (.string (sv (List.replicate n 0))) (w.alloc (.cells (madeCells #[.int .u8 0] n) 5)):=by
 have h:=zn w #[.int .u8 0] 1 n 5 rfl (by omega) (by unfold maxLen;omega)
 have e:jK (List.replicate n 0)=(List.replicate n (#[Value.int .u8 0]:Array Value).toList).flatten:=by
  simp only[jK,List.map_replicate]
  clear h hn
  induction n with
  | zero=>rfl
  | succ n ih=>rw[List.replicate_succ,List.replicate_succ,List.flatten_cons,← ih];rfl
 rw[← e,Nat.mul_one] at h;have h2:xQ (w.alloc (.cells (madeCells #[.int .u8 0] n) 5)) w.heap.size 0 (List.replicate n (0:UInt8)).length n (List.replicate n 0):=by rw[List.length_replicate];exact h
 have h3:=h2.str;rw[List.length_replicate] at h3;exact h3
theorem aa8 (xs:List Int) (n:Int):(bT xs n).length≤xs.length+1:=by
 induction xs with
 | nil=>simp[bT]
 | cons x l ih =>
  unfold bT
  split
  ·simp;omega
  ·split
   ·simp
   ·simp
theorem VW {xs:List Int} {n:Int} (h:Fits xs) (hn:-9223372036854775808≤n∧n≤9223372036854775807):Fits (bT xs n):=fun x hx=>by
 rcases jS.1 hx with e|e
 ·rw[e];exact hn
 ·exact h x e
theorem Tq (n:Int):(gB n).ak.length=0:=by
 unfold gB
 split<;>rfl
theorem VX (n:Int):pO (gB n)∧(gB n).txt.length=0:=by
 unfold gB
 split
 ·rename_i h
  have:=dP.1 h;exact⟨⟨by simp,by simp,fun i hi=>by simp at hi,by simp;omega,fun x hx=>by have:=List.eq_of_mem_replicate hx;omega,by simp,fun x hx=>absurd hx List.not_mem_nil,by simp,fun x hx=>absurd hx List.not_mem_nil,by simp⟩,rfl⟩
 ·exact⟨⟨by simp[jH],by simp[jH],fun i hi=>by simp[jH] at hi,by simp[jH],fun x hx=>absurd hx List.not_mem_nil,by simp[jH],fun x hx=>absurd hx List.not_mem_nil,by simp[jH],fun x hx=>absurd hx List.not_mem_nil,by simp[jH]⟩,rfl⟩
attribute [local irreducible] sv
theorem zF (N:Nat) (n:Int) (hN:n=(N:Int)) (Oo:N≤5) {w X:World} {p:Nat} {a:Option Addr} {len cap:Nat} {bs:Nat→Int} (h:Cc w X p a len cap bs) :
  Calls Tryz.prog 63 #[.pointer (some ⟨p,0,none⟩),.int .i64 n] X fun e X'=>∃ (A:Ra) (r:Rw) (fp:Fp),e=.returned (bV A r)∧pO r∧bG X' (fM r) (fC A r) fp∧(∀ b,fp b→X.heap.size≤b)∧Cc w X' p a len cap bs∧X.grownBy X' (some p):=by
 subst hN;have bH:Tryz.prog.follows .mixedOrders=true:=by kernel_rfl
 obtain⟨i0,hi0,hz0,hz1,hz2⟩:=pW Tryz.info9;have b1:=aF X (.cells #[.int .i64 0,.slice none 0 0,.slice none 0 0,.slice none 0 0,.bool false,.bool false,.int .i64 0,.slice none 0 0] 44);have c1:=h.step b1;have HR:Hid (Bx (X.alloc (.cells #[.int .i64 0,.slice none 0 0,.slice none 0 0,.slice none 0 0,.bool false,.bool false,.int .i64 0,.slice none 0 0] 44)) X.heap.size 44 #[.int .i64 0,.slice none 0 0,.slice none 0 0,.slice none 0 0,.bool false,.bool false,.int .i64 0,.slice none 0 0]):=Bx.new _ _ _;have hpl:=h.lt;have hC:=Jm (N:Int) (X.alloc (.cells #[.int .i64 0,.slice none 0 0,.slice none 0 0,.slice none 0 0,.bool false,.bool false,.int .i64 0,.slice none 0 0] 44));obtain⟨hsm,ht0⟩:=VX (N:Int);have hu0:=Tq (N:Int);generalize gB (N:Int)=r0 at *;have HT0:Hid (r0.txt.length=0∧r0.ak.length=0):=⟨ht0,hu0⟩;clear ht0 hu0;unfold I4 bV bD at hC;have xM:Hid (Cc w _ p a len cap bs):=c1;have HB1:Hid (Below X.heap.size X _):=b1;clear c1 b1;go_enter Tryz.func63,Tryz.ntmps63
 go_wp2_with fail
 refine hC.mono ?_;rintro e X2 ⟨A0,rfl,BD,ho0,hf0,hb0⟩
 have R0:RD w X (X2.alloc (.cells #[.int .i64 r0.ver,.slice A0.ta r0.txt.length A0.tc,.slice A0.ga r0.got.length A0.gc,.slice A0.sa r0.ak.length A0.sc,.bool r0.wed,.bool r0.aB,.int .i64 r0.aC,.slice A0.ma r0.aA.length A0.mc] 44)) p a len cap bs X2.heap.size mD A0 r0 BD:=by
  have hs2:=hb0.size;rw[World.size_alloc] at hs2;have hb3:=aF X2 (.cells (bD A0 r0) 44);exact⟨(xM.out.step hb0).step hb3,(HR.out.below hb0).below hb3,Bx.new _ _ _,bM ho0 hb3,fun b hb=>⟨by have:=hf0 b hb;rw[World.size_alloc] at this;omega,by have:=eX ho0 b hb;omega⟩,hpl,by omega,bf (World.grownBy_alloc X _ _) (bf ⟨hb0.os,hb0.tape,hb0.output,hb0.size,fun x hx _=>hb0.block x hx⟩ (World.grownBy_alloc _ _ _))⟩
 have hB1:=fQ 6 6 rfl R0.cc (by omega) (by omega)
 have HR0:=aj R0;clear R0 hC xM HB1 HR ho0 hf0 hb0;go_wp2_with fail
 refine hB1.mono ?_;rintro e Y1 ⟨v,rfl,hv,c2,g1⟩;have R1:=HR0.out.drawn g1 c2;obtain⟨⟨x0,_⟩,_⟩:=R1.c8;have x1:=R1.fo 0;have R2:=R1.ver (v:Int);have hB2:=fQ 4 4 rfl R2.cc (by omega) (by omega)
 obtain⟨r1,hr1⟩:∃ r1:Rw,Hid (r1={ r0 with ver:=(v:Int) }):=⟨_,rfl⟩
 have HR2:Hid (RD w X (Y1.setCell ⟨X2.heap.size,0,none⟩ (.int .i64 (v:Int))) p a len cap bs X2.heap.size mD A0 r1 BD):=by rw[hr1.out];exact R2
 have HS2:Hid (pO r1):=by rw[hr1.out];exact⟨by simp only;omega,hsm.tl,hsm.ts,hsm.gl,hsm.gf,hsm.sl,hsm.sf,hsm.ml,hsm.mf,hsm.jK⟩
 have HT2:Hid (r1.txt.length=0∧r1.ak.length=0):=by rw[hr1.out];exact HT0.out
 clear R1 R2 hB1 c2 g1 HR0 hsm HT0;go_wp2_with fail
 refine hB2.mono ?_;rintro e Y2 ⟨m,rfl,hm,c3,g2⟩;have HR3:=aj (HR2.out.drawn g2 c3);clear hB2 c3 g2 HR2 x0 x1;clear hr1;generalize X2.heap.size=o at *;go_wp2_with fail
 go_loopw [6] (fun i wr=>∃ (k:Nat) (A:Ra) (r:Rw) (fp:Fp),k≤m∧i=.int .i64 k∧RD w X wr p a len cap bs o mD A r fp∧pO r∧r.txt.length+k≤3∧r.ak.length=0) (fun i _=>(intOf i).toNat)
 case atStart=>exact⟨m,A0,r1,BD,Nat.le_refl _,rfl,HR3.out,HS2.out,by have:=HT2.out.1;omega,HT2.out.2⟩
 case round =>
  obtain⟨k,A,r,fp,hk,rfl,hR,hS,hTk,hU⟩:=hrel;have HS:=aj hS;have HU:=aj hU;clear hS hU;by_cases hlt:0<k
  ·have k0:(0:Int)<(k:Int):=by omega
   have hR1:=hR.drewN 1;have hT:=zD 3 3 rfl (by omega) hR1.cc
   have x1:=hR.c8.1.2.1;have hlen:r.txt.length≤1000:=by omega
   have HR:=aj hR1;clear hR hR1;go_wp2_with fail
   refine jE (S:=fun X:World=>X.cell? ⟨o,1,none⟩=some (.slice A.ta r.txt.length A.tc)) 7 bH (x1) fun hHeld=>?_
   refine aY (i:=0) rfl hHeld ?_;refine aY (i:=1) rfl hHeld ?_;refine aS (i:=2) rfl ?_;refine dI (i:=3) rfl fun K hK=>?_
   go_simp
   go_at_call 64
   refine hT.mono ?_;rintro e Y3 ⟨s,rfl,hs,c4,g4⟩;have R3:=HR.out.drawn g4 c4;refine hK.out _ _ R3.c8.1.2.1 (fun wM=>?_)
   clear hK hHeld;have hHeld:=wM;try simp only[dw]
   refine dI (i:=4) rfl fun K hK=>?_
   go_simp;refine hK.out _ _ (R3.step (aF Y3 (.cells #[.string (sv s)] 9))).c8.1.2.1 (fun BF=>?_)
   clear hK hHeld;have hHeld:=BF;try simp only[dw]
   refine dI (i:=5) rfl fun K hK=>?_
   refine gQ (by rfl) _ _ _ _ (by rfl) (.slice A.ta r.txt.length A.tc) _ (by rfl) (by rfl) (R3.app i0 hi0 hz0 hz1 hz2 s hlen) ⟨rfl,rfl,rfl,rfl⟩ ?_
   rintro v' w4 ⟨a',c',rfl,q1,q2,fp',Ib⟩;refine hK.out _ _ q1 (fun KT=>?_)
   clear hK hHeld;have hHeld:=KT;try simp only[dw]
   refine aY (i:=6) rfl hHeld ?_;have HRn:=aj Ib;clear R3 Ib c4 g4 hT;refine lQ rfl fun K hK=>?_
   go_simp;refine hK.out _ _ ?_;go_wp2;go_roundw
   case rel=>exact⟨k-1,_,_,fp',by omega,by go_num,HRn.out,⟨HS.out.ver,by simp;omega,Fb HS.out.ts (by omega),HS.out.gl,HS.out.gf,HS.out.sl,HS.out.sf,HS.out.ml,HS.out.mf,HS.out.jK⟩,by simp;omega,HU.out⟩
   case measure=>simp[intOf];omega
  ·obtain rfl:k=0:=by omega
   have HR:=aj hR;have DC:Hid (r.txt.length≤3):=by rw[Hid];omega
   obtain⟨G,hG⟩:∃ G,Hid (r.got.length=G):=⟨_,rfl⟩;have az2:G≤16:=by have:=hG.out;have:=HS.out.gl;omega
   clear hR hTk hlt hk;go_wp2_with fail
   go_loopw [7] (fun i wx=>∃ (k:Nat) (A:Ra) (r:Rw) (fp:Fp),k≤G∧i=.int .i64 k∧RD w X wx p a len cap bs o mD A r fp∧pO r∧(r.txt.length≤3∧r.ak.length=0)∧r.got.length=G) (fun i _=>G-(intOf i).toNat)
   case atStart=>exact⟨0,A,r,fp,Nat.zero_le _,rfl,HR.out,HS.out,⟨DC.out,HU.out⟩,hG.out⟩
   case round =>
    clear HR HS DC hG HU;obtain⟨k,A,r,fp,hk,rfl,hR,hS,⟨hT3,hU⟩,hGl⟩:=hrel;have HU:=aj hU;clear hU;have HS:=aj hS;have HT3:=aj hT3;have zX:=aj hGl;clear hS hT3;by_cases hlt:k<G
    ·have k1:(k:Int)<(r.got.length:Int):=by omega
     have k0:(0:Int)≤(k:Int):=by omega
     have hR1:=hR.drewN 1;have hB:=fQ 4 4 rfl hR1.cc (by omega) (by omega)
     have x1:=hR.c8.1.2.2.1;have HR:=aj hR1;obtain⟨ta,tc,ga,gc,sa,sc,ma,mc⟩:=A;obtain⟨g,off,hga,_⟩:=hR.YU (show k<r.got.length by omega)
     simp only at hga
     subst hga;clear hR hR1 hGl;simp only at x1
     go_wp2_with fail
     refine jE (S:=fun X:World=>X.cell? ⟨o,2,none⟩=some (.slice (some ⟨g,off,none⟩) r.got.length gc)) 6 bH (x1) fun hHeld=>?_
     refine aY (i:=0) rfl hHeld ?_;refine aY (i:=1) rfl hHeld ?_;refine aS (i:=2) rfl ?_;refine aS (i:=3) rfl ?_;refine dI (i:=4) rfl fun K hK=>?_
     go_simp
     go_at_call 27
     refine hB.mono ?_;rintro e Y3 ⟨z,rfl,hz,c4,g4⟩;have R3:=HR.out.drawn g4 c4;refine hK.out _ _ R3.c8.1.2.2.1 (fun wM=>?_)
     clear hK hHeld;have hHeld:=wM;try simp only[dw]
     obtain⟨g2,off2,ao1,⟨y1,y2⟩,hput⟩:=R3.YU (i:=k) (by have:=zX.out;omega)
     simp only at ao1
     cases ao1
     obtain⟨fp2,Ib⟩:=hput (z:Int);have HRn:=aj Ib;clear Ib hput R3 c4 g4 hB HR;refine aS (i:=5) rfl ?_;refine lQ rfl fun K hK=>?_
     go_simp;refine hK.out _ _ ?_;go_wp2;go_roundw
     case rel=>(repeat apply Exists.intro);exact⟨⟨k+1,_,_,fp2,by omega,by go_num,HRn.out,⟨HS.out.ver,HS.out.tl,HS.out.ts,by simp only[List.length_set];exact HS.out.gl,Jg HS.out.gf k (by omega),HS.out.sl,HS.out.sf,HS.out.ml,HS.out.mf,HS.out.jK⟩,⟨HT3.out,HU.out⟩,by simp only[List.length_set];exact zX.out⟩,rfl⟩
     case measure=>simp[intOf];omega
    ·obtain rfl:k=G:=by omega
     have x2:=hR.c8.1.2.2.1;have kn:¬ ((k:Int)<(r.got.length:Int)):=by omega
     have hO:=pF 3 hR.cc (by omega)
     have HR:=aj hR;clear hR hGl hlt hk az2;go_upto_region 11 with fail
     go_cut [44] from 39 to 44 (fun s44 wx=>∃ b:Bool,s44=.bool b∧(b=true→0<N)∧RD w X wx p a len cap bs o mD A r fp)
     case first =>
      go_wp2_with fail
      refine hO.mono ?_;rintro e Y4 ⟨t,rfl,c5,g5⟩;have HR4:=aj (HR.out.drawn g5 c5);clear hO c5 g5 HR x2 kn
      cases t with
      | false =>
       go_wp2;go_meet
       case rel=>exact⟨false,rfl,fun h=>(by cases h),HR4.out⟩
      | true =>
       by_cases hNp:0<N
       ·have hNi:(0:Int)<(N:Int):=by omega
        go_wp2;go_meet
        case rel=>exact⟨true,rfl,fun _=>hNp,HR4.out⟩
       ·have hNi:¬ ((0:Int)<(N:Int)):=by omega
        go_wp2;go_meet
        case rel=>exact⟨false,rfl,fun h=>(by cases h),HR4.out⟩
     case rest =>
      obtain⟨bb,rfl,hbN,RJ⟩:=hcut;have HR4:=aj RJ;have KU:=aj hbN;clear RJ hbN HR hO x2 kn;generalize wc=Y4 at *
      go_upto_if 44 with fail
      go_cut [44] from 45 to 64 (fun _ wx=>∃ (A:Ra) (r:Rw) (fp:Fp),RD w X wx p a len cap bs o mD A r fp∧pO r∧r.txt.length≤3)
      case first =>
       cases bb with
       | false =>
        go_wp2;go_meet
        case rel=>exact⟨A,r,fp,HR4.out,HS.out,HT3.out⟩
       | true =>
        have hNp:0<N:=KU.out rfl;have hNi:(0:Int)<(N:Int):=by omega
        have y0:=HR4.out.c8.2.1;have y1:=HR4.out.fo 4;have R5:=HR4.out.wed true;have R6:=R5.drewN 1;have hB:=fQ N (N:Int) rfl R6.cc (by omega) (by omega)
        have z1:=R5.c8.1.2.2.2;have HR6:=aj R6;clear R5 R6;go_wp2_with fail
        refine jE (S:=fun X:World=>X.cell? ⟨o,3,none⟩=some (.slice A.sa r.ak.length A.sc)) 7 bH (z1) fun hHeld=>?_
        refine aY (i:=0) rfl hHeld ?_;refine aY (i:=1) rfl hHeld ?_;refine aS (i:=2) rfl ?_;refine aS (i:=3) rfl ?_;refine dI (i:=4) rfl fun K hK=>?_
        go_simp
        go_at_call 27
        refine hB.mono ?_;rintro e Y5 ⟨u,rfl,hu,c6,g6⟩;have R7:=HR6.out.drawn g6 c6;have VY:=R7.az0 HS.out.sf (by have:=HS.out.sl;simp only;omega) (u:Int)
        simp only at VY
        refine hK.out _ _ R7.c8.1.2.2.2 (fun wM=>?_)
        clear hK hHeld;have hHeld:=wM;try simp only[dw]
        refine dI (i:=5) rfl fun K hK=>?_
        go_simp
        go_at_call 106
        refine VY.mono ?_;rintro e Y6 ⟨a6,c6b,rfl,hb6,NU,R8⟩;have YX:=R7.step hb6;refine hK.out _ _ YX.c8.1.2.2.2 (fun BF=>?_)
        clear hK hHeld;have hHeld:=BF;try simp only[dw]
        have q1:=YX.c8.1.2.2.2;have q2:=YX.fo 3;refine aY (i:=6) rfl hHeld ?_;have Oq:=aj R8;have wO:Hid (pO { r with wed:=true,ak:=bT r.ak (u:Int) }):=⟨HS.out.ver,HS.out.tl,HS.out.ts,HS.out.gl,HS.out.gf,by have:=aa8 r.ak (u:Int);have:=HU.out;simp only;omega,VW HS.out.sf (by omega),HS.out.ml,HS.out.mf,HS.out.jK⟩
        clear R7 YX hB VY R8 c6 g6 hb6 HR6;refine lQ rfl fun K hK=>?_
        go_simp;refine hK.out _ _ ?_;have hO:=pF 2 Oq.out.cc (by omega)
        clear hK hHeld z1 y0 y1 q1 q2;generalize (Y6.setCell ⟨o,3,none⟩ (.slice a6 (bT r.ak (u:Int)).length c6b))=Y7 at *;obtain⟨A7,r7,Ot,hS7,HT8⟩:∃ (A7:Ra) (r7:Rw),RD w X Y7 p a len cap bs o mD A7 r7 NU∧pO r7∧Hid (r7.txt.length≤3):=⟨_,_,Oq.out,wO.out,HT3.out⟩;clear Oq wO;have Oq:=aj Ot;have wO:=aj hS7;clear Ot hS7;go_wp2_with fail
        refine hO.mono ?_;rintro e Y8 ⟨t2,rfl,c7,g7⟩;have JX:=aj (Oq.out.drawn g7 c7);clear hO c7 g7 Oq
        cases t2 with
        | false =>
         go_wp2;go_meet
         case rel=>exact⟨_,_,_,JX.out,wO.out,HT8.out⟩
        | true =>
         have y0:=JX.out.c8.2.2.1;have y1:=JX.out.fo 5;have R10:=JX.out.aB true;have hB:=fQ N (N:Int) rfl R10.cc (by omega) (by omega)
         have ao2:=aj R10;clear R10 JX;go_wp2_with fail
         refine hB.mono ?_;rintro e Y9 ⟨u2,rfl,hu2,c8,g8⟩;obtain⟨i2,hi2,hw0,hw1,hw2⟩:=gX Tryz.info2n;have R11:=ao2.out.drawn g8 c8;have z0:=R11.c8.2.2.2.1;have z1:=R11.fo 6;have R12:=R11.aC (u2:Int);clear hB ao2 R11 c8 g8 y0 y1;go_upto_region 17 with fail
         clear z0 z1;generalize Y9.setCell ⟨o,6,none⟩ (.int .i64 (u2:Int))=Y10 at *;have hA:=R12.av7 wO.out.gf (by have:=wO.out.gl;simp only;omega) i2 hi2 hw0 hw1 hw2
         have z2:=R12.c8.1.2.2.1;have R13:=R12.step (aF _ (.cells #[] 2));have z3:=R13.c8.1.2.2.1;clear R12 R13;simp only at hA z2 z3
         go_wp2_with (at_builtin;refine aZ (by rfl) _ _ _ _ (by rfl) _ _ (by rfl) (by rfl) hA ⟨rfl,rfl,rfl,rfl⟩ ?_;rintro v14 w14 ⟨a14,c14,rfl,q1,q2,aC7,ao3⟩;have az3:Hid (∃ (A:Ra) (r:Rw) (fp:Fp),RD w X (w14.setCell ⟨o,7,none⟩ (.slice a14 r7.got.length c14)) p a len cap bs o mD A r fp∧pO r∧r.txt.length≤3):=⟨_,_,_,ao3,⟨wO.out.ver,wO.out.tl,wO.out.ts,wO.out.gl,wO.out.gf,wO.out.sl,wO.out.sf,wO.out.gl,wO.out.gf,by simp only;omega⟩,HT8.out⟩;clear ao3 hA z2 z3)
         go_meet
         case rel=>exact az3.out
      case rest =>
       clear HS HT3 HU zX HR4 KU;obtain⟨A,r,fp,hR,hS,hT⟩:=hcut;have HS:=aj hS;have HT:=aj hT;have hO:=pF 12 hR.cc (by omega)
       have HR:=aj hR;clear hR hS hT;go_wp2_with fail
       refine hO.mono ?_;rintro e Z1 ⟨t,rfl,c5,g5⟩;have HR1:=aj (HR.out.drawn g5 c5);clear hO c5 g5 HR
       go_upto_if 66 with fail
       go_cut [66] from 67 to 112 (fun _ wx=>∃ (A:Ra) (r:Rw) (fp:Fp),RD w X wx p a len cap bs o mD A r fp∧pO r)
       case first =>
        cases t with
        | false =>
         go_wp2;go_meet
         case rel=>exact⟨A,r,fp,HR1.out,HS.out⟩
        | true =>
         have hB:=fQ 6 6 rfl HR1.out.cc (by omega) (by omega)
         go_wp2_with fail
         refine hB.mono ?_;rintro e Z2 ⟨y,rfl,hy,c6,g6⟩;have R2:=HR1.out.drawn g6 c6;clear hB c6 g6 HR1;obtain rfl|rfl|rfl|rfl|rfl|rfl:y=0∨y=1∨y=2∨y=3∨y=4∨y=5:=by omega
         ·have R3:=R2.step (aF Z2 (.cells #[.int .i64 (-1),.int .i64 1000000,.int .i64 1000001] 2))
          have hB3:=fQ 3 3 rfl R3.cc (by omega) (by omega)
          have hq:=Bx.new Z2 2 #[.int .i64 (-1),.int .i64 1000000,.int .i64 1000001];have hpZ:=R2.cc.lt;have HR3:=aj R3;clear R2 R3;go_wp2_with fail
          refine hB3.mono ?_;rintro e Z3 ⟨z,rfl,hz,c7,g7⟩;have R4:=HR3.out.drawn g7 c7;have hq7:=hq.grown g7 (by simp;omega)
          have d0:=R4.c8.1.1;have d2:=R4.fo 0;have HR4:=aj R4;clear hB3 c7 g7 HR3 hq R4;obtain rfl|rfl|rfl:z=0∨z=1∨z=2:=by omega
          ·have hqc:Z3.cell? ⟨Z2.heap.size,0,none⟩=some (.int .i64 (-1)):=hq7.at 0 rfl
           clear hq7;go_wp2;go_meet
           case rel=>exact⟨A,_,fp,HR4.out.ver (-1),⟨by simp only;omega,HS.out.tl,HS.out.ts,HS.out.gl,HS.out.gf,HS.out.sl,HS.out.sf,HS.out.ml,HS.out.mf,HS.out.jK⟩⟩
          ·have hqc:Z3.cell? ⟨Z2.heap.size,1,none⟩=some (.int .i64 1000000):=hq7.at 1 rfl
           clear hq7;go_wp2;go_meet
           case rel=>exact⟨A,_,fp,HR4.out.ver 1000000,⟨by simp only;omega,HS.out.tl,HS.out.ts,HS.out.gl,HS.out.gf,HS.out.sl,HS.out.sf,HS.out.ml,HS.out.mf,HS.out.jK⟩⟩
          ·have hqc:Z3.cell? ⟨Z2.heap.size,2,none⟩=some (.int .i64 1000001):=hq7.at 2 rfl
           clear hq7;go_wp2;go_meet
           case rel=>exact⟨A,_,fp,HR4.out.ver 1000001,⟨by simp only;omega,HS.out.tl,HS.out.ts,HS.out.gl,HS.out.gf,HS.out.sl,HS.out.sf,HS.out.ml,HS.out.mf,HS.out.jK⟩⟩
         ·have R3:=R2.drewN 1
          have Tt:=fQ 2 2 rfl R3.cc (by omega) (by omega)
          have x1:=R2.c8.1.2.1;have hlen:r.txt.length≤1000:=by have:=HT.out;omega
          have HR3:=aj R3;clear R2 R3;go_wp2_with fail
          refine jE (S:=fun X:World=>X.cell? ⟨o,1,none⟩=some (.slice A.ta r.txt.length A.tc)) 10 bH (x1) fun hHeld=>?_
          refine aY (i:=0) rfl hHeld ?_;refine aY (i:=1) rfl hHeld ?_;refine aS (i:=2) rfl ?_;refine dI (i:=3) rfl fun K hK=>?_
          go_simp
          go_at_call 27
          refine Tt.mono ?_;rintro e Y6 ⟨z,rfl,hz,c7,g7⟩;have L7:=HR3.out.drawn g7 c7;refine hK.out _ _ L7.c8.1.2.1 (fun wM=>?_)
          clear hK hHeld;have hHeld:=wM;try simp only[dw]
          obtain⟨MM,hM⟩:∃ MM:Nat,20+z=MM:=⟨_,rfl⟩;have Tn:IntKind.i64.wrap ((20:Int)+(z:Int))=(MM:Int):=by rw[IntKind.wrap_i64];omega
          have hmk:=VT MM (by omega)
          have hst:=VU Y6 MM (by omega)
          have hml:(List.replicate MM (0:UInt8)).length≤21:=by rw[List.length_replicate];omega
          generalize List.replicate MM (0:UInt8)=s at *;refine aS (i:=4) rfl ?_;refine dI (i:=5) rfl fun K hK=>?_
          go_simp;have L8:=L7.step (aF Y6 (.cells (madeCells #[.int .u8 0] MM) 5));refine hK.out _ _ L8.c8.1.2.1 (fun BF=>?_)
          clear hK hHeld;have hHeld:=BF;try simp only[dw]
          refine dI (i:=6) rfl fun K hK=>?_
          go_simp;refine hK.out _ _ L8.c8.1.2.1 (fun KT=>?_)
          clear hK hHeld;have hHeld:=KT;try simp only[dw]
          refine dI (i:=7) rfl fun K hK=>?_
          go_simp;refine hK.out _ _ (L8.step (aF _ (.cells #[.string (sv s)] 9))).c8.1.2.1 (fun ao4=>?_)
          clear hK hHeld;have hHeld:=ao4;try simp only[dw]
          have hA:=L8.app i0 hi0 hz0 hz1 hz2 s hlen;rw[World.size_alloc] at hA;refine dI (i:=8) rfl fun K hK=>?_
          refine gQ (by rfl) _ _ _ _ (by rfl) (.slice A.ta r.txt.length A.tc) _ (by rfl) (by rfl) hA ⟨rfl,rfl,rfl,rfl⟩ ?_
          rintro v' w4 ⟨a',c',rfl,q1,q2,fp',Ib⟩;refine hK.out _ _ q1 (fun ao5=>?_)
          clear hK hHeld;have hHeld:=ao5;try simp only[dw]
          refine aY (i:=9) rfl hHeld ?_;have HRn:Hid (∃ (A:Ra) (r:Rw) (fp:Fp),RD w X _ p a len cap bs o mD A r fp∧pO r):=⟨_,_,fp',Ib,⟨HS.out.ver,by have:=HT.out;simp;omega,Fb HS.out.ts hml,HS.out.gl,HS.out.gf,HS.out.sl,HS.out.sf,HS.out.ml,HS.out.mf,HS.out.jK⟩⟩
          clear L7 L8 Ib hA c7 g7 Tt;refine lQ rfl fun K hK=>?_
          go_simp;refine hK.out _ _ ?_;go_wp2;go_meet
          case rel=>exact HRn.out
         ·have hV:=av6 N (N:Int) rfl (by omega) R2.cc
          have HR2:=aj R2;clear R2;go_wp2_with fail
          refine hV.mono ?_;rintro e Z3 ⟨a',c',zs,f',rfl,ho',hf',hfz,az4,c7,g7⟩;have R3:=HR2.out.drawn g7 c7;have hs7:=g7.size;have hol:=HR2.out.own.lt;have hXo:=HR2.out.ho;have d1:=R3.c8.1.2.2.1;have d2:=R3.fo 2;obtain⟨fp',R4⟩:=R3.got ho' (fun b hb=>by have:=hf' b hb;omega) (fun b hb hfp=>by have:=hf' b hb;have:=eX HR2.out.ls b hfp;omega)
          have HR4:Hid (∃ (A:Ra) (r:Rw) (fp:Fp),RD w X (Z3.setCell ⟨o,2,none⟩ (.slice a' zs.length c')) p a len cap bs o mD A r fp∧pO r):=⟨_,_,fp',R4,⟨HS.out.ver,HS.out.tl,HS.out.ts,az4,hfz,HS.out.sl,HS.out.sf,HS.out.ml,HS.out.mf,HS.out.jK⟩⟩;clear R3 R4 hV ho' hf' hfz c7 g7 HR2;go_wp2;go_meet
          case rel=>exact HR4.out
         ·have d1:=R2.c8.2.2.1
          have d2:=R2.fo 5;have HR2:=aj R2;clear R2;go_wp2;go_meet
          case rel=>exact⟨A,_,fp,HR2.out.aB (!r.aB),⟨HS.out.ver,HS.out.tl,HS.out.ts,HS.out.gl,HS.out.gf,HS.out.sl,HS.out.sf,HS.out.ml,HS.out.mf,HS.out.jK⟩⟩
         ·have hF:=EF (-1) 7 (by omega) (by omega) (by omega) R2.cc
          have HR2:=aj R2;clear R2;go_wp2_with fail
          refine hF.mono ?_;rintro e Z3 ⟨x,rfl,hx0,hx1,c7,g7⟩;have R3:=HR2.out.drawn g7 c7;have d1:=R3.c8.2.2.2.1;have d2:=R3.fo 6;have HR3:=aj R3;clear R3 hF c7 g7 HR2;go_wp2;go_meet
          case rel=>exact⟨A,_,fp,HR3.out.aC x,⟨HS.out.ver,HS.out.tl,HS.out.ts,HS.out.gl,HS.out.gf,HS.out.sl,HS.out.sf,HS.out.ml,HS.out.mf,⟨hx0,hx1⟩⟩⟩
         ·have Tt:=fQ 2 2 rfl R2.cc (by omega) (by omega)
          have HR2:=aj R2;clear R2;go_wp2_with fail
          refine Tt.mono ?_;rintro e Z3 ⟨z,rfl,hz,c7,g7⟩;have R3:=HR2.out.drawn g7 c7;have hoY:=R3.own.lt;have hXo:=R3.ho;obtain⟨MM,hM⟩:∃ MM:Nat,12+z=MM:=⟨_,rfl⟩;obtain⟨T',az5,hOS,hsm⟩:∃ T':List (List UInt8),T'.length=MM∧OS (Z3.alloc (.cells (madeCells #[.string ⟨#[]⟩] MM) 9)) Z3.heap.size 0 MM MM T'∧∀ i,i<T'.length→(T'.getD i []).length≤21:=⟨List.replicate MM [],by simp,ZT Z3 MM (by unfold maxLen;omega),fun i hi=>by simp[List.getD_eq_getElem?_getD,List.getElem?_replicate];split<;>simp⟩
          subst az5;have hmk:=run_make_row' (P:=Tryz.prog) 42 9 (.string ⟨#[]⟩) 16 Tryz.underlying42 Tryz.info9 rfl .i64 .i64 T'.length (by omega) (by omega)
          have Tn:(12:Int)+(z:Int)=(T'.length:Int):=by omega
          have hwm:wrap64 (T'.length:Int)=(T'.length:Int):=by unfold wrap64;omega
          have bF:=aj Tn;have eF:=aj hwm;clear Tn hwm;have R4:=R3.step (aF Z3 (.cells (madeCells #[.string ⟨#[]⟩] T'.length) 9));have d1:=R4.c8.1.2.1;have d2:=R4.fo 1;obtain⟨fp',R5⟩:=R4.txt (a':=some ⟨Z3.heap.size,0,none⟩) (c':=T'.length) (Z:=T') (f':=fun b=>b=Z3.heap.size) (oJ.2 ⟨_,_,some Z3.heap.size,rfl,dR.of hOS,fun b=>by simp[eq_comm]⟩) (fun b hb=>by omega) (fun b hb hfp=>by have:=eX R3.ls b hfp;omega)
          have HR5:Hid (∃ (A:Ra) (r:Rw) (fp:Fp),RD w X ((Z3.alloc (.cells (madeCells #[.string ⟨#[]⟩] T'.length) 9)).setCell ⟨o,1,none⟩ (.slice (some ⟨Z3.heap.size,0,none⟩) T'.length T'.length)) p a len cap bs o mD A r fp∧pO r):=⟨_,_,fp',R5,⟨HS.out.ver,by simp only;omega,hsm,HS.out.gl,HS.out.gf,HS.out.sl,HS.out.sf,HS.out.ml,HS.out.mf,HS.out.jK⟩⟩
          clear Tt c7 g7 HR2 R3 R4 R5 hOS hsm hM hz;generalize hVV:Z3.alloc (.cells (madeCells #[.string ⟨#[]⟩] T'.length) 9)=V at *;have Tn:=bF.out;have hwm:=eF.out;go_wp2;go_meet
          case rel=>exact HR5.out
       case rest =>
        clear HS HT HR1;obtain⟨A,r,fp,hR,hS⟩:=hcut;have HS:=aj hS;clear hS;obtain⟨⟨e0,e1,e2,e3⟩,e4,e5,e6,e7⟩:=hR.c8;obtain⟨⟨r0b,r1b,r2b,r3b⟩,r4b,r5b,r6b,r7b⟩:=hR.r8;obtain⟨⟨f0,f1,f2,f3⟩,f4,f5,f6,f7⟩:=hR.f8;have HR:=aj hR;clear hR;go_wp2;refine bodyPost_ret (v:=.agg #[.int .i64 r.ver,.slice A.ta r.txt.length A.tc,.slice A.ga r.got.length A.gc,.slice A.sa r.ak.length A.sc,.bool r.wed,.bool r.aB,.int .i64 r.aC,.slice A.ma r.aA.length A.mc]) (by simp[results,Tryz.results63,go_sem, *]) rfl ?_
        exact⟨A,r,fp,rfl,HS.out,HR.out.ans⟩
end
theorem yQ {T:List (List UInt8)} {m:Nat} (h:∀ i,i<T.length→(T.getD i []).length≤m):∀ k,k≤T.length→yt T k≤k*m
 | 0,_=>by simp[yt]
 | k+1,hk=>by
  have:=yQ h k (by omega)
  have:=h k (by omega)
  rw[yt,Nat.add_mul];omega
theorem pO.sz {r:Rw} (h:pO r):iy r≤1048576:=by
 have h1:=yQ h.ts r.txt.length (Nat.le_refl _);have:=h.tl;have:=h.gl;have:=h.sl;have:=h.ml;have h2:=Nat.mul_le_mul_right 21 h.tl;unfold iy;omega
theorem pO.fit {r:Rw} (h:pO r):lV r:=⟨h.gf,h.sf,h.mf⟩
theorem pO.i64 {r:Rw} (h:pO r):oM r:=⟨⟨by have:=h.ver;omega,by have:=h.ver;omega⟩,by have:=h.jK;omega,by have:=h.jK;omega⟩
theorem wP {w:World} {cs:List aI} {vs:List Value} {fp:Fp} (h:bG w cs vs fp) {lo:Nat} (hl:∀ b,fp b→lo≤b):It w cs vs lo w.heap.size:=⟨fp,h,fun b hb=>⟨hl b hb,eX h b hb⟩⟩
theorem aa9 {w:World} {B:Nat} {T:TypeId} {y0 y1 y2 y3 y4 y5 y6 y7 x0 x1 x2 x3 x4 x5 x6 x7:Value} (h:Bx w B T #[y0,y1,y2,y3,y4,y5,y6,y7]):Bx ((((((((w.setCell ⟨B,0,none⟩ x0).setCell ⟨B,1,none⟩ x1).setCell ⟨B,2,none⟩ x2).setCell ⟨B,3,none⟩ x3).setCell ⟨B,4,none⟩ x4).setCell ⟨B,5,none⟩ x5).setCell ⟨B,6,none⟩ x6).setCell ⟨B,7,none⟩ x7) B T #[x0,x1,x2,x3,x4,x5,x6,x7]:=by
 have:=(((((((h.iV 0 x0).iV 1 x1).iV 2 x2).iV 3 x3).iV 4 x4).iV 5 x5).iV 6 x6).iV 7 x7;simpa using this
def gV (R:List Rw) (o:Rw) (n j:Nat):List Int:=(List.range n).map (fun k=>if k<j then max (el o.got k) ((ah R k).txt.length:Int) else el o.got k)
theorem nD (R:List Rw) (o:Rw) (n j:Nat):(gV R o n j).length=n:=by simp[gV]
theorem Ou {R:List Rw} {o:Rw} {n j k:Nat} (hk:k<n):el (gV R o n j) k=if k<j then max (el o.got k) ((ah R k).txt.length:Int) else el o.got k:=by
 unfold gV el;simp[hk]
theorem Ic {R:List Rw} {o:Rw} {n:Nat} (h:o.got.length=n):gV R o n 0=o.got:=by
 refine List.ext_getElem (by rw[nD,h]) (fun k h1 h2=>?_)
 simp[gV,el,h2]
theorem KW {R:List Rw} {o:Rw} {n:Nat}:gV R o n n=kS R o n:=by
 unfold gV kS;refine List.map_congr_left (fun k hk=>?_)
 rw[if_pos (List.mem_range.1 hk)]
theorem Ie {R:List Rw} {o:Rw} {n j:Nat} (hj:j<n):(gV R o n j).set j (max (el o.got j) ((ah R j).txt.length:Int))=gV R o n (j+1):=by
 refine List.ext_getElem (by simp[nD]) (fun k h1 h2=>?_)
 rw[nD] at h2;rw[List.getElem_set];by_cases e:j=k
 ·subst e
  simp[gV]
 ·rw[if_neg e]
  simp only[gV,List.getElem_map,List.getElem_range]
  by_cases hk:k<j
  ·rw[if_pos hk,if_pos (by omega)]
  ·rw[if_neg hk,if_neg (by omega)]
structure YZ (m:Mb) (i n:Nat):Prop where
 e1:aT m=learn m.rows i (ah m.rows i) (aP n (ah m.rows i).ak)
 ok1:dO { m with rows:=m.rows.set i (aT m) } i n
 uw:(aT m).wed=false→bY m={ aT m with got:=kS m.rows (aT m) n }∧dO { m with rows:=m.rows.set i (bY m) } i n∧dX m=iW (m.rows.set i (bY m)) n (60-m.au.length) m.au
 wd:(aT m).wed=true→bY m=aT m∧dX m=m.au
 ok2:dO { m with rows:=m.rows.set i (bY m),au:=dX m } i n
 Dl:dO { m with rows:=m.rows.set i (dF m),au:=dX m } i n
 lW:dO { m with rows:=m.rows.set i (aV m),au:=dX m } i n
 ao6:(dF m).wed=(bY m).wed
 eL:fV m=aP n (bY m).ak
 mem:i∈fV m
 e3:dF m=if (bY m).wed=true∧n<2*(fV m).length∧(fV m).head?=some i then lead (m.rows.set i (bY m)) i (bY m) (fV m) else bY m
 e4:aV m=if (dF m).wed=true∧(fV m).head?≠some i then adopt (m.rows.set i (dF m)) i (dF m) ((fV m).headD 0) else dF m
 eE:gK m=((aV m).aB&&(decide (n<2*(fV m).length)&&ends (m.rows.set i (aV m)) i (aV m) (fV m)))
 e5:iD m=if jI (ah m.rows i) (aV m)=true then aV m else { aV m with ver:=(aV m).ver+1 }
 ver:(aV m).ver=(ah m.rows i).ver
theorem zG {m:Mb} {i n:Nat} (M:dO m i n) (hd:m.done=false):YZ m i n:=by
 have hi:=M.i;have hk:=M.k;have hown:=M.own;have hlt:=M.lt;have ok:=M.ok i hlt;have hov:=ok.ver;have hlen:i<m.rows.length:=by rw[M.len];exact hlt
 have hs0:∀ q,q<m.au.length→el m.au q=(q:Int):=fun q hq=>(M.sg q hq).2 hd
 have e1:aT m=learn m.rows i (ah m.rows i) (aP n (ah m.rows i).ak):=by rw[aT,hi,hk,hown]
 have L1:wu (ah m.rows i) (aT m):=by rw[e1];exact mO _ _ _ _
 have xC:∀ x∈(aT m).ak,(0≤x∧x<(n:Int))∧x≠(i:Int):=fun x hx=>by
  rw[e1] at hx;rcases xu _ _ _ _ hx with hx|⟨k,k1,k2,k3,k4⟩
  ·exact⟨ok.ak x hx,fun e=>M.self (e ▸ hx)⟩
  ·exact⟨(M.ok k (dY.1 k1).1).ak x k3,k4⟩
 have ok1 : dL (aT m) n := ⟨ok.n5,by rw [L1.ver];exact ok.ver,by rw [L1.txt];exact ok.tl,by rw [L1.txt];exact ok.ts,by rw [L1.got];exact ok.got,by rw [L1.got];exact ok.gl,by rw [L1.got];exact ok.g12,fun x hx => (xC x hx).1,iK.2 (by rw [e1];exact xB _ _ _ _ (iK.1 ok.kF)),fun hr => by
  rw[L1.aB] at hr;obtain⟨a1,a2⟩:=ok.aB hr;rw[L1.aC,L1.aA];exact⟨L1.wed a1,a2⟩,fun hr=>by rw[L1.aB] at hr;rw[L1.aC,L1.aA];exact ok.not hr⟩
 have pG:(i:Int)∉(aT m).ak:=fun hx=>(xC _ hx).2 rfl
 have toM:∀ (o:Rw),dL o n→(i:Int)∉o.ak→el o.got i=(o.txt.length:Int)→dO { m with rows:=m.rows.set i o } i n:=fun o h1 h2 h3=>by
  have:=M.to (o':=o) (jy:=m.au) (done':=m.done) h1 h2 h3 M.sl M.kF M.sg (fun h=>(by rw[hd] at h;cases h))
  exact this
 have Qw:el (aT m).got i=((aT m).txt.length:Int):=by rw[L1.got,L1.txt];exact M.jW
 have VZ:=toM (aT m) ok1 pG Qw
 cases hw1:(aT m).wed with
 | false =>
  have hr1:=ok1.Rq hw1;have e2:bY m={ aT m with got:=kS m.rows (aT m) n }:=by rw[bY,if_neg (by rw[hw1];simp),hk]
  have hg2:∀ j,j<n→el (bY m).got j=max (el (ah m.rows i).got j) ((ah m.rows j).txt.length:Int):=fun j hj=>by rw[e2];simp only;rw[Eb hj,L1.got]
  have yw:(bY m).got.length=n:=by rw[e2];simp[kS]
  have hr2:(bY m).aB=false:=by rw[e2];exact hr1
  have hw2:(bY m).wed=false:=by rw[e2];exact hw1
  have ht2:(bY m).txt=(ah m.rows i).txt:=by rw[e2];exact L1.txt
  have hsm:=(fF ok.n5 yw).2 (fun j hj=>by rw[hg2 j hj];have:=ok.g j hj;have:=(M.ok j hj).tl;omega)
  have ok2:dL (bY m) n:=⟨ok.n5,by rw[e2];exact ok1.ver,by rw[e2];exact ok1.tl,by rw[e2];exact ok1.ts,hsm.1,yw,hsm.2,by rw[e2];exact ok1.ak,by rw[e2];exact ok1.kF,fun h=>(by rw[hr2] at h;cases h),fun _=>by rw[e2];exact ok1.not hr1⟩
  have zq:(i:Int)∉(bY m).ak:=by rw[e2];exact pG
  have Y0:el (bY m).got i=((bY m).txt.length:Int):=by rw[hg2 i hlt,ht2,M.jW];omega
  have e3:dF m=bY m:=by rw[dF,if_neg (by rw[hw2];simp)]
  have e4:aV m=bY m:=by rw[aV,e3,if_neg (by rw[hw2];simp)]
  have eS:dX m=iW (m.rows.set i (bY m)) n (60-m.au.length) m.au:=by rw[dX,if_neg (by rw[hw1];simp),hi,hk]
  obtain⟨s1,s2⟩:(dX m).length≤60∧(∀ q,q<(dX m).length→el (dX m) q=(q:Int)):=by
   rw[eS];have:=M.sl;obtain⟨q1,q2,q3,q4⟩:=xw (m.rows.set i (bY m)) n (60-m.au.length) m.au hs0;exact⟨by omega,q3⟩
  have okS:dO { m with rows:=m.rows.set i (bY m),au:=dX m } i n:=by
   have:=M.to (o':=bY m) (jy:=dX m) (done':=m.done) ok2 zq Y0 s1 (vK s2) (fun q hq=>⟨by rw[s2 q hq];omega,fun _=>s2 q hq⟩) (fun h=>(by rw[hd] at h;cases h))
   exact this
  exact⟨e1,VZ,fun _=>⟨e2,toM _ ok2 zq Y0,eS⟩,fun h=>(by rw[hw1] at h;cases h),okS,by rw[e3];exact okS,by rw[e4];exact okS,by rw[e3],by rw[fV,hk],by rw[fV,hk];exact dY.2 ⟨hlt,zq⟩,by rw[dF,hi,hk],by rw[aV,hi],by rw[gK,hi,hk],by rw[iD,hown],by rw[e4,e2];exact L1.ver⟩
 | true =>
  have e2:bY m=aT m:=by rw[bY,if_pos hw1]
  have eL:fV m=aP n (aT m).ak:=by rw[fV,e2,hk]
  have eS:dX m=m.au:=by rw[dX,if_pos hw1]
  have hiL:i∈aP n (aT m).ak:=dY.2 ⟨hlt,pG⟩;have JB:aP n (aT m).ak≠[]:=fun e=>by rw[e] at hiL;cases hiL
  have hrow:∀ {o:Rw},dL o n→∀ j,j<n→dL (ah (m.rows.set i o) j) n:=fun {o} ho j hj=>by
   rw[bZ hlen]
   split
   ·exact ho
   ·exact M.ok j hj
  obtain⟨Dl,k1,k2,k3,k4,k5⟩:dL (dF m) n∧(dF m).ak=(aT m).ak∧(dF m).wed=true∧(dF m).got=(aT m).got∧(dF m).txt=(aT m).txt∧(dF m).ver=(aT m).ver:=by
   by_cases c:(bY m).wed=true∧m.k<2*(fV m).length∧(fV m).head?=some m.i
   ·have e3:dF m=lead (m.rows.set i (aT m)) i (aT m) (aP n (aT m).ak):=by rw[dF,if_pos c,e2,eL,hi]
    obtain⟨a1,a2,a3,a4,a5⟩:=uF (m.rows.set i (aT m)) i (aT m) (aP n (aT m).ak);obtain⟨b1,b2⟩:=zu (R:=m.rows.set i (aT m)) ok1 hw1 hlt JB (fun k hk=>hrow ok1 k (dY.1 hk).1)
    rw[e3];exact⟨b1,a1,by rw[a2];exact hw1,a3,a4,a5⟩
   ·have e3:dF m=aT m:=by rw[dF,if_neg c,e2]
    rw[e3];exact⟨ok1,rfl,hw1,rfl,rfl,rfl⟩
  obtain⟨lW,l1,l2,l3,l4,l5⟩:dL (aV m) n∧(aV m).ak=(aT m).ak∧(aV m).wed=true∧(aV m).got=(aT m).got∧(aV m).txt=(aT m).txt∧(aV m).ver=(aT m).ver:=by
   by_cases c:(dF m).wed=true∧(fV m).head?≠some m.i
   ·have e4:aV m=adopt (m.rows.set i (dF m)) i (dF m) ((aP n (aT m).ak).headD 0):=by rw[aV,if_pos c,eL,hi]
    have hf:(aP n (aT m).ak).headD 0<n:=by
     cases eh:aP n (aT m).ak with
     | nil=>exact absurd eh JB
     | cons f t=>exact (dY.1 (show f∈aP n (aT m).ak by rw[eh];exact List.mem_cons_self)).1
    obtain⟨a1,a2,a3,a4,a5⟩:=rM (m.rows.set i (dF m)) i (dF m) ((aP n (aT m).ak).headD 0);obtain⟨b1,b2⟩:=G7 (i:=i) (R:=m.rows.set i (dF m)) Dl k2 hf (hrow Dl _ hf);rw[e4];exact⟨b1,a1.trans k1,a2.trans k2,a3.trans k3,a4.trans k4,a5.trans k5⟩
   ·have e4:aV m=dF m:=by rw[aV,if_neg c]
    rw[e4];exact⟨Dl,k1,k2,k3,k4,k5⟩
  exact⟨e1,VZ,fun h=>(by rw[hw1] at h;cases h),fun _=>⟨e2,eS⟩,by rw[e2,eS];exact VZ,by rw[eS];exact toM _ Dl (by rw[k1];exact pG) (by rw[k3,k4];exact Qw),by rw[eS];exact toM _ lW (by rw[l1];exact pG) (by rw[l3,l4];exact Qw),by rw[k2,e2,hw1],by rw[eL,e2],by rw[eL];exact hiL,by rw[dF,hi,hk],by rw[aV,hi],by rw[gK,hi,hk],by rw[iD,hown],by rw[l5];exact L1.ver⟩
theorem Ig {L:List Nat} {i:Nat} (h:i∈L):0<L.length∧(L.head?=some i↔L.getD 0 0=i)∧L.headD 0=L.getD 0 0∧L.getD 0 0∈L:=by
 cases L with
 | nil=>cases h
 | cons x t=>simp
end Go.Proofs.YtafimeakbdmkjaaGreat