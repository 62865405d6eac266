/-
  Texts in one.
-/
import Derived.Test.YtafimeakbdmkjaaGreatZaa
import Derived.Test.YtafimeakbdmkjaaGreatZau
import Derived.Test.YtafimeakbdmkjaaGreatZal
import Derived.Test.YtafimeakbdmkjaaGreatZak
import Derived.Test.YtafimeakbdmkjaaGreatZam
import Derived.Test.YtafimeakbdmkjaaGreatZae
import Derived.Test.YtafimeakbdmkjaaGreatZab
import Derived.RangeFuncNested
import Derived.RangeFuncBound
import Derived.RangeFuncCalls
import Derived.RangeFuncLeaves
import Derived.RangeFuncBox
import Derived.Maps.AppendAt
import Derived.Shelf.Abstract
import Derived.Shelf.RegionOpen
import Derived.WalkKit
import Derived.OwnWalkIn
import Derived.TacticsInMore
import Derived.LoopNIn
import Derived.LoopIn
import Derived.BigQuiet
import Derived.Deep.RegionHeld3
namespace Go.Proofs.YtafimeakbdmkjaaGreat
set_option linter.unusedVariables false
set_option linter.unusedSimpArgs false
open Go.RowKit Go.Sort
set_option maxRecDepth 100000
set_option maxHeartbeats 12800000
theorem ah1 (w0:World) (B:Nat) (m:Mb) (i n f:Nat) (fp:Fp) (g off c:Nat) (X:World) (M:Iw w0 X B m fp g off c) (ok:OkW m i n) (hf:f<n) :
  Calls Tryz.prog 170 #[.pointer (some ⟨B,0,none⟩),.int .i64 (f:Int)] X fun e w'=>e=.returned (.tuple #[])∧Iw w0 w' B { m with rows:=m.rows.set i (adopt m.rows i (ah m.rows i) f) } fp g off c:=by
 have fG:=ok.n5;have hil:i<m.rows.length:=by rw[ok.len];exact ok.lt
 have hfl:f<m.rows.length:=by rw[ok.len];exact hf
 have hml:m.rows.length≤5:=by rw[ok.len];exact fG.2
 obtain⟨AJ,⟨⟨d0,d1,d2,d3⟩,d4,d5,d6,d7⟩,hrs⟩:=M.row ok.fit hfl;have jP:=M.rws;have hokr:=ok.ok f hf;have yN:Hid ((ah m.rows f).ak.length≤maxLen):=by have:=hokr.sl;have:=hokr.n5;unfold maxLen;rw[Hid];omega
 have oK:Hid ((ah m.rows f).aA.length≤100):=by have:=hokr.ml;have:=hokr.n5;rw[Hid];omega
 have HT:Hid ((ah m.rows f).aB=true∧(ah m.rows f).aC=(f:Int)∧(i:Int)∉(ah m.rows f).ak∧(!(ah m.rows i).aB||decide ((ah m.rows i).aC<(f:Int)))=true→adopt m.rows i (ah m.rows i) f={ ah m.rows i with aB:=true,aC:=(f:Int),aA:=(ah m.rows f).aA }):=fun h=>by
  rw[adopt,if_pos];refine⟨h.1,h.2.1,h.2.2.1,fun hh=>?_⟩
  have h4:=h.2.2.2;rw[hh.1] at h4;simp at h4
  omega
 have HF:Hid (¬ ((ah m.rows f).aB=true∧(ah m.rows f).aC=(f:Int)∧(i:Int)∉(ah m.rows f).ak∧(!(ah m.rows i).aB||decide ((ah m.rows i).aC<(f:Int)))=true)→({ m with rows:=m.rows.set i (adopt m.rows i (ah m.rows i) f) }:Mb)=m):=fun h=>by
  rw[adopt,if_neg,lg (dW hil)];rintro⟨h1,h2,h3,h4⟩;refine h ⟨h1,h2,h3, ?_⟩
  cases hr:(ah m.rows i).aB with
  | false=>rfl
  | true =>
   simp
   by_cases h5:(ah m.rows i).aC<(f:Int)
   ·exact h5
   ·exact absurd ⟨hr,by omega⟩ h4
 have HM:=aj M;have cO:=aj ok;have f0:(0:Int)≤(f:Int):=by omega
 have f1:(f:Int)<(m.rows.length:Int):=by omega
 clear hokr M ok;generalize ah m.rows f=r at *;have hba:=aF X (.cells #[.int .i64 r.ver,.slice AJ.ta r.txt.length AJ.tc,.slice AJ.ga r.got.length AJ.gc,.slice AJ.sa r.ak.length AJ.sc,.bool r.wed,.bool r.aB,.int .i64 r.aC,.slice AJ.ma r.aA.length AJ.mc] 44);have hxr:=Bx.new X 44 #[.int .i64 r.ver,.slice AJ.ta r.txt.length AJ.tc,.slice AJ.ga r.got.length AJ.gc,.slice AJ.sa r.ak.length AJ.sc,.bool r.wed,.bool r.aB,.int .i64 r.aC,.slice AJ.ma r.aA.length AJ.mc];have mG:=aj hxr;have Us:=aj (hrs.ak.below hba (Nat.le_refl _));have HTv:=aj (hrs.aA.below hba (Nat.le_refl _));have Aj:=aj (HM.out.step hba);clear hrs hba hxr;go_enter Tryz.func170,Tryz.ntmps170
 go_upto_region 2 with fail
 generalize X.alloc (.cells #[.int .i64 r.ver,.slice AJ.ta r.txt.length AJ.tc,.slice AJ.ga r.got.length AJ.gc,.slice AJ.sa r.ak.length AJ.sc,.bool r.wed,.bool r.aB,.int .i64 r.aC,.slice AJ.ma r.aA.length AJ.mc] 44)=W5 at *;clear d0 d1 d2 d3 d4 d5 d6 d7 jP;have T:∀ {x v},W5.cell? x=some v→∀ q:Bk W5,q.w.cell? x=some v:=fun h q=>(q.h.cell (World.block_lt_of_cell? _ _ h)).trans h
 have p5:=T (mG.out.at 5 (v:=.bool r.aB) rfl);have p6:=T (mG.out.at 6 (v:=.int .i64 r.aC) rfl);have p7:=T (mG.out.at 7 (v:=.slice AJ.ma r.aA.length AJ.mc) rfl);have p3:=T (mG.out.at 3 (v:=.slice AJ.sa r.ak.length AJ.sc) rfl);obtain⟨c0,_⟩:=Aj.out.id';rw[cO.out.hid] at c0;have p0:=T c0;have CC:=fun q:Bk W5=>(oV AJ.sa AJ.sc r.ak (i:Int) q.w (Us.out.below q.h (Nat.le_refl _)) yN.out).mono (fun e w' h=>(⟨h.1,h.2 ▸ Below.refl _ _⟩:e=.returned (.bool (decide ((i:Int)∈r.ak)))∧Below q.w.heap.size q.w w'))
 have CH:=fun q:Bk W5=>O5 w0 B m i n (f:Int) fp g off c q.w (Aj.out.step q.h) cO.out
 clear c0 T;go_wp2_with fail
 cases hrd:r.aB with
 | false =>
  rw[hrd] at p5;have HN:Hid (({ m with rows:=m.rows.set i (adopt m.rows i (ah m.rows i) f) }:Mb)=m):=HF.out (fun h=>by rw[hrd] at h;exact absurd h.1 (by decide))
  clear HT HF hrd;refine eU ?_;repeat (go_big_quiet_step ((first|rfl)))
  refine wpQuiet_nil (dK fun wE aJ=>?_)
  have HE:Hid (Iw w0 wE B { m with rows:=m.rows.set i (adopt m.rows i (ah m.rows i) f) } fp g off c):=by rw[Hid,HN.out];exact Aj.out.step aJ
  clear aJ p5 p6 p7 p3 p0 CC CH HN;go_wp2
  first|go_end0|go_ret
  exact⟨rfl,HE.out⟩
 | true =>
  rw[hrd] at p5;by_cases hby:r.aC=(f:Int);rotate_left
  ·have e1:(r.aC==(f:Int))=false:=by simp[hby]
   have HN:Hid (({ m with rows:=m.rows.set i (adopt m.rows i (ah m.rows i) f) }:Mb)=m):=HF.out (fun h=>hby h.2.1)
   clear HT HF hrd hby;refine eU ?_;repeat (go_big_quiet_step ((first|rfl)))
   refine wpQuiet_nil (dK fun wE aJ=>?_)
   have HE:Hid (Iw w0 wE B { m with rows:=m.rows.set i (adopt m.rows i (ah m.rows i) f) } fp g off c):=by rw[Hid,HN.out];exact Aj.out.step aJ
   clear aJ p5 p6 p7 p3 p0 CC CH HN;go_wp2
   first|go_end0|go_ret
   exact⟨rfl,HE.out⟩
  have e1:(r.aC==(f:Int))=true:=by simp[hby]
  by_cases hin:(i:Int)∈r.ak
  ·rw[decide_eq_true hin] at CC
   have HN:Hid (({ m with rows:=m.rows.set i (adopt m.rows i (ah m.rows i) f) }:Mb)=m):=HF.out (fun h=>h.2.2.1 hin)
   clear HT HF hrd hby hin;refine eU ?_;repeat (go_big_quiet_step ((first|(go_at_call 88;exact aQ _ (CC _))|rfl)))
   refine wpQuiet_nil (dK fun wE aJ=>?_)
   have HE:Hid (Iw w0 wE B { m with rows:=m.rows.set i (adopt m.rows i (ah m.rows i) f) } fp g off c):=by rw[Hid,HN.out];exact Aj.out.step aJ
   clear aJ p5 p6 p7 p3 p0 CC CH HN;go_wp2
   first|go_end0|go_ret
   exact⟨rfl,HE.out⟩
  rw[decide_eq_false hin] at CC
  cases IE:(!(ah m.rows i).aB||decide ((ah m.rows i).aC<(f:Int))) with
  | false =>
   rw[IE] at CH;have HN:Hid (({ m with rows:=m.rows.set i (adopt m.rows i (ah m.rows i) f) }:Mb)=m):=HF.out (fun h=>by have:=h.2.2.2;rw[IE] at this;cases this)
   clear HT HF hrd hby hin IE;refine eU ?_;repeat (go_big_quiet_step ((first|(go_at_call 88;exact aQ _ (CC _))|(go_at_call 184;exact aQ _ (CH _))|rfl)))
   refine wpQuiet_nil (dK fun wE aJ=>?_)
   have HE:Hid (Iw w0 wE B { m with rows:=m.rows.set i (adopt m.rows i (ah m.rows i) f) } fp g off c):=by rw[Hid,HN.out];exact Aj.out.step aJ
   clear aJ p5 p6 p7 p3 p0 CC CH HN;go_wp2
   first|go_end0|go_ret
   exact⟨rfl,HE.out⟩
  | true =>
   rw[IE] at CH;have HN:Hid (adopt m.rows i (ah m.rows i) f={ ah m.rows i with aB:=true,aC:=(f:Int),aA:=r.aA }):=HT.out ⟨hrd,hby,hin,IE⟩
   clear HT HF hrd hby hin IE;refine eU ?_;repeat (go_big_quiet_step ((first|(go_at_call 88;exact aQ _ (CC _))|(go_at_call 184;exact aQ _ (CH _))|rfl)))
   refine wpQuiet_nil (dK fun wE aJ=>?_)
   have t7:=p7 ⟨wE,aJ⟩;simp only at t7
   have hE:=O6 w0 B m i n (f:Int) r.aA AJ.ma AJ.mc fp g off c wE (Aj.out.step aJ) cO.out (HTv.out.below aJ (Nat.le_refl _)) oK.out;rw[← HN.out] at hE;clear aJ p5 p6 p7 p3 p0 CC CH HN;go_wp2_with (go_at_call 185;refine hE.mono ?_;rintro e w9 ⟨rfl,Bg⟩;have gu:Hid _:=Bg;clear Bg)
   first|go_end0|go_ret
   exact⟨rfl,gu⟩
section
open Go.RowKit Go.Sort Go.Shelf
attribute [local go_sem] Oper.semAt_some
theorem Nr (cs:List Int) (k:Nat) {i j:Nat} (h:i≤j):iC cs k i <+: iC cs k j:=by
  induction j with
  | zero => obtain rfl : i = 0 := by omega
            exact List.prefix_refl _
  | succ j ih =>
    rcases Nat.lt_or_ge j i with h1|h1
    · obtain rfl:i=j+1:=by omega
      exact List.prefix_refl _
    · rw[uz]
      exact (ih h1).trans (List.prefix_append _ _)
theorem Ns (cs:List Int) {i j:Nat} (h:i≤j):dh cs i <+: dh cs j:=by
  induction j with
  | zero => obtain rfl : i = 0 := by omega
            exact List.prefix_refl _
  | succ j ih =>
    rcases Nat.lt_or_ge j i with h1|h1
    · obtain rfl:i=j+1:=by omega
      exact List.prefix_refl _
    · rw[mM]
      exact (ih h1).trans (List.prefix_append _ _)
theorem Nu {cs:List Int} {k j M:Nat} (hk:k<M) (hj:j≤cs.length):dh cs k++iC cs k j <+: dh cs M:=by
 refine List.IsPrefix.trans ?_ (Ns cs (Nat.succ_le_of_lt hk));rw[mM];exact (List.prefix_append_right_inj _).2 (Nr cs k hj)
def qX (n₀ Bn:Nat) (W W':World):Prop:=Below n₀ W W'∧W'.heap[Bn]?=W.heap[Bn]?
theorem qX.trans {n₀ Bn:Nat} {A B C:World} (h:qX n₀ Bn A B) (k:qX n₀ Bn B C):qX n₀ Bn A C:=⟨h.1.trans k.1,k.2.trans h.2⟩
theorem qX.refl (n₀ Bn:Nat) (W:World):qX n₀ Bn W W:=⟨Below.refl _ _,rfl⟩
theorem qX.drewN {n₀ Bn:Nat} {A B:World} (h:qX n₀ Bn A B) (n:Nat):qX n₀ Bn A (B.drewN n):=⟨bg h.1,h.2⟩
theorem qX.box {n₀ Bn:Nat} {A B:World} (h:qX n₀ Bn A B) {v:Value} (hv:A.cell? ⟨Bn,0,none⟩=some v):B.cell? ⟨Bn,0,none⟩=some v:=(World.cell?_of_block (w:=A) h.2).trans hv
theorem qX.put {n₀ Bn:Nat} {w:World} (hn:n₀≤w.heap.size) (hB:Bn<w.heap.size) (W:World) (l:Nat) (o o':Obj) (hl:w.heap.size≤l) (h:W.heap[l]?=some o) (h1:o.isCells=false) (h2:o.isWalk=false):qX n₀ Bn W (W.putObj l o') :=
 ⟨belowK_b hn W l o o' hl h h1 h2,World.putObj_heap_other (by omega)⟩
theorem Md {β:Type} {B:Nat} {J:β→World→Prop} (h:AbidesFrom B J) {s:β} {W:World} (hs:J s W) (n:Nat):J s (W.drewN n) :=
 h s W _ none hs ⟨rfl,rfl,rfl,Nat.le_refl _,fun _ _ _=>rfl⟩ (fun r e=>by cases e)
theorem Xz (n:Nat) (hn:1≤n) (l Bn n₀ b off len cap:Nat) (cs:List Int) (hok:nV cs=true) (hlen:cs.length=len) (hf:Fits cs) (hcap:len≤cap) (hm:cap≤maxLen) (hb:b<n₀) (J Jx:List Int→World→Prop)
  (hY : ∀ pre x W,J pre W → pre.length < (dh cs (gr cs).toNat).length → YieldAt Fence.wide (n - 1) Tryz.prog l #[.int .i64 x] W fun e W' =>
   (e=.returned (.bool true)∧J (pre++[x]) W'∧qX n₀ Bn W W')∨(e=.returned (.bool false)∧Jx (pre++[x]) W'))
  (W:World) (OD:AbidesFrom W.heap.size J) (hBn:W.cell? ⟨Bn,0,none⟩=some (.slice (some ⟨b,off,none⟩) len cap)) (hc:∀ i,i<len→W.cell? ⟨b,off+i,none⟩=some (.int .i64 (el cs i))) (h0:J [] W) :
  CallsIn Fence.wide n Tryz.prog 135 #[.func (.yield l) #[] #[],.pointer (some ⟨Bn,0,none⟩)] W fun e W'=>(∃ v,e=.returned v) ∧
   ((∃ ys,ys=dh cs (gr cs).toNat∧J ys W')∨(∃ pre,pre <+: dh cs (gr cs).toNat∧Jx pre W')):=by
 obtain⟨hokB,hall⟩:=wL hok;have h18:=ji hokB;have h1:1≤len:=by omega
 have h8:len≤8:=by omega
 have hG:Hid (∀ w,(∀ i,i<len→w.cell? ⟨b,off+i,none⟩=some (.int .i64 (el cs i)))→Calls Tryz.prog 131 #[.slice (some ⟨b,off,none⟩) len cap] w fun e w'=>e=.returned (.int .i64 (gr cs))∧∃ m,w'=w.drewN m) :=
  fun w hcw=>nG b off len cap cs w hlen hf hcw (by omega) hcap hm
 have g0:0≤gr cs:=Int.le_trans (hall 0 (by omega)).1 (ZA (by omega))
 have g1:gr cs≤100000:=(I8 (by omega)).2 (fun i hi=>(hall i hi).2)
 obtain⟨M,hM⟩:∃ M:Nat,gr cs=(M:Int):=⟨(gr cs).toNat,by omega⟩
 have hS:Hid (∀ (k j:Nat) (w:World),k<M→j<len→Calls Tryz.prog 136 #[.int .i64 len,.int .i64 j,.int .i64 k] w fun e w'=>e=.returned (.int .i64 ((len:Int)*(k:Int)+(j:Int)))∧w'=w):=by
  intro k j w hk hj;have:=Xv (len:Int) (j:Int) (k:Int) ⟨by omega,by omega⟩ w
  rwa [show wo (len:Int) (j:Int) (k:Int)=(len:Int)*(k:Int)+(j:Int) by rw[wo,if_pos (U8.2 ⟨⟨by omega,by omega⟩,⟨by omega,by omega⟩,by omega,by omega⟩)]] at this
 have eM:(gr cs).toNat=M:=by omega
 rw[eM] at hY ⊢;have HG:=aj hM;have HL:=aj hlen;have HA:Hid (∀ i,i<len→0≤el cs i∧el cs i≤100000):=fun i hi=>hall i (by omega)
 have hm1:(M:Int)≤100000:=by omega
 clear eM hlen hall g0 g1 h18 hokB hok;have hG0:=hG.out W hc;rw[HG.out] at hG0;clear hM hG HG;refine callsIn_of_wp Tryz.func135 rfl trivial ?_ rfl;simp only[Tryz.ntmps135,List.size_toArray,List.length_cons,List.length_nil,Nat.reduceAdd,Nat.reduceSub,Array.replicate_succ,Array.replicate_zero,List.push_toArray,List.append_toArray,List.nil_append,List.cons_append]
 gi_wp2_with (refine⟨trivial, ?_⟩;gi_at_call 131;refine (callsIn_wide.2 hG0).mono ?_;rintro e w' ⟨rfl,m,rfl⟩)
 have hK0:qX n₀ Bn W (W.drewN m):=(qX.refl _ _ _).drewN m;have hJ0:J (dh cs 0) (W.drewN m):=Md OD h0 m;generalize W.drewN m=W1 at *
 gi_loopw [11] (fun i wr=>∃ k:Nat,k≤M∧i=.int .i64 k∧J (dh cs k) wr∧qX n₀ Bn W wr)
  (fun i _=>M-(intOf i).toNat)
 case atStart=>exact⟨0,Nat.zero_le _,rfl,hJ0,hK0⟩
 case round =>
  obtain⟨k,hk,rfl,hJs,hnx⟩:=hrel;have hbx:=hnx.box hBn;by_cases hlt:k<M
  ·gi_wp2
   gi_loopw [16] (fun i wr2=>∃ j:Nat,j≤len∧i=.int .i64 j∧J (dh cs k++iC cs k j) wr2∧qX n₀ Bn W wr2)
    (fun i _=>len-(intOf i).toNat)
   case atStart=>exact⟨0,Nat.zero_le _,rfl,by simpa[iC] using hJs,hnx⟩
   case round =>
    obtain⟨j,hj,rfl,hJ2,hn2⟩:=hrel;by_cases hjl:j<len
    ·have hcx:=(hn2.1.cell (p:=⟨b,off+j,none⟩) hb).trans (hc j hjl)
     have hbd:=HA.out j hjl;by_cases hx:(k:Int)<el cs j
     ·have HW:Hid (iC cs k (j+1)=iC cs k j++[(len:Int)*(k:Int)+(j:Int)]):=by rw[Hid,uz,if_pos hx,HL.out]
      have HP:Hid (dh cs k++iC cs k (j+1) <+: dh cs M):=Nu hlt (by rw[HL.out];omega)
      have hS1:=fun w=>hS.out k j w hlt hjl
      obtain ⟨fn,tmps,assign,body,hy,hR⟩ := hY _ ((len : Int) * (k : Int) + (j : Int)) wr hJ2 (by
       have:=HP.out.length_le;rw[HW.out] at this;simp only[List.length_append,List.length_cons,List.length_nil] at this ⊢
       omega)
      generalize (len:Int)*(k:Int)+(j:Int)=x at *
      gi_wp2_with (refine⟨trivial, ?_⟩;gi_at_call 136;refine (callsIn_wide.2 (hS1 _)).mono ?_;rintro e w' ⟨rfl,rfl⟩)
      refine hR.mono ?_;rintro e W3 (⟨rfl,hJ3,hk3⟩|⟨rfl,hJx3⟩)
      ·gi_wp2
       go_roundw
       case rel=>exact⟨j+1,by omega,by go_num,by rw[HW.out,← List.append_assoc];exact hJ3,hn2.trans hk3⟩
       case measure=>simp[intOf];omega
      ·gi_wp2
       refine bodyPost_ret (results_none rfl _ _ _) rfl ?_;exact⟨⟨_,rfl⟩,.inr ⟨_,by have:=HP.out;rw[HW.out,← List.append_assoc] at this;exact this,hJx3⟩⟩
     ·have HW:Hid (iC cs k (j+1)=iC cs k j):=by rw[Hid,uz,if_neg hx,List.append_nil]
      gi_wp2
      refine⟨trivial, ?_⟩
      gi_wp2
      refine⟨fun _ h=>(by cases h), ?_⟩
      gi_wp2
      go_roundw
      case rel=>exact⟨j+1,by omega,by go_num,by rw[HW.out];exact hJ2,hn2⟩
      case measure=>simp[intOf];omega
    ·obtain rfl:j=len:=by omega
     have HW:Hid (dh cs (k+1)=dh cs k++iC cs k j):=by rw[Hid,mM,HL.out]
     gi_wp2
     go_roundw
     case rel=>exact⟨k+1,by omega,by go_num,by rw[HW.out];exact hJ2,hn2⟩
     case measure=>simp[intOf];omega
  ·obtain rfl:k=M:=by omega
   gi_wp2
   go_end0;exact⟨⟨_,rfl⟩,.inl ⟨_,rfl,hJs⟩⟩
end
section
open Go.RowKit Go.Sort Go.Shelf
attribute [local go_sem] Oper.semAt_some
theorem QI (a:Option Addr) (len cap:Nat) (w:World):Calls Tryz.prog 104 #[.slice a len cap] w fun e w'=>e=.returned (.func (.func 135) #[] #[.pointer (some ⟨w.heap.size,0,none⟩)])∧w'=w.alloc (.cells #[.slice a len cap] 166):=by
 go_enter Tryz.func104,Tryz.ntmps104
 go_wp2;go_ret
 exact⟨rfl,rfl⟩
theorem QJ (n:Nat) (hn:1≤n) (Bn n₀ b off len cap:Nat) (cs:List Int) (hok:nV cs=true) (hlen:cs.length=len) (hf:Fits cs) (hcap:len≤cap) (hm:cap≤maxLen) (hb:b<n₀) (w:World) (hBn:Bn<w.heap.size) (hn₀:n₀≤w.heap.size)
  (hc:w.cell? ⟨Bn,0,none⟩=some (.slice (some ⟨b,off,none⟩) len cap)) (hcs:∀ i,i<len→w.cell? ⟨b,off+i,none⟩=some (.int .i64 (el cs i))) :
  SeqStopsK Fence.wide n Tryz.prog 135 #[.pointer (some ⟨Bn,0,none⟩)] (fun x:Int=>#[Value.int .i64 x]) (qX n₀ Bn) (fun ys=>ys=dh cs (gr cs).toNat) (fun pre=>pre <+: dh cs (gr cs).toNat) (dh cs (gr cs).toNat).length w:=fun l J Jx W hW hJ _ hY h0 =>
 Xz n hn l Bn n₀ b off len cap cs hok hlen hf hcap hm hb J Jx hY W hJ ((hW.cell (p:=⟨Bn,0,none⟩) hBn).trans hc) (fun i hi=>(hW.cell (p:=⟨b,off+i,none⟩) (by show b<_;omega)).trans (hcs i hi)) h0
theorem ah2 (cs:List Int) (M:Nat):∀ j,uT cs M j≤j*M:=by
 intro j
 induction j with
 | zero=>simp[uT]
 | succ j ih=>rw[uD,Nat.succ_mul];omega
theorem XC {cs:List Int} (hok:nV cs=true):(dh cs (gr cs).toNat).length≤800000:=by
 obtain⟨hokB,hall⟩:=wL hok;have h18:=ji hokB;have g1:gr cs≤100000:=(I8 (by omega)).2 (fun i hi=>(hall i hi).2)
 rw[Jy];refine Nat.le_trans (ah2 _ _ _) ?_;exact Nat.mul_le_mul (by omega:cs.length≤8) (by omega:(gr cs).toNat≤100000)
theorem XD {cs:List Int} (hok:nV cs=true):CJ cs (dh cs (gr cs).toNat):=by
 obtain⟨hokB,hall⟩:=wL hok;have h18:=ji hokB;refine NQ (by omega) (fun i hi=>?_)
 have:=ZA hi;omega
end
section
open Go.RowKit Go.Sort Go.Shelf
attribute [local go_sem] Oper.semAt_some
theorem appendSeq_in (g Bn n₀ b off len cap:Nat) (cs:List Int) (w:World) (hok:nV cs=true) (hlen:cs.length=len) (hf:Fits cs) (hcap:len≤cap) (hm:cap≤maxLen) (hb:b<n₀) (hn₀:n₀≤w.heap.size)
  (hcs:∀ i,i<len→w.cell? ⟨b,off+i,none⟩=some (.int .i64 (el cs i))) (hbN:Boxed w Bn 166 (.slice (some ⟨b,off,none⟩) len cap)) (hrow:w.ownsRow n₀ 2 1 (.slice (some ⟨g,0,none⟩) 0 0) 0 []) :
  Calls Tryz.prog 103 #[.slice (some ⟨g,0,none⟩) 0 0,.func (.func 135) #[] #[.pointer (some ⟨Bn,0,none⟩)]] w fun e W' => (∃ g' c,e = .returned (.slice (some ⟨g',0,none⟩) (dh cs (gr cs).toNat).length c) ∧
   W'.ownsRow n₀ 2 1 (.slice (some ⟨g',0,none⟩) (dh cs (gr cs).toNat).length c) (dh cs (gr cs).toNat).length ((dh cs (gr cs).toNat).map (Value.int .i64)))∧Below n₀ w W':=by
 obtain⟨i0,hi0,hz0,hz1,hz2⟩:=gX Tryz.info2n;have hN:=XC hok;have HL:=aj hlen;clear hlen;refine (callsIn_wide (n:=3)).1 ?_;refine callsIn_of_wp_marks Tryz.func103 rfl trivial ?_ rfl;simp only[Tryz.ntmps103,List.size_toArray,List.length_cons,List.length_nil,Nat.reduceAdd,Nat.reduceSub,Array.replicate_succ,Array.replicate_zero,List.push_toArray,List.append_toArray,List.nil_append,List.cons_append]
 gi_wp2
 have bS:=Boxed.new w 41 (.slice (some ⟨g,0,none⟩) 0 0);have hB1:Below n₀ w (w.alloc (.cells #[.slice (some ⟨g,0,none⟩) 0 0] 41)):=(Below.refl _ w).alloc hn₀ _;have aD5:=hbN.lt
 refine wpIn_rangeFunc_ownG rfl (by omega) (gf:=135) (lb:=#[.pointer (some ⟨Bn,0,none⟩)]) rfl trivial (enters_of Tryz.func135 (by kernel_rfl) rfl)
  (QJ 2 (by omega) Bn n₀ b off len cap cs hok HL.out hf hcap hm hb _ (by simp;omega) (by simp;omega) (hbN.alloc _).cell (fun i hi=>(hB1.cell (p:=⟨b,off+i,none⟩) hb).trans (hcs i hi))) qX.trans (qX.put (by simp;omega) (by simp;omega)) (Below.refl _ _) (fun _=>rfl)
  (fun pre W=>((∃ v,Boxed W w.heap.size 41 v∧W.ownsRow n₀ 2 1 v pre.length (pre.map (Value.int .i64))∧∃ g c,v=.slice (some ⟨g,0,none⟩) pre.length c)∧Boxed W Bn 166 (.slice (some ⟨b,off,none⟩) len cap))∧Below n₀ w W)
  (fun _ _ _=>False)
  (OwnFrom.and (OwnFrom.and (Own.from (holdsRow_own n₀ w.heap.size 41 2 1 (fun pre:List Int=>pre.length) (fun pre=>pre.map (Value.int .i64)) (fun pre v=>∃ g c,v=.slice (some ⟨g,0,none⟩) pre.length c)) _) (Own.from (boxed_own Bn 166 (fun _=>.slice (some ⟨b,off,none⟩) len cap)) _)) (ownFrom_below hn₀ (by simp;omega)))
  (fun _ _ _ _ _ hs _ _=>hs)
  ⟨⟨⟨_,bS,hrow.alloc _,g,0,rfl⟩,hbN.alloc _⟩,hB1⟩
  (fun x=>{ tmps:=#[.slice (some ⟨g,0,none⟩) 0 0,.func (.func 135) #[] #[.pointer (some ⟨Bn,0,none⟩)],.pointer (some ⟨w.heap.size,0,none⟩),undef,.slice none 0 0,.int .i64 x,.func (.func 135) #[] #[.pointer (some ⟨Bn,0,none⟩)],.int .i64 x,undef,undef,undef,undef,undef],defers:=[] }) ?assign ?body ?done ?stop
 case assign =>
  intro l x W K hK
  gi_wp2
  exact hK
 case body =>
  rintro l pre x W ⟨⟨⟨v,hv,hrw,g1,c1,rfl⟩,hbn⟩,hB⟩ hlt;have hc:=hv.cell;have hpl:pre.length<800000:=by omega
  have hml:pre.length+1≤maxLen:=by unfold maxLen;omega
  have hsz:=hB.size
  gi_wp2_with (gi_at_builtin;refine wpListIn_append_own _ rfl _ _ 41 rfl n₀ 2 i0 (.int .i64 0) 1 8 Tryz.underlying41 hi0 hz0 hz1 hz2 rfl (by decide) _ _ _ rfl (hrw.alloc _) ⟨W.heap.size,0,none⟩ 1 1 [.int .i64 x] rfl rfl (cell_one_new _ _ _) (by simp[Value.oneCell']) (by omega) (by omega) (by simp;omega) ?_;intro v' w1 hown' hgrow _;obtain⟨g',cap',rfl⟩:=ownsRow_succ hown';obtain⟨hv1,hv2,hr2,hk2,hb2⟩:=hv.appended (by decide) hrw (Nat.le_trans hn₀ hsz) hn₀ hown' hgrow;have hc1:=hv1.cell;have hf1:=hv1.frozen)
  have ar2:=((hbn.alloc _).kept hgrow (hbn.not_row (by decide) hrw)).other (B':=w.heap.size) (by omega) (.slice (some ⟨g',0,none⟩) (pre.length+1) cap')
  exact⟨hk2.from _,⟨hb2,ar2.trans (show W.heap[Bn]?=_ from hbn).symm⟩,⟨⟨_,hv2,by simpa using hr2,g',cap',by simp⟩,ar2⟩,hB.trans hb2⟩
 case done =>
  rintro D ys W hD rfl ⟨⟨⟨v,hv,hrw,g1,c1,rfl⟩,hbn⟩,hB⟩ hK;have hc:=hv.cell
  gi_wp2
  refine⟨by simp,.inl ⟨_,_,rfl,run_takeDeferred hK, ?_⟩⟩
  exact⟨_,results_tmp rfl _ _ _,⟨g1,c1,rfl,ownsRow_putObj hrw _ hK rfl⟩,hB.trans (belowK_b (w:=w) hn₀ W D _ _ (by simp at hD;omega) hK rfl rfl)⟩
 case stop =>
  rintro D c pre W _ _ h _;exact h.elim
theorem Ut:Uo:=by
 intro a len cap cs w hv hcap hm
 have hAr:Calls Tryz.prog 101 #[.slice a len cap] w fun e w'=>e=.returned (.bool (nV cs))∧Below w.heap.size w w' :=
  (IX _ len cap cs w hv hcap hm).mono (fun e w' ⟨he,n,hw⟩=>⟨he,hw ▸ bg (Below.refl _ _)⟩)
 have ZC:Hid (∀ w1,Below w.heap.size w w1→Calls Tryz.prog 102 #[.slice a len cap] w1 fun e w'=>e=.returned (.int .i64 (Jd cs))∧Below w.heap.size w w') :=
  fun w1 h1=>(MX a len cap cs w1 (hv.below h1 (Nat.le_refl _)) hcap hm).mono (fun e w' ⟨he,n,hw⟩=>⟨he,hw ▸ bg h1⟩)
 cases hb:nV cs with
 | false =>
  rw[hb] at hAr;have HZ:Hid (qU cs []):=.inr ⟨.inl hb,rfl⟩;clear hb ZC;go_enter Tryz.func58,Tryz.ntmps58
  go_wp2_with (go_at_call 101;refine hAr.mono ?_;rintro e w1 ⟨rfl,hB1⟩)
  go_ret
  exact⟨[],HZ.out,_,0,0,rfl,hB1.size,jX _ 2,hB1.alloc hB1.size _⟩
 | true =>
  rw[hb] at hAr;obtain⟨hok,hall⟩:=wL hb;have hsb:Jd cs=lH cs:=by rw[Jd,if_pos hok]
  rw[hsb] at ZC;by_cases Bd:(200:Int)<lH cs
  ·have HZ:Hid (qU cs []):=.inr ⟨.inr Bd,rfl⟩
   clear hb hsb hall hok;generalize lH cs=z at *;go_enter Tryz.func58,Tryz.ntmps58
   go_wp2_with (first|(go_at_call 101;refine hAr.mono ?_;rintro e w1 ⟨rfl,hB1⟩)|(go_at_call 102;refine (ZC.out _ hB1).mono ?_;rintro e w2 ⟨rfl,hB2⟩))
   go_ret
   exact⟨[],HZ.out,_,0,0,rfl,hB2.size,jX _ 2,hB2.alloc hB2.size _⟩
  ·have h18:=ji hok
   have hl:=hv.1;have hf:Fits cs:=hv.2.1;obtain⟨b,off,rfl,hc⟩:=hv.cells (by omega)
   have hbl:b<w.heap.size:=World.block_lt_of_cell? _ _ (hc 0 (by omega))
   have HZ:Hid (qU cs (dh cs (gr cs).toNat)):=.inl ⟨hb,by omega,XD hb⟩
   have hW:Hid (∀ w2,Below w.heap.size w w2→Calls Tryz.prog 103 #[.slice (some ⟨w2.heap.size,0,none⟩) 0 0,.func (.func 135) #[] #[.pointer (some ⟨w2.heap.size+1,0,none⟩)]] ((w2.alloc (.cells #[] 2)).alloc (.cells #[.slice (some ⟨b,off,none⟩) len cap] 166)) fun e w'=>DX w w' e (dh cs (gr cs).toNat)):=by
    intro w2 h2;have hs2:=h2.size;have hB3:Below w.heap.size w ((w2.alloc (.cells #[] 2)).alloc (.cells #[.slice (some ⟨b,off,none⟩) len cap] 166)):=(h2.alloc hs2 _).alloc (by simp;omega) _
    have bN:=Boxed.new (w2.alloc (.cells #[] 2)) 166 (.slice (some ⟨b,off,none⟩) len cap);rw[World.size_alloc] at bN;refine (appendSeq_in w2.heap.size (w2.heap.size+1) w.heap.size b off len cap cs _ hb hl hf hcap hm hbl (by simp;omega) (fun i hi=>(hB3.cell (p:=⟨b,off+i,none⟩) hbl).trans (hc i hi)) bN ((World.ownsRow_made w2 #[] 0 hs2 (Nat.zero_le _) rfl).alloc _)).mono ?_
    rintro e W' ⟨⟨g,c,rfl,ho⟩,hB⟩;obtain⟨g2,c2,hv2,hg2,ho2⟩:=fA.pq ho (by simp)
    cases hv2
    exact⟨g,0,c,rfl,hg2,ho2,hB3.trans hB⟩
   have hd:decide ((200:Int)<lH cs)=false:=by simpa using Bd
   clear hb hsb hall hok hc h18 hl Bd hv hf;generalize dh cs (gr cs).toNat=Z at *;generalize lH cs=z at *;go_enter Tryz.func58,Tryz.ntmps58
   go_wp2_with (first|(go_at_call 101;refine hAr.mono ?_;rintro e w1 ⟨rfl,hB1⟩)|(go_at_call 102;refine (ZC.out _ hB1).mono ?_;rintro e w2 ⟨rfl,hB2⟩)|(go_at_call 104;refine (QI _ _ _ _).mono ?_;rintro e w3 ⟨rfl,rfl⟩)|(go_at_call 103;refine (hW.out _ hB2).mono ?_;rintro e w4 ⟨g,og,c,rfl,hg,ho,hB4⟩))
   go_ret
   exact⟨_,HZ.out,g,og,c,rfl,hg,ho,hB4⟩
end
theorem Me:∀ {L:List Int} {x:Int},(∀ y∈L,y<x)→bT L x=L++[x]
 | [],x,_=>rfl
 | y::L,x,h=>by
  rw[bT,if_pos (h y List.mem_cons_self),Me (fun z hz=>h z (List.mem_cons_of_mem _ hz))]
  rfl
theorem IY {Z:List Int} (hr:Z.Pairwise (·<·)) {j:Nat} (hj:j<Z.length) {y:Int} (hy:y∈Z.take j):y<el Z j:=by
 obtain⟨k,hk,rfl⟩:=List.mem_iff_getElem.1 hy;rw[List.length_take] at hk;rw[List.getElem_take];have:el Z j=Z[j]:=by simp[el,hj]
 rw[this];exact (List.pairwise_iff_getElem.1 hr) k j (by omega) hj (by omega)
theorem Uu {s Z:List Int} (hs:∀ q,q<s.length→el s q=(q:Int)) (hr:Z.Pairwise (·<·)) (h0:∀ x∈Z,0≤x) {j:Nat} (hj:j<Z.length) (hn:el Z j∉fP s Z j):bT (fP s Z j) (el Z j)=fP s Z j++[el Z j]:=by
 refine Me (fun y hy=>?_)
 rcases oN.1 hy with h|h
 ·obtain⟨q,hq,rfl⟩:=(Ea hs).1 h
  have hx:=h0 _ (iF hj);rcases Int.lt_or_le (q:Int) (el Z j) with h1|h1
  ·exact h1
  ·refine absurd (oN.2 (.inl ((Ea hs).2 ⟨(el Z j).toNat,by omega,by omega⟩))) hn
 ·exact IY hr hj h
theorem O8 {R:List Rw} {id:Nat} {o:Rw} {L:List Nat} (h:ends R id o L=true) {k:Nat} (hk:k∈L):(ah R k).aB=true:=by
 rw[ends,List.all_eq_true] at h;have:=h k hk;simp only[Bool.and_eq_true] at this;exact this.1
theorem XE {T:List Int} {n:Nat} (hn:1≤n∧n≤5) (hl:T.length=n) (h12:∀ j,j<n→0≤el T j∧el T j≤12) {Z:List Int} (h:qU T Z):Z=dh T 12:=by
 refine h.unique (.inl ⟨?_, ?_,NQ (by omega) (fun i hi=>by have:=h12 i (by omega);omega)⟩)
 ·obtain⟨h1,h2⟩:=(fF hn hl).2 h12
  simp only[nV,Bool.and_eq_true,List.all_eq_true,decide_eq_true_eq]
  exact⟨h1,fun x hx=>by have:=h2 x hx;omega⟩
 ·have h1:=Qa (cs:=T) (M:=12) (fun i hi=>h12 i (by omega))
  have h2:=CY T 12;omega
theorem Iw.ar4 {w X:World} {B:Nat} {m:Mb} {fp:Fp} {g off c:Nat} (h:Iw w X B m fp g off c) (hf:kH m) {k:Nat} (hk:k<m.rows.length):∃ Ak:Ra,C8 X g (off+k*8) (.int .i64 (ah m.rows k).ver) (.slice Ak.ta (ah m.rows k).txt.length Ak.tc) (.slice Ak.ga (ah m.rows k).got.length Ak.gc) (.slice Ak.sa (ah m.rows k).ak.length Ak.sc) (.bool (ah m.rows k).wed) (.bool (ah m.rows k).aB) (.int .i64 (ah m.rows k).aC) (.slice Ak.ma (ah m.rows k).aA.length Ak.mc)∧nJ X Ak (ah m.rows k)∧((ah m.rows k).got.length≤Ak.gc∧Ak.gc≤maxLen)∧((ah m.rows k).aA.length≤Ak.mc∧Ak.mc≤maxLen):=by
 obtain⟨Ak,h8,hs⟩:=h.row hf hk;obtain⟨f1,f2,f3⟩:=hf.1 _ (lJ hk);obtain⟨⟨q0,q1,q2,q3⟩,q4,q5,q6,q7⟩:=h8;refine⟨Ak,⟨⟨q0,q1,q2,q3⟩,q4,q5,q6,q7⟩,hs, ?_, ?_⟩
 ·obtain⟨u,f,hu,_,how,_⟩:=h.at hk (j:=2) rfl
  obtain⟨a,cc,e,_,h1,h2⟩:=jV (aI.tK how) f1;have:=Option.some.inj (q2.symm.trans (hu.trans (by rw[e])))
  simp only[Value.slice.injEq] at this;rw[this.2.2];exact⟨h1,h2⟩
 ·obtain⟨u,f,hu,_,how,_⟩:=h.at hk (j:=7) rfl
  obtain⟨a,cc,e,_,h1,h2⟩:=jV (aI.tK how) f3;have:=Option.some.inj (q7.symm.trans (hu.trans (by rw[e])))
  simp only[Value.slice.injEq] at this;rw[this.2.2];exact⟨h1,h2⟩
def MB (m:Mb) (i n:Nat):Mb:=if n<2*(aP n (ah m.rows i).ak).length∧ends m.rows i (ah m.rows i) (aP n (ah m.rows i).ak)=true then { m with au:=gG m.au (ah m.rows i).aA,done:=true } else m
theorem ah3 (w0:World) (B:Nat) (m:Mb) (i n:Nat) (fp:Fp) (g off c:Nat) (X:World) (M:Iw w0 X B m fp g off c) (ok:dO m i n) (hd:m.done=false) :
  Calls Tryz.prog 144 #[.pointer (some ⟨B,0,none⟩)] X fun e w'=>e=.returned (.tuple #[])∧Iw w0 w' B (MB m i n) fp g off c:=by
 have hil:i<m.rows.length:=by rw[ok.len];exact ok.lt
 have hr:=ok.ok i ok.lt;have fG:=ok.n5;have hL:=Gv w0 B m i n fp g off c X M ok;have ig:=aj M;have HLn:Hid (∀ k∈aP n (ah m.rows i).ak,k<n):=fun k hk=>(dY.1 hk).1
 have HLi:Hid (i∈aP n (ah m.rows i).ak):=dY.2 ⟨ok.lt,ok.self⟩;have EU:=oP n (ah m.rows i).ak;have HE:Hid (MB m i n=if n<2*(aP n (ah m.rows i).ak).length∧ends m.rows i (ah m.rows i) (aP n (ah m.rows i).ak)=true then { m with au:=gG m.au (ah m.rows i).aA,done:=true } else m):=rfl
 generalize MB m i n=mE at *;generalize Dq:aP n (ah m.rows i).ak=L at *;have hL5:L.length≤5:=by omega
 clear Dq M;go_enter Tryz.func144,Tryz.ntmps144
 go_wp2_with fail
 refine hL.mono ?_;rintro e wl ⟨la,lc,rfl,fl,hl1,hl2,hl3⟩;rw[eP] at hl1 ⊢;have nP:Vec wl la (lN L).length (lN L):=jo (by rw[eP];exact hl1) (sW HLn.out (by omega))
 have bF:=aj (ig.out.step hl3);have hMs:=OE B m.rows.length c L.length lc (some ⟨g,off,none⟩) la wl bF.out.rws (by omega) (by rw[ok.len];exact fG.2)
 have O9:=ah0 w0 B m i n fp g off c wl bF.out ok.Ur L la lc nP HLn.out hL5;rw[ok.len] at hMs;clear hl1 hl2 hl3 hL ig nP;by_cases hmj:n<2*L.length;rotate_left
 ·have HN:Hid (mE=m):=by rw[Hid,HE.out,if_neg (fun h=>hmj h.1)]
  rw[decide_eq_false hmj] at hMs;clear HE hmj O9;go_wp2_with (go_at_call 171;refine hMs.mono ?_;rintro e w' ⟨rfl,hw'⟩;rw[hw'];clear hw')
  try simp only[Exit.inBlock,Exit.then]
  refine bodyPost_ret (results_none rfl _ _ _) rfl ?_;exact⟨rfl,by rw[HN.out];exact bF.out⟩
 rw[decide_eq_true hmj] at hMs
 cases hen:ends m.rows i (ah m.rows i) L with
 | false =>
  have HN:Hid (mE=m):=by rw[Hid,HE.out,if_neg (fun h=>by rw[hen] at h;cases h.2)]
  rw[hen] at O9;clear HE hmj hen;go_wp2_with (first|(go_at_call 171;refine hMs.mono ?_;rintro e w' ⟨rfl,hw'⟩;rw[hw'];clear hw')|(go_at_call 173;refine O9.mono ?_;rintro e w2 ⟨rfl,hb2⟩;have HB2:Hid (Below wl.heap.size wl w2):=hb2;clear hb2))
  try simp only[Exit.inBlock,Exit.then]
  refine bodyPost_ret (results_none rfl _ _ _) rfl ?_;exact⟨rfl,by rw[HN.out];exact bF.out.step HB2.out⟩
 | true =>
  have HRD:=aj (O8 hen HLi.out);have HN:Hid (mE={ m with au:=gG m.au (ah m.rows i).aA,done:=true }):=by rw[Hid,HE.out,if_pos ⟨hmj,hen⟩]
  rw[hen] at O9;clear HE hmj hen;go_upto_region 2 with (first|(go_at_call 171;refine hMs.mono ?_;rintro e w' ⟨rfl,hw'⟩;rw[hw'];clear hw')|(go_at_call 173;refine O9.mono ?_;rintro e w2 ⟨rfl,hb2⟩;have HB2:Hid (Below wl.heap.size wl w2):=hb2;clear hb2))
  have M2:=bF.out.step HB2.out;clear hMs O9 bF HB2;obtain⟨u4,f4,q1,q2,q3,_,q4⟩:=M2.He (j:=3) (cl:=.v (.bool m.done)) rfl (by omega)
  obtain⟨rfl,_⟩:=q3;obtain⟨_,_,M3⟩:=q4 w2 (.v (.bool true)) (.bool true) (fun _=>False) { m with done:=true } rfl rfl (aO.refl _ _) ⟨rfl,fun _ h=>h⟩ (fun b hb=>hb.elim)
  have iQ:=aj M3;have q1':w2.cell? ⟨B,3,none⟩=some (.bool m.done):=by simpa using q1
  have q2':w2.frozen? ⟨B,3,none⟩=false:=by simpa using q2
  clear M2 M3 q4 q1 q2;rw[show 0+3=3 from rfl] at iQ
  go_upto_region 3 with fail
  generalize w2.setCell ⟨B,3,none⟩ (.bool true)=W3 at *;clear q1' q2';obtain⟨c0,_⟩:=iQ.out.id';have c1:=iQ.out.rws;simp only at c0 c1
  rw[ok.hid] at c0;have lF:=jQ B i m.rows.length g off c W3 c0 c1 hil;clear c0 c1;go_wp2_with fail
  refine lF.mono ?_;rintro e W4 ⟨rfl,hb4⟩;have iR:=aj (iQ.out.step hb4);clear lF hb4 iQ;obtain⟨Ai,⟨⟨_,_,_,_⟩,_,_,_,d7⟩,uY,_,hkm⟩:=iR.out.ar4 (m:={ m with done:=true }) ok.fit hil
  simp only at d7 uY hkm
  obtain⟨_,_,ar5,htl,h12⟩:=hr.aB HRD.out;have hsm:=(fF hr.n5 htl).1 ⟨ar5,h12⟩;have hW:=Ut Ai.ma (ah m.rows i).aA.length Ai.mc (ah m.rows i).aA W4 uY.aA hkm.1 hkm.2;have DC:=aj htl;have Pg:=aj hsm;have HSg:Hid (gG m.au (ah m.rows i).aA=fP m.au (dh (ah m.rows i).aA 12) (dh (ah m.rows i).aA 12).length):=by rw[Hid,H9];rfl
  clear uY htl hsm ar5 h12 hr hkm;generalize (ah m.rows i).aA=T at *;go_wp2_with (go_at_call 58;refine hW.mono ?_;rintro e W5 ⟨Z,hZ,sg,so,sc,rfl,hsg,hO,hb5⟩)
  obtain rfl:=XE fG DC.out Pg.out hZ
  have Bq:(dh T 12).length≤60:=by
   have:=CY T 12;rw[DC.out] at this;omega
  have Td:Fits (dh T 12):=H6 (by rw[DC.out];omega) (by omega)
  have HZr:=aj (rG T 12)
  have HZ0:Hid (∀ x∈dh T 12,0≤x):=fun x hx=>by
   obtain⟨k,j,_,_,_,rfl⟩:=sS.1 hx;have:(T.length:Int)*(k:Int)=((T.length*k:Nat):Int):=by simp
   omega
  obtain⟨gy,f1,f2,_,M5,Tc⟩:=iR.out.sub hb5;have uJ:=aj Tc;have dJ:=aj M5;have HsB:Hid (¬ gy sg∧sg≠B):=⟨fun k=>by have:=f1 _ k;omega,by omega⟩
  have HUp:Hid (∀ q,q<m.au.length→el m.au q=(q:Int)):=fun q hq=>(ok.sg q hq).2 hd
  generalize dh T 12=Z at *;have HOs:Hid (aI.ow W5 (bQ Z) (.slice (some ⟨sg,so,none⟩) Z.length sc) (fun b=>b=sg)):=fB.2 ⟨_,sc,some sg,rfl,dR.of hO,fun b=>by simp[eq_comm]⟩
  clear hW hZ hO hb5 f1 f2 Tc M5 hsg iR d7;go_wp2_with fail
  go_loopw [35] (fun v wr=>∃ j:Nat,j≤Z.length∧v=.int .i64 (j:Int)∧Iw W5 wr B { m with done:=true,au:=fP m.au Z j } gy g off c) (fun v _=>Z.length-(intOf v).toNat)
  case atStart=>exact⟨0,Nat.zero_le _,rfl,dJ.out⟩
  case round =>
   obtain⟨j,hj,rfl,M⟩:=hrel;by_cases hlt2:j<Z.length
   ·have j1:(j:Int)<(Z.length:Int):=by omega
    have j0:(0:Int)≤(j:Int):=by omega
    have hsl:=xP (s:=m.au) (Z:=Z) j;have hsf:=vN (s:=m.au) (Z:=Z) ok.fit.2 Td j;have hms:=ok.sl;have xJ:Hid (fP m.au Z (j+1)=if el Z j∈fP m.au Z j then fP m.au Z j else bT (fP m.au Z j) (el Z j)):=vM hlt2
    have LK:Hid (el Z j∉fP m.au Z j→bT (fP m.au Z j) (el Z j)=fP m.au Z j++[el Z j]):=fun h=>Uu HUp.out HZr.out HZ0.out hlt2 h
    have Tf:=jo (M.Ob HOs.out (fun b hb=>by rw[hb];exact HsB.out)) Td
    rcases Tf.2.2 with hz|⟨zb,zo,ez,hzc⟩
    ·omega
    cases ez
    have hzj:=hzc j hlt2;generalize el Z j=x at *;generalize hsj:fP m.au Z j=sj at *;have hfm:kH { m with done:=true,au:=sj }:=⟨ok.fit.1,hsf⟩
    obtain⟨sa,Uw,⟨c0,c1,c2,c3⟩,ar6⟩:=M.box hfm;simp only at c2
    have hsv:=ar6.au;have hC:=oV sa Uw sj x wr hsv (by unfold maxLen;omega)
    have HM:=aj M;have HSj:Hid (sj.length≤1000):=by rw[Hid];omega
    clear ar6 hsv hzc Tf hsf hsl M c0 c1 c3;by_cases hin:x∈sj
    ·rw[decide_eq_true hin] at hC
     have HK:Hid (fP m.au Z (j+1)=sj):=by rw[Hid,xJ.out,if_pos hin]
     clear hin xJ LK hsj;go_wp2_with (go_at_call 88;refine hC.mono ?_;rintro e w' ⟨rfl,hw'⟩;rw[hw'];clear hw')
     go_roundw
     case rel=>exact⟨j+1,by omega,by go_num,by rw[HK.out];exact HM.out⟩
     case measure=>simp[intOf];omega
    ·rw[decide_eq_false hin] at hC
     have HK:Hid (fP m.au Z (j+1)=sj++[x]):=by rw[Hid,xJ.out,if_neg hin,LK.out hin]
     clear hin xJ LK hsj;obtain⟨u,f,hu,hz,how,hlt,hset⟩:=HM.out.He (j:=2) rfl (by decide)
     obtain rfl:=Option.some.inj (hu.symm.trans c2);obtain⟨sa',sc',es,hA⟩:=ny x how (Nat.le_trans HSj.out (by decide))
     cases es
     have Gz:Hid (∀ (X1:World) (c':aI) (u':Value) (f':Fp) (m':Mb),(iJ { m with done:=true,au:=sj }).set 2 c'=iJ m'→m'.rows.length=m.rows.length→aO f wr X1→aI.ow X1 c' u' f'→(∀ b,f' b→f b∨wr.heap.size≤b)→X1.cell? ⟨B,2,none⟩=some (.slice sa sj.length Uw)∧X1.frozen? ⟨B,2,none⟩=false∧Iw W5 (X1.setCell ⟨B,2,none⟩ u') B m' gy g off c):=by rw[Hid];simpa using hset
     clear hset hu hz hlt how;go_upto_region 7 with (go_at_call 88;refine hC.mono ?_;rintro e w' ⟨rfl,hw'⟩;rw[hw'];clear hw')
     clear hzj;go_upto_region 8 with (at_builtin;refine aZ (by rfl) _ _ _ _ (by rfl) _ _ (by rfl) (by rfl) hA ⟨rfl,rfl,rfl,rfl⟩ ?_;rintro v1 w1 ⟨a1,e1,f1,rfl,k1,k2,k3⟩;obtain⟨q1,q2,M2⟩:=Gz.out w1 (bQ (sj++[x])) (.slice a1 (sj.length+1) e1) f1 { m with done:=true,au:=sj++[x] } rfl rfl k3 k1 k2;have eF:Hid (Iw W5 (w1.setCell ⟨B,2,none⟩ (.slice a1 (sj.length+1) e1)) B { m with done:=true,au:=sj++[x] } gy g off c):=M2;clear M2 k1 k2 k3 hA c2 hC)
     generalize w1.setCell ⟨B,2,none⟩ (.slice a1 (sj.length+1) e1)=W9 at *;clear q1 q2;go_wp2;go_roundw
     case rel=>exact⟨j+1,by omega,by go_num,by rw[HK.out];exact eF.out⟩
     case measure=>simp[intOf];omega
   ·have j1:¬ ((j:Int)<(Z.length:Int)):=by omega
    obtain rfl:j=Z.length:=by omega
    have HK:Hid (Iw w0 wr B mE fp g off c):=by
     rw[Hid,HN.out,HSg.out];exact uJ.out _ _ M
    clear M;go_wp2
    first|go_end0|go_ret
    exact⟨rfl,HK.out⟩
theorem Ux (F:Nat) (C:Array Value) (a:Option Addr) (n cap:Nat) (H:List (List Int)) (I:Nat→Option Addr→Nat→Nat→World→Prop) (a0:Option Addr) (m0 c0:Nat) (w:World) (hn:n≤8)
  (hE:∀ (args:Array Value) (w:World),(callFunc F args).run Tryz.prog w=.ok (.enter F args) w) (hV:∀ k x m c X,I k x m c X→VV X a n cap H)
  (hF:∀ k x m c X y cy,k<n→I k x m c X→Vec X y (row H k).length (row H k)→(row H k).length≤cy→cy≤maxLen→Calls Tryz.prog F (#[.slice x m c,.slice y (row H k).length cy]++C) X fun e w'=>∃ x' m' c',e=.returned (.slice x' m' c')∧I (k+1) x' m' c' w')
  (h0:I 0 a0 m0 c0 w):Calls Tryz.prog 197 #[.func (.func F) #[] C,.slice a n cap,.slice a0 m0 c0] w fun e w'=>∃ x m c,e=.returned (.slice x m c)∧I n x m c w':=by
 have HV:=aj hV;clear hV;go_enter Tryz.func197,Tryz.ntmps197
 go_wp2
 go_loopw [7,9,13] (fun v _ i wr=>∃ (k:Nat) (x:Option Addr) (m c:Nat),k≤n∧i=.int .i64 (k:Int)∧v=.slice x m c∧I k x m c wr) (fun _ _ i _=>n-(intOf i).toNat)
 case atStart=>exact⟨0,a0,m0,c0,Nat.zero_le _,rfl,rfl,h0⟩
 case round =>
  obtain⟨k,x,m,c,hk,rfl,rfl,hI⟩:=hrel;have HI:=aj hI;clear hI h0;by_cases hlt:k<n
  ·have k1:(k:Int)<(n:Int):=by omega
   have k0:(0:Int)≤(k:Int):=by omega
   obtain⟨b,off,rfl,hc⟩:=Ld (HV.out _ _ _ _ _ HI.out) (by omega)
   obtain⟨y,cy,hcy,hvy,hl,hm⟩:=hc k hlt;have hC:=hF k x m c wr y cy hlt HI.out hvy hl hm;clear hc hvy hF;generalize (row H k).length=L at *;go_wp2_with fail
   refine hC.mono ?_;rintro e w1 ⟨x1,m1,c1,rfl,hI1⟩;have HI1:=aj hI1;clear hI1 hC hcy;go_wp2;go_roundw
   case rel=>exact⟨k+1,x1,m1,c1,by omega,by go_num,rfl,HI1.out⟩
   case measure=>simp[intOf];omega
  ·have k1:¬ ((k:Int)<(n:Int)):=by omega
   obtain rfl:k=n:=by omega
   go_wp2;go_ret
   exact⟨x,m,c,rfl,HI.out⟩
def wY (f:Int→Int→Int) (L:List (List Int)):Nat→List Int
 | 0=>row L 0
 | k+1=>dU f (wY f L k) (row L k)
def EvR (L:List (List Int)):Prop:=∀ k,k<L.length→okB (row L k)=true∧(row L k).length=(row L 0).length
theorem Uy {f:Int→Int→Int} (hf:∀ x,f x x=x) {r:List Int} (h:okB r=true):dU f r r=r:=by
 have ht:mZ r r=true:=by simp[mZ,h]
 rw[dU,if_pos ht];refine List.ext_getElem (by rw[jk]) (fun i h1 h2=>?_)
 simp[jn,hf,el,h2]
theorem Uz {f:Int→Int→Int} (hf:∀ x y,(0≤x∧x≤1000000)→(0≤y∧y≤1000000)→0≤f x y∧f x y≤1000000) {L:List (List Int)} (h:EvR L) (h1:1≤L.length):∀ k,k≤L.length→okB (wY f L k)=true∧(wY f L k).length=(row L 0).length
 | 0,_=>h 0 (by omega)
 | k+1,hk=>by
  obtain⟨i1,i2⟩:=Uz hf h h1 k (by omega)
  obtain⟨a1,a2⟩:=h k (by omega)
  obtain⟨e1,e2,e3⟩:=NR hf i1 a1 (by rw[i2,a2])
  exact⟨e3,by rw[wY,e2,i2]⟩
theorem ah4 {L:List (List Int)} {x:List Int} {k:Nat} (hk:k<L.length):row (L++[x]) k=row L k:=by
 simp[row,List.getD_eq_getElem?_getD,List.getElem?_append_left hk]
theorem XF {L:List (List Int)} {x:List Int}:row (L++[x]) L.length=x:=by simp[row]
theorem ah5 {Z:List Int} (h:okB Z=true):Fits Z:=fun y hy=>by
 obtain⟨j,hj,rfl⟩:=List.mem_iff_getElem.1 hy;have:=qZ h hj;simp[el,hj] at this
 omega
theorem QK (F:Nat) (f:Int→Int→Int) (hf:∀ x y,(0≤x∧x≤1000000)→(0≤y∧y≤1000000)→0≤f x y∧f x y≤1000000)
  (hE:∀ (args:Array Value) (w:World),(callFunc F args).run Tryz.prog w=.ok (.enter F args) w)
  (hP:∀ (a a':Option Addr) (len cap len' cap':Nat) (xs ys:List Int) (w:World),Vec w a len xs→Vec w a' len' ys→len≤cap→len'≤cap'→cap≤maxLen→cap'≤maxLen→Calls Tryz.prog F #[.slice a len cap,.slice a' len' cap'] w fun e w'=>∃ g c,e=.returned (.slice (some ⟨g,0,none⟩) (dU f xs ys).length c)∧w.heap.size≤g∧OwnAt w' g c (dU f xs ys)∧Below w.heap.size w w')
  (a:Option Addr) (n cap:Nat) (L:List (List Int)) (w:World) (hv:VV w a n cap L) (hn:n≤8) (hL:EvR L) :
  Calls Tryz.prog 193 #[.slice a n cap,.func (.func F) #[] #[]] w fun e w'=>DX w w' e (if n=0 then [] else wY f L n):=by
 have HN:=aj hv.n;by_cases h0:n=0
 ·subst h0
  have HA:Hid (OI (w.alloc (.cells #[] 2)) w.heap.size 0 0 0 []∧Below w.heap.size w (w.alloc (.cells #[] 2))):=⟨jX w 2,(Below.refl _ _).alloc (Nat.le_refl _) _⟩;clear hv hP hE;go_enter Tryz.func193,Tryz.ntmps193
  go_wp2;go_ret
  exact⟨_,0,0,rfl,Nat.le_refl _,HA.out.1,HA.out.2⟩
 ·rw[if_neg h0]
  have hF:=Uz hf hL (by rw[HN.out];omega)
  rw[HN.out] at hF;obtain⟨b,off,rfl,hc⟩:=Ld hv (by omega)
  obtain⟨x0,c0,hc0,hv0,hl0,hm0⟩:=hc 0 (by omega)
  rw[Nat.add_zero] at hc0
  have hO:=Ux F #[] (some ⟨b,off,none⟩) n cap L (fun k x m c X=>m=(wY f L k).length∧Below w.heap.size w X∧Vec X x m (wY f L k)∧m≤c∧c≤maxLen∧(0<k→∃ g o,x=some ⟨g,o,none⟩∧w.heap.size≤g∧OI X g o m c (wY f L k))) x0 (row L 0).length c0 w hn hE
   (fun k x m c X h=>hv.below h.2.1)
   (fun k x m c X y cy hk h hy hl hm => by
    obtain⟨h1,h2,h3,h4,h5,_⟩:=h;refine (hP x y m c (row L k).length cy (wY f L k) (row L k) X h3 hy h4 hl h5 hm).mono ?_;rintro e w' ⟨g,c',rfl,hg,hown,hb⟩;have hoi:=OI.own hown;have hfit:=ah5 (hF (k+1) (by omega)).1
    refine⟨_,_,_,rfl,rfl,h2.trans (hb.mono h2.size),hoi.vec hfit,hoi.le,hoi.max,fun _=>⟨g,0,rfl,Nat.le_trans h2.size hg,hoi⟩⟩)
   ⟨rfl,Below.refl _ _,hv0,hl0,hm0,fun h=>absurd h (by omega)⟩
  have n0:(0:Int)<(n:Int):=by omega
  have n1:((n:Int)==0)=false:=by simp;omega
  have HS:Hid (0<n):=by rw[Hid];omega
  clear hv hc hv0 hP hE hF;generalize (row L 0).length=L0 at *;go_enter Tryz.func193,Tryz.ntmps193
  go_wp2_with fail
  refine hO.mono ?_;rintro e w1 ⟨x,m,c,rfl,hm,hb,_,_,_,hg⟩;obtain⟨g,o,hx,hgs,hoi⟩:=hg HS.out;have HH:Hid (m=(wY f L n).length∧Below w.heap.size w w1∧x=some ⟨g,o,none⟩∧w.heap.size≤g∧OI w1 g o m c (wY f L n)):=⟨hm,hb,hx,hgs,hoi⟩;clear hm hb hx hgs hoi hg hO hc0;go_wp2;go_ret
  obtain⟨q1,q2,q3,q4,q5⟩:=HH.out;subst q1;subst q3;exact⟨g,o,c,rfl,q4,q5,q2⟩
def Pj (w:World) (L:List (List Int)) (vs:List Value):Prop:=vs.length=L.length∧∀ i,i<L.length→∃ x c,vs[i]?=some (.slice x (row L i).length c)∧Vec w x (row L i).length (row L i)∧(row L i).length≤c∧c≤maxLen
theorem Pj.snoc {w:World} {L:List (List Int)} {vs:List Value} (h:Pj w L vs) {r:List Int} {x:Option Addr} {c:Nat} (hv:Vec w x r.length r) (h1:r.length≤c) (h2:c≤maxLen):Pj w (L++[r]) (vs++[.slice x r.length c]):=by
 refine⟨by simp[h.1],fun i hi=>?_⟩
 by_cases e:i=L.length
 ·rw[e,XF]
  exact⟨x,c,by rw[← h.1];simp,hv,h1,h2⟩
 ·have hi':i<L.length:=by simp at hi;omega
  obtain⟨y,d,a1,a2,a3,a4⟩:=h.2 i hi';rw[ah4 hi'];exact⟨y,d,by rw[List.getElem?_append_left (by rw[h.1];exact hi')];exact a1,a2,a3,a4⟩
theorem Pj.vv {w w':World} {L:List (List Int)} {vs:List Value} {g o c:Nat} (h:Pj w L vs) (hb:Below w.heap.size w w') (ho:fA w' 1 g o L.length c vs):VV w' (some ⟨g,o,none⟩) L.length c L:=by
 refine⟨rfl,ho.le,ho.max,fun i hi=>?_⟩
 obtain⟨x,d,a1,a2,a3,a4⟩:=h.2 i hi;exact⟨g,o,x,d,rfl,by rw[ho.cell i (by omega),a1],a2.below hb (Nat.le_refl _),a3,a4⟩
theorem MC {f:Int→Int→Int} (hf:∀ x,f x x=x) {r:List Int} {rs:List (List Int)} (hr:okB r=true):∀ k,k≤rs.length→wY f (r::rs) (k+1)=(rs.take k).foldl (dU f) r
 | 0,_=>by
  show dU f (row (r::rs) 0) (row (r::rs) 0)=r
  simp only[row,List.getD_cons_zero]
  exact Uy hf hr
 | k+1,hk=>by
  have ih:=MC hf hr (rs:=rs) k (by omega)
  show dU f (wY f (r::rs) (k+1)) (row (r::rs) (k+1))=_
  rw[ih,List.take_succ_eq_append_getElem (by omega),List.foldl_append]
  simp[row,List.getD,show k<rs.length by omega]
theorem UA (R:List Rw) {L:List Nat} (hL:∀ k∈L,okB (ah R k).got=true) (h0:0<L.length):wY min (L.map (fun j=>(ah R j).got)) L.length=meets R L:=by
 cases L with
 | nil=>cases h0
 | cons k t =>
  have:=MC (f:=min) (fun x=>by omega) (r:=(ah R k).got) (rs:=t.map (fun j=>(ah R j).got)) (hL k List.mem_cons_self) t.length (by simp)
  rw[List.map_cons,List.length_cons,this,List.take_of_length_le (by simp),List.foldl_map]
  rfl
def kR (R:List Rw) (L:List Nat) (k:Nat):List (List Int):=(L.take k).map (fun j=>(ah R j).got)
theorem Nv (R:List Rw) {L:List Nat} {k:Nat} (hk:k<L.length):kR R L (k+1)=kR R L k++[(ah R (L.getD k 0)).got]:=by
 unfold kR;rw[List.take_succ_eq_append_getElem hk,List.map_append];simp[List.getD,hk]
theorem FP (R:List Rw) {L:List Nat} {k:Nat} (hk:k≤L.length):(kR R L k).length=k:=by
 unfold kR;rw[List.length_map,List.length_take];omega
theorem QL (R:List Rw) (L:List Nat):kR R L L.length=L.map (fun j=>(ah R j).got):=by rw[kR,List.take_length]
theorem UC (R:List Rw) {L:List Nat} {k:Nat} (hk:k<L.length) (a:Int×List Int):best R (L.take (k+1)) a=if (ah R (L.getD k 0)).aB=true∧(best R (L.take k) a).1<(ah R (L.getD k 0)).aC then ((ah R (L.getD k 0)).aC,(ah R (L.getD k 0)).aA) else best R (L.take k) a:=by
 have e:L.getD k 0=L[k]:=by simp[List.getD,hk]
 unfold best;rw[List.take_succ_eq_append_getElem hk,List.foldl_append,e]
 rfl
def ar7 (X:World) (b:Int×List Int) (rd:Bool) (x7:Value):Prop:=rd=decide (0≤b.1)∧(rd=true→∃ ta tc,x7=.slice ta b.2.length tc∧Vec X ta b.2.length b.2)
def aA7 (w w':World) (e:Ending) (T:List Int):Prop:=∃ ta tc,e=.returned (.slice ta T.length tc)∧Vec w' ta T.length T∧Below w.heap.size w w'
theorem XG {m:Mb} {i n:Nat} (ok:OkW m i n) {L:List Nat} (hL:∀ k∈L,k<n):EvR (L.map (fun j=>(ah m.rows j).got)):=by
 have key:∀ k,k<L.length→okB (row (L.map (fun j=>(ah m.rows j).got)) k)=true∧(row (L.map (fun j=>(ah m.rows j).got)) k).length=n:=fun k hk=>by
  have e:row (L.map (fun j=>(ah m.rows j).got)) k=(ah m.rows L[k]).got:=by simp[row,List.getD,hk]
  have h:=ok.ok L[k] (hL _ (List.getElem_mem hk));rw[e];exact⟨h.got,h.gl⟩
 intro k hk;rw[List.length_map] at hk;exact⟨(key k hk).1,(key k hk).2.trans (key 0 (by omega)).2.symm⟩
theorem ah6 (w0:World) (B:Nat) (m:Mb) (i n:Nat) (fp:Fp) (g off c:Nat) (X:World) (M:Iw w0 X B m fp g off c) (ok:OkW m i n) (L:List Nat) (la:Option Addr) (lc:Nat) (hv:Vec X la (lN L).length (lN L)) (hLn:∀ k∈L,k<n) (EU:L.length≤5) (hL0:0<L.length) :
  Calls Tryz.prog 187 #[.pointer (some ⟨B,0,none⟩),.slice la L.length lc] X fun e w'=>aA7 X w' e (endOf m.rows L):=by
 obtain⟨i1,hi1,hy0,hy1,hy2⟩:=gX Wj;have fG:=ok.n5;have HM:=aj M;have HLn:=aj ok.len;have hml:m.rows.length≤5:=by rw[ok.len];exact fG.2
 have cO:=aj ok.ok;have Ah:=aj ok.fit;have HL:=aj hLn;have HV:=aj hv;have HEv:=aj (XG ok hLn);have lD:Hid (wY min (L.map (fun j=>(ah m.rows j).got)) L.length=meets m.rows L):=UA m.rows (fun k hk=>(ok.ok k (hLn k hk)).got) hL0
 have HFz:Hid (Fits (meets m.rows L)):=by
  obtain ⟨h1,h2⟩ := vJ (R := m.rows) fG (L := L) (by intro e;rw [e] at hL0;cases hL0) (fun k hk => by
   have h:=ok.ok k (hLn k hk);exact⟨h.gl,(fF h.n5 h.gl).1 ⟨h.got,h.g12⟩⟩)
  intro x hx;obtain⟨j,hj,rfl⟩:=D7.1 hx;have:=h2 j (by omega)
  obtain⟨q1,_,q,hq,q2⟩:=this;have hh:=ok.ok q (hLn q hq);have:=(fF hh.n5 hh.gl).1 ⟨hh.got,hh.g12⟩ j (by omega)
  omega
 have hb0:Below X.heap.size X ((X.alloc (.cells #[] 41)).alloc (.cells #[.int .i64 0,.slice none 0 0,.slice none 0 0,.slice none 0 0,.bool false,.bool false,.int .i64 (-1),.slice none 0 0] 44)):=(aF X _).trans ((aF _ _).mono (aF X _).size)
 have hx0:Bx ((X.alloc (.cells #[] 41)).alloc (.cells #[.int .i64 0,.slice none 0 0,.slice none 0 0,.slice none 0 0,.bool false,.bool false,.int .i64 (-1),.slice none 0 0] 44)) (X.heap.size+1) 44 #[.int .i64 0,.slice none 0 0,.slice none 0 0,.slice none 0 0,.bool false,.bool false,.int .i64 (-1),.slice none 0 0]:=by
  have:=Bx.new (X.alloc (.cells #[] 41)) 44 #[.int .i64 0,.slice none 0 0,.slice none 0 0,.slice none 0 0,.bool false,.bool false,.int .i64 (-1),.slice none 0 0];simp only[World.size_alloc] at this;exact this
 have hE0:fA ((X.alloc (.cells #[] 41)).alloc (.cells #[.int .i64 0,.slice none 0 0,.slice none 0 0,.slice none 0 0,.bool false,.bool false,.int .i64 (-1),.slice none 0 0] 44)) 1 X.heap.size 0 0 0 []:=fA.below (⟨rfl,Nat.le_refl _,Nat.zero_le _,by simp,fun i hi=>by omega,fun i hi=>by omega,fun i hi=>by omega⟩:fA (X.alloc (.cells #[] 41)) 1 X.heap.size 0 0 0 []) ((Below.refl _ _).alloc (Nat.le_refl _) _) (by simp)
 have HB0:=aj hb0;have HX0:=aj hx0;have Zw:=aj hE0;clear M hv hLn hb0 hx0 hE0;go_enter Tryz.func187,Tryz.ntmps187
 go_wp2_with fail
 generalize (X.alloc (.cells #[] 41)).alloc (.cells #[.int .i64 0,.slice none 0 0,.slice none 0 0,.slice none 0 0,.bool false,.bool false,.int .i64 (-1),.slice none 0 0] 44)=W0 at *
 go_loopw [6,14] (fun v i wr=>∃ (k gg og cg:Nat) (vs:List Value) (b:Int×List Int) (x0 x1 x2 x3 x4 x7:Value) (rd:Bool),k≤L.length∧i=.int .i64 (k:Int)∧v=.slice (some ⟨gg,og,none⟩) (kR m.rows L k).length cg∧X.heap.size≤gg∧gg≠X.heap.size+1∧fA wr 1 gg og (kR m.rows L k).length cg vs∧Pj X (kR m.rows L k) vs∧Hid (b=best m.rows (L.take k) (-1,[]))∧Hid (ar7 X b rd x7)∧Bx wr (X.heap.size+1) 44 #[x0,x1,x2,x3,x4,.bool rd,.int .i64 b.1,x7]∧Below X.heap.size X wr) (fun _ i _=>L.length-(intOf i).toNat)
 case atStart=>exact⟨0,X.heap.size,0,0,[],(-1,[]),_,_,_,_,_,_,_,Nat.zero_le _,rfl,rfl,Nat.le_refl _,by omega,Zw.out,⟨rfl,fun i hi=>by simp[kR] at hi⟩,rfl,⟨rfl,fun h=>by cases h⟩,HX0.out,HB0.out⟩
 case round =>
  obtain⟨k,gg,og,cg,vs,b,x0,x1,x2,x3,x4,x7,rd,hk,rfl,rfl,hg1,hg2,hO,hS,Dx,hLa,hxl,hb⟩:=hrel;have LO:=aj hO;have LS:=aj hS;have LB:=aj hb;have LG:Hid (X.heap.size≤gg∧gg≠X.heap.size+1):=⟨hg1,hg2⟩;have LXl:=aj hxl;have LLE:(kR m.rows L k).length≤5:=by rw[FP m.rows hk];omega
  clear hO hS hg1 hg2 HB0 HX0 Zw;by_cases hlt:k<L.length
  ·have l9:L.getD k 0<n:=HL.out _ (jq hlt)
   have pK:L.getD k 0<m.rows.length:=by rw[HLn.out];exact l9
   rcases (HV.out.below hb (Nat.le_refl _)).2.2 with hz|⟨lb,lo,hla,hlc⟩
   ·rw[eP] at hz;omega
   have hlk:=hlc k (by rw[eP];exact hlt)
   rw[rX hlt] at hlk;obtain⟨AJ0,_,wI⟩:=HM.out.row Ah.out pK;obtain⟨AJ,⟨⟨d0,d1,d2,d3⟩,d4,d5,d6,d7⟩,hrs,hkg,_⟩:=(HM.out.step hb).ar4 Ah.out pK;have jP:=(HM.out.step hb).rws;have Ap:=aj (Nv m.rows hlt)
   have UD:Hid (best m.rows (L.take (k+1)) (-1,[])=if (ah m.rows (L.getD k 0)).aB=true∧b.1<(ah m.rows (L.getD k 0)).aC then ((ah m.rows (L.getD k 0)).aC,(ah m.rows (L.getD k 0)).aA) else b):=by
    have:=UC m.rows hlt (-1,[]);rw[← Dx.out] at this;exact this
   have hokr:=cO.out _ l9;have HR0:Hid ((ah m.rows (L.getD k 0)).aB=true→0≤(ah m.rows (L.getD k 0)).aC):=fun h=>(hokr.aB h).2.1.1
   generalize L.getD k 0=J at *;have k1:(k:Int)<(L.length:Int):=by omega
   have k0:(0:Int)≤(k:Int):=by omega
   have J0:(0:Int)≤(J:Int):=by omega
   have J1:(J:Int)<(m.rows.length:Int):=by omega
   have Oi:Hid (Vec X AJ.ga (ah m.rows J).got.length (ah m.rows J).got∧Vec X AJ.ma (ah m.rows J).aA.length (ah m.rows J).aA):=by
    obtain⟨AK,⟨⟨q0,q1,q2,q3⟩,q4,q5,q6,q7⟩,hrk⟩:=HM.out.row Ah.out pK;have t:∀ {x v},X.cell? x=some v→wr.cell? x=some v:=fun h=>(hb.cell (World.block_lt_of_cell? _ _ h)).trans h
    have e2:=Option.some.inj (d2.symm.trans (t q2));have e7:=Option.some.inj (d7.symm.trans (t q7));simp only[Value.slice.injEq] at e2 e7;rw[e2.1,e7.1];exact⟨hrk.got,hrk.aA⟩
   have hmg:=hrs.mg;have Pm:=aj hkg;clear hokr hrs wI hkg;generalize ah m.rows J=r at *;have hba:=aF wr (.cells #[.int .i64 r.ver,.slice AJ.ta r.txt.length AJ.tc,.slice AJ.ga r.got.length AJ.gc,.slice AJ.sa r.ak.length AJ.sc,.bool r.wed,.bool r.aB,.int .i64 r.aC,.slice AJ.ma r.aA.length AJ.mc] 44);have hxr:=Bx.new wr 44 #[.int .i64 r.ver,.slice AJ.ta r.txt.length AJ.tc,.slice AJ.ga r.got.length AJ.gc,.slice AJ.sa r.ak.length AJ.sc,.bool r.wed,.bool r.aB,.int .i64 r.aC,.slice AJ.ma r.aA.length AJ.mc];have iw:=aj hba;have hrl:wr.heap.size≠X.heap.size+1:=by have:=hxl.lt;omega
   have mG:=aj hxr;have IG:=aj (hxl.below hba);have LO5:=aj (fA.below LO.out hba LO.out.blk);have LB5:=aj (LB.out.trans (hba.mono LB.out.size));rw[hla];have ZB:=aj hla;clear hlc hba hxr hla hxl hb;go_upto_region 6 with fail
   generalize wr.alloc (.cells #[.int .i64 r.ver,.slice AJ.ta r.txt.length AJ.tc,.slice AJ.ga r.got.length AJ.gc,.slice AJ.sa r.ak.length AJ.sc,.bool r.wed,.bool r.aB,.int .i64 r.aC,.slice AJ.ma r.aA.length AJ.mc] 44)=W5 at *;clear d0 d1 d2 d3 d4 d5 d6 d7 jP hlk;obtain⟨⟨_,_,p2,_⟩,_,p5,p6,_⟩:=Bx.r8 mG.out;have z6:=IG.out.at 6 (v:=.int .i64 b.1) rfl;generalize wr.heap.size=RB at *;by_cases hc:r.aB=true∧b.1<r.aC
   ·have KU:Hid ((r.aC,r.aA)=best m.rows (L.take (k+1)) (-1,[])):=by rw[Hid,UD.out,if_pos hc]
    obtain⟨hrd,hgt⟩:=hc;have HR1:Hid (0≤r.aC):=HR0.out hrd;rw[hrd] at p5;obtain⟨⟨s0,s1,s2,s3⟩,s4,s5,s6,s7⟩:=Bx.r8 mG.out;obtain⟨⟨f0,f1,f2,f3,f4⟩,f5,f6,f7⟩:(W5.frozen? ⟨X.heap.size+1,0,none⟩=false∧W5.frozen? ⟨X.heap.size+1,1,none⟩=false∧W5.frozen? ⟨X.heap.size+1,2,none⟩=false∧W5.frozen? ⟨X.heap.size+1,3,none⟩=false∧W5.frozen? ⟨X.heap.size+1,4,none⟩=false)∧W5.frozen? ⟨X.heap.size+1,5,none⟩=false∧W5.frozen? ⟨X.heap.size+1,6,none⟩=false∧W5.frozen? ⟨X.heap.size+1,7,none⟩=false:=⟨IG.out.f5,IG.out.f 5,IG.out.f 6,IG.out.f 7⟩;obtain⟨⟨y0,y1,y2,y3⟩,y4,y5,y6,y7⟩:=Bx.r8 IG.out;rw[hrd] at s5;have gt1:r.aC>b.1:=hgt;clear hgt UD z6 p2 p6 p5;have aA8:Hid (Bx ((((((((W5.setCell ⟨X.heap.size+1,0,none⟩ (.int .i64 r.ver)).setCell ⟨X.heap.size+1,1,none⟩ (.slice AJ.ta r.txt.length AJ.tc)).setCell ⟨X.heap.size+1,2,none⟩ (.slice AJ.ga r.got.length AJ.gc)).setCell ⟨X.heap.size+1,3,none⟩ (.slice AJ.sa r.ak.length AJ.sc)).setCell ⟨X.heap.size+1,4,none⟩ (.bool r.wed)).setCell ⟨X.heap.size+1,5,none⟩ (.bool true)).setCell ⟨X.heap.size+1,6,none⟩ (.int .i64 r.aC)).setCell ⟨X.heap.size+1,7,none⟩ (.slice AJ.ma r.aA.length AJ.mc)) RB 44 #[.int .i64 r.ver,.slice AJ.ta r.txt.length AJ.tc,.slice AJ.ga r.got.length AJ.gc,.slice AJ.sa r.ak.length AJ.sc,.bool r.wed,.bool r.aB,.int .i64 r.aC,.slice AJ.ma r.aA.length AJ.mc]):=(((((((mG.out.far hrl _).far hrl _).far hrl _).far hrl _).far hrl _).far hrl _).far hrl _).far hrl _;have Es:Hid (Bx ((((((((W5.setCell ⟨X.heap.size+1,0,none⟩ (.int .i64 r.ver)).setCell ⟨X.heap.size+1,1,none⟩ (.slice AJ.ta r.txt.length AJ.tc)).setCell ⟨X.heap.size+1,2,none⟩ (.slice AJ.ga r.got.length AJ.gc)).setCell ⟨X.heap.size+1,3,none⟩ (.slice AJ.sa r.ak.length AJ.sc)).setCell ⟨X.heap.size+1,4,none⟩ (.bool r.wed)).setCell ⟨X.heap.size+1,5,none⟩ (.bool true)).setCell ⟨X.heap.size+1,6,none⟩ (.int .i64 r.aC)).setCell ⟨X.heap.size+1,7,none⟩ (.slice AJ.ma r.aA.length AJ.mc)) (X.heap.size+1) 44 #[.int .i64 r.ver,.slice AJ.ta r.txt.length AJ.tc,.slice AJ.ga r.got.length AJ.gc,.slice AJ.sa r.ak.length AJ.sc,.bool r.wed,.bool true,.int .i64 r.aC,.slice AJ.ma r.aA.length AJ.mc]):=aa9 IG.out;have MF:Hid (fA ((((((((W5.setCell ⟨X.heap.size+1,0,none⟩ (.int .i64 r.ver)).setCell ⟨X.heap.size+1,1,none⟩ (.slice AJ.ta r.txt.length AJ.tc)).setCell ⟨X.heap.size+1,2,none⟩ (.slice AJ.ga r.got.length AJ.gc)).setCell ⟨X.heap.size+1,3,none⟩ (.slice AJ.sa r.ak.length AJ.sc)).setCell ⟨X.heap.size+1,4,none⟩ (.bool r.wed)).setCell ⟨X.heap.size+1,5,none⟩ (.bool true)).setCell ⟨X.heap.size+1,6,none⟩ (.int .i64 r.aC)).setCell ⟨X.heap.size+1,7,none⟩ (.slice AJ.ma r.aA.length AJ.mc)) 1 gg og (kR m.rows L k).length cg vs):=qN (qN (qN (qN (qN (qN (qN (qN LO5.out LG.out.2 _) LG.out.2 _) LG.out.2 _) LG.out.2 _) LG.out.2 _) LG.out.2 _) LG.out.2 _) LG.out.2 _
    have yZ:Hid (Below X.heap.size X ((((((((W5.setCell ⟨X.heap.size+1,0,none⟩ (.int .i64 r.ver)).setCell ⟨X.heap.size+1,1,none⟩ (.slice AJ.ta r.txt.length AJ.tc)).setCell ⟨X.heap.size+1,2,none⟩ (.slice AJ.ga r.got.length AJ.gc)).setCell ⟨X.heap.size+1,3,none⟩ (.slice AJ.sa r.ak.length AJ.sc)).setCell ⟨X.heap.size+1,4,none⟩ (.bool r.wed)).setCell ⟨X.heap.size+1,5,none⟩ (.bool true)).setCell ⟨X.heap.size+1,6,none⟩ (.int .i64 r.aC)).setCell ⟨X.heap.size+1,7,none⟩ (.slice AJ.ma r.aA.length AJ.mc))):=by
     have:=Nat.le_succ X.heap.size;exact (((((((LB5.out.setCell (p:=⟨X.heap.size+1,0,none⟩) this _).setCell (p:=⟨X.heap.size+1,1,none⟩) this _).setCell (p:=⟨X.heap.size+1,2,none⟩) this _).setCell (p:=⟨X.heap.size+1,3,none⟩) this _).setCell (p:=⟨X.heap.size+1,4,none⟩) this _).setCell (p:=⟨X.heap.size+1,5,none⟩) this _).setCell (p:=⟨X.heap.size+1,6,none⟩) this _).setCell (p:=⟨X.heap.size+1,7,none⟩) this _
    have p2:=(Bx.r8 aA8.out).1.2.2.1;go_upto_region 8 with fail
    clear s0 s1 s2 s3 s4 s5 s6 s7 f0 f1 f2 f3 f4 f5 f6 f7 y0 y1 y2 y3 y4 y5 y6 y7;generalize ((((((((W5.setCell ⟨X.heap.size+1,0,none⟩ (.int .i64 r.ver)).setCell ⟨X.heap.size+1,1,none⟩ (.slice AJ.ta r.txt.length AJ.tc)).setCell ⟨X.heap.size+1,2,none⟩ (.slice AJ.ga r.got.length AJ.gc)).setCell ⟨X.heap.size+1,3,none⟩ (.slice AJ.sa r.ak.length AJ.sc)).setCell ⟨X.heap.size+1,4,none⟩ (.bool r.wed)).setCell ⟨X.heap.size+1,5,none⟩ (.bool true)).setCell ⟨X.heap.size+1,6,none⟩ (.int .i64 r.aC)).setCell ⟨X.heap.size+1,7,none⟩ (.slice AJ.ma r.aA.length AJ.mc))=W6 at *;have hO2:fA (W6.alloc (.cells #[.slice AJ.ga r.got.length AJ.gc] 41)) 1 gg og (kR m.rows L k).length cg vs:=fA.below MF.out ((Below.refl _ _).alloc (Nat.le_refl _) _) MF.out.blk;go_wp2_with (at_builtin;refine dG _ rfl _ _ _ rfl 41 i1 _ 1 24 Tryz.underlying204 hi1 hy0 hy1 hy2 rfl (by omega) gg og (kR m.rows L k).length cg vs rfl hO2 ⟨W6.heap.size,0,none⟩ 1 1 [.slice AJ.ga r.got.length AJ.gc] rfl rfl (World.news_of_block (cs:=#[.slice AJ.ga r.got.length AJ.gc]) (t:=41) (fr:=(0,0)) (heap_alloc_new _ _)) (by simp[Value.oneCell']) (by unfold maxLen;omega) (by omega) ?_;intro g6 o6 c6 w6 yP vk tu)
    have hWs:(W6.alloc (.cells #[.slice AJ.ga r.got.length AJ.gc] 41)).heap.size=W6.heap.size+1:=by simp
    have Pn:=yZ.out.size;have MG:=Es.out.lt;have hgb:=LG.out
    have NG:Hid (X.heap.size≤g6∧g6≠X.heap.size+1):=by
     rcases tu with h|h
     ·rw[h];exact LG.out
     ·rw[h,hWs];exact⟨by omega,by omega⟩
    have NO:=aj yP;have NB:Hid (Below X.heap.size X w6):=kE (yZ.out.alloc yZ.out.size _) vk LG.out.1 (Nat.le_trans yZ.out.size (by simp))
    have UE:Hid (Bx w6 (X.heap.size+1) 44 #[.int .i64 r.ver,.slice AJ.ta r.txt.length AJ.tc,.slice AJ.ga r.got.length AJ.gc,.slice AJ.sa r.ak.length AJ.sc,.bool r.wed,.bool true,.int .i64 r.aC,.slice AJ.ma r.aA.length AJ.mc]):=(vk.block (X.heap.size+1) (by omega) (by simp;exact fun e=>LG.out.2 e.symm)).trans ((Es.out.alloc _))
    clear yP vk tu hO2 hWs Pn MG hgb;go_roundw
    case rel=>exact⟨k+1,g6,o6,c6,vs++[.slice AJ.ga r.got.length AJ.gc],(r.aC,r.aA),_,_,_,_,_,_,true,by omega,by go_num,by rw[Ap.out,List.length_append];rfl,NG.out.1,NG.out.2,by rw[Ap.out,List.length_append];exact NO.out,by rw[Ap.out];exact LS.out.snoc Oi.out.1 Pm.out.1 Pm.out.2,KU.out,⟨(decide_eq_true HR1.out).symm,fun _=>⟨_,_,rfl,Oi.out.2⟩⟩,UE.out,NB.out⟩
    case measure=>simp[intOf];omega
   ·have KU:Hid (b=best m.rows (L.take (k+1)) (-1,[])):=by rw[Hid,UD.out,if_neg hc]
    have MF:=LO5;have yZ:=LB5;have Es:=IG
    cases hrd:r.aB with
    | false =>
     rw[hrd] at p5;clear hc UD HR0 hrd;go_upto_region 8 with fail
     clear z6 p5 p6;have hO2:fA (W5.alloc (.cells #[.slice AJ.ga r.got.length AJ.gc] 41)) 1 gg og (kR m.rows L k).length cg vs:=fA.below MF.out ((Below.refl _ _).alloc (Nat.le_refl _) _) MF.out.blk;go_wp2_with (at_builtin;refine dG _ rfl _ _ _ rfl 41 i1 _ 1 24 Tryz.underlying204 hi1 hy0 hy1 hy2 rfl (by omega) gg og (kR m.rows L k).length cg vs rfl hO2 ⟨W5.heap.size,0,none⟩ 1 1 [.slice AJ.ga r.got.length AJ.gc] rfl rfl (World.news_of_block (cs:=#[.slice AJ.ga r.got.length AJ.gc]) (t:=41) (fr:=(0,0)) (heap_alloc_new _ _)) (by simp[Value.oneCell']) (by unfold maxLen;omega) (by omega) ?_;intro g6 o6 c6 w6 yP vk tu)
     have hWs:(W5.alloc (.cells #[.slice AJ.ga r.got.length AJ.gc] 41)).heap.size=W5.heap.size+1:=by simp
     have Pn:=yZ.out.size;have MG:=Es.out.lt;have hgb:=LG.out
     have NG:Hid (X.heap.size≤g6∧g6≠X.heap.size+1):=by
      rcases tu with h|h
      ·rw[h];exact LG.out
      ·rw[h,hWs];exact⟨by omega,by omega⟩
     have NO:=aj yP;have NB:Hid (Below X.heap.size X w6):=kE (yZ.out.alloc yZ.out.size _) vk LG.out.1 (Nat.le_trans yZ.out.size (by simp))
     have UE:Hid (Bx w6 (X.heap.size+1) 44 #[x0,x1,x2,x3,x4,.bool rd,.int .i64 b.1,x7]):=(vk.block (X.heap.size+1) (by omega) (by simp;exact fun e=>LG.out.2 e.symm)).trans ((Es.out.alloc _))
     clear yP vk tu hO2 hWs Pn MG hgb;go_roundw
     case rel=>exact⟨k+1,g6,o6,c6,vs++[.slice AJ.ga r.got.length AJ.gc],b,_,_,_,_,_,_,rd,by omega,by go_num,by rw[Ap.out,List.length_append];rfl,NG.out.1,NG.out.2,by rw[Ap.out,List.length_append];exact NO.out,by rw[Ap.out];exact LS.out.snoc Oi.out.1 Pm.out.1 Pm.out.2,KU.out,hLa,UE.out,NB.out⟩
     case measure=>simp[intOf];omega
    | true =>
     rw[hrd] at p5;have gt1:¬ r.aC>b.1:=fun h=>hc ⟨hrd,h⟩
     clear hc UD HR0 hrd;go_upto_region 8 with fail
     clear z6 p5 p6;have hO2:fA (W5.alloc (.cells #[.slice AJ.ga r.got.length AJ.gc] 41)) 1 gg og (kR m.rows L k).length cg vs:=fA.below MF.out ((Below.refl _ _).alloc (Nat.le_refl _) _) MF.out.blk;go_wp2_with (at_builtin;refine dG _ rfl _ _ _ rfl 41 i1 _ 1 24 Tryz.underlying204 hi1 hy0 hy1 hy2 rfl (by omega) gg og (kR m.rows L k).length cg vs rfl hO2 ⟨W5.heap.size,0,none⟩ 1 1 [.slice AJ.ga r.got.length AJ.gc] rfl rfl (World.news_of_block (cs:=#[.slice AJ.ga r.got.length AJ.gc]) (t:=41) (fr:=(0,0)) (heap_alloc_new _ _)) (by simp[Value.oneCell']) (by unfold maxLen;omega) (by omega) ?_;intro g6 o6 c6 w6 yP vk tu)
     have hWs:(W5.alloc (.cells #[.slice AJ.ga r.got.length AJ.gc] 41)).heap.size=W5.heap.size+1:=by simp
     have Pn:=yZ.out.size;have MG:=Es.out.lt;have hgb:=LG.out
     have NG:Hid (X.heap.size≤g6∧g6≠X.heap.size+1):=by
      rcases tu with h|h
      ·rw[h];exact LG.out
      ·rw[h,hWs];exact⟨by omega,by omega⟩
     have NO:=aj yP;have NB:Hid (Below X.heap.size X w6):=kE (yZ.out.alloc yZ.out.size _) vk LG.out.1 (Nat.le_trans yZ.out.size (by simp))
     have UE:Hid (Bx w6 (X.heap.size+1) 44 #[x0,x1,x2,x3,x4,.bool rd,.int .i64 b.1,x7]):=(vk.block (X.heap.size+1) (by omega) (by simp;exact fun e=>LG.out.2 e.symm)).trans ((Es.out.alloc _))
     clear yP vk tu hO2 hWs Pn MG hgb;go_roundw
     case rel=>exact⟨k+1,g6,o6,c6,vs++[.slice AJ.ga r.got.length AJ.gc],b,_,_,_,_,_,_,rd,by omega,by go_num,by rw[Ap.out,List.length_append];rfl,NG.out.1,NG.out.2,by rw[Ap.out,List.length_append];exact NO.out,by rw[Ap.out];exact LS.out.snoc Oi.out.1 Pm.out.1 Pm.out.2,KU.out,hLa,UE.out,NB.out⟩
     case measure=>simp[intOf];omega
  ·have k1:¬ ((k:Int)<(L.length:Int)):=by omega
   obtain rfl:k=L.length:=by omega
   rw[Hid,List.take_length] at Dx;have z5:=hxl.at 5 (v:=.bool rd) rfl;have z7:=hxl.at 7 (v:=x7) rfl
   cases rd with
   | true =>
    obtain⟨ta,tc,rfl,hvt⟩:=hLa.out.2 rfl;have h0:0≤b.1:=of_decide_eq_true hLa.out.1.symm;have Dy:Hid (endOf m.rows L=b.2):=by rw[Hid,endOf,← Dx,if_neg (by omega)]
    have HVt:=aj (hvt.below LB.out (Nat.le_refl _));clear hxl hvt Dx hLa hb;go_wp2;go_ret
    rw[Dy.out];exact⟨ta,tc,rfl,HVt.out,LB.out⟩
   | false =>
    have h0:¬ 0≤b.1:=of_decide_eq_false hLa.out.1.symm;have Dy:Hid (endOf m.rows L=meets m.rows L):=by rw[Hid,endOf,← Dx,if_pos (by omega)]
    have hvv:=LS.out.vv LB.out LO.out;rw[FP m.rows (Nat.le_refl _)] at hvv ⊢;rw[QL] at hvv;have hD:=QK 194 min YK (fun _ _=>enters_of Tryz.func194 (by kernel_rfl) rfl _ _) (fun a a' len cap len' cap' xs ys w=>Jf a a' len cap len' cap' xs ys w) (some ⟨gg,og,none⟩) L.length cg _ wr hvv (by omega) HEv.out
    rw[if_neg (by omega),lD.out] at hD
    clear hxl Dx hLa hb hvv;go_wp2_with (go_at_call 193;refine hD.mono ?_;rintro e w3 ⟨sg,so,sc,rfl,hsg,hOi,hb3⟩)
    have HF:Hid (Vec w3 (some ⟨sg,so,none⟩) (meets m.rows L).length (meets m.rows L)∧Below X.heap.size X w3):=⟨jo (fB.2 ⟨_,sc,some sg,rfl,dR.of hOi,fun b=>Iff.rfl⟩) HFz.out,LB.out.trans (hb3.mono LB.out.size)⟩
    clear hOi hb3 hD;go_wp2;go_ret
    rw[Dy.out];exact⟨_,_,rfl,HF.out⟩
end Go.Proofs.YtafimeakbdmkjaaGreat