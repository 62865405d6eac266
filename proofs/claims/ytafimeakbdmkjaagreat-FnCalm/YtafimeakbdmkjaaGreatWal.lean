/-
  Texts in one.
-/
import Derived.Test.YtafimeakbdmkjaaGreatWaa
import Derived.Test.YtafimeakbdmkjaaGreatWak
import Derived.Test.YtafimeakbdmkjaaGreatWah
import Derived.Test.YtafimeakbdmkjaaGreatWag
import Derived.Test.YtafimeakbdmkjaaGreatWaj
import Derived.Test.YtafimeakbdmkjaaGreatWai
import Derived.Test.YtafimeakbdmkjaaGreatWac
import Derived.Test.YtafimeakbdmkjaaGreatWaf
namespace Go.Proofs.YtafimeakbdmkjaaGreat
open Bool renaming and_eq_true->aU2,false->aC,false_and->aW7,true->aB,true_and->aX7
open Go renaming Calls->ba3,Value->aJ,World->aI,bodyPost_ret->aY1
open Go.Ending renaming returned->aK
open Go.Instr renaming typeAssert->aU4
open Go.IntKind renaming i64->aA
open Go.Obj renaming cells->aH
open Go.Proofs.Tryz renaming prog->aZ8
open Go.RowKit renaming Hid->aG,intOf->ba4
open Go.RowKit.Below renaming refl->aZ5
open Go.Value renaming agg->aP,bool->aF,int->ah,pointer->aO,slice->aj,string->aN
open Go.World renaming block_lt_of_cell?->bG,size_alloc->aU1
open Int renaming toNat_natCast->dM
open List renaming findIdx?_eq_some_iff_getElem->aQ,getD_eq_getElem?_getD->aV,getElem?_eq_getElem->bC,getElem?_replicate->bH,length_cons->aU6,length_set->aV3,mem_append->aW0,mem_cons->aX5,mem_of_getElem?->bW,mem_range->aX1,mem_singleton->dH,range->aZ6,replicate->aW5,set_set->aY4,take_of_length_le->bJ
open Nat renaming add_zero->aY5,le_refl->aZ0,le_trans->aY2,lt_or_ge->aY6,zero_add->aY7,zero_le->aZ1
open Option renaming none->ak,some->au
open Option.some renaming inj->aV4
set_option linter.unusedVariables false
set_option linter.unusedSimpArgs false
open Go.RowKit Go.Sort
set_option maxRecDepth 100000
set_option maxHeartbeats 12800000
variable {m:Mb} {i k n:Nat} {x:Ac} {g':Gr} {q:Int}
theorem aQ0 (pA pB pC pD qA qB qC qD:Option Addr) (pt pg ps pm pa pb pc pe qt qg qs qm qa qb qc qe:Nat) (v py qy:Int) (pw pd qw qd b3:Bool) (w W:aI) (hW:(w.alloc (aH #[ah aA v,aj pA pt pa,aj pB pg pb,aj pC ps pc,aF pw,aF pd,ah aA py,aj pD pm pe] 44)).alloc (aH #[ah aA v,aj qA qt qa,aj qB qg qb,aj qC qs qc,aF qw,aF qd,ah aA qy,aj qD qm qe] 44)=W) (hx:Bx W w.heap.size 44 #[ah aA v,aj pA pt pa,aj pB pg pb,aj pC ps pc,aF pw,aF pd,ah aA py,aj pD pm pe]) (hy:Bx W (w.heap.size+1) 44 #[ah aA v,aj qA qt qa,aj qB qg qb,aj qC qs qc,aF qw,aF qd,ah aA qy,aj qD qm qe]) (hB:Below w.heap.size w W) (e1:(pw==qw)=aC) :
  ba3 aZ8 147 #[aP #[ah aA v,aj pA pt pa,aj pB pg pb,aj pC ps pc,aF pw,aF pd,ah aA py,aj pD pm pe],aP #[ah aA v,aj qA qt qa,aj qB qg qb,aj qC qs qc,aF qw,aF qd,ah aA qy,aj qD qm qe]] w fun e w'=>e=aK (aF aC)/\Below w.heap.size w w':=by
 obtain⟨⟨c0,c1,c2,c3⟩,c4,c5,c6,c7⟩:=Bx.r8 hx;obtain⟨⟨d0,d1,d2,d3⟩,d4,d5,d6,d7⟩:=Bx.r8 hy;have HB:=dP hB;have e0:(v==v)=aB:=by simp
 clear hx hy hB;go_enter Tryz.func147,Tryz.ntmps147
 go_upto_region 1 with fail
 try rw[hW]
 clear hW;go_wp2_with fail
 go_ret
 exact⟨rfl,by first|exact HB.out|exact fO HB.out⟩
theorem aQ1 (pA pB pC pD qA qB qC qD:Option Addr) (pt pg ps pm pa pb pc pe qt qg qs qm qa qb qc qe:Nat) (v py qy:Int) (pw pd qw qd b3:Bool) (w W:aI) (hW:(w.alloc (aH #[ah aA v,aj pA pt pa,aj pB pg pb,aj pC ps pc,aF pw,aF pd,ah aA py,aj pD pm pe] 44)).alloc (aH #[ah aA v,aj qA qt qa,aj qB qg qb,aj qC qs qc,aF pw,aF qd,ah aA qy,aj qD qm qe] 44)=W) (hx:Bx W w.heap.size 44 #[ah aA v,aj pA pt pa,aj pB pg pb,aj pC ps pc,aF pw,aF pd,ah aA py,aj pD pm pe]) (hy:Bx W (w.heap.size+1) 44 #[ah aA v,aj qA qt qa,aj qB qg qb,aj qC qs qc,aF pw,aF qd,ah aA qy,aj qD qm qe]) (hB:Below w.heap.size w W) (e2:(pd==qd)=aC) :
  ba3 aZ8 147 #[aP #[ah aA v,aj pA pt pa,aj pB pg pb,aj pC ps pc,aF pw,aF pd,ah aA py,aj pD pm pe],aP #[ah aA v,aj qA qt qa,aj qB qg qb,aj qC qs qc,aF pw,aF qd,ah aA qy,aj qD qm qe]] w fun e w'=>e=aK (aF aC)/\Below w.heap.size w w':=by
 obtain⟨⟨c0,c1,c2,c3⟩,c4,c5,c6,c7⟩:=Bx.r8 hx;obtain⟨⟨d0,d1,d2,d3⟩,d4,d5,d6,d7⟩:=Bx.r8 hy;have HB:=dP hB;have e0:(v==v)=aB:=by simp
 clear hx hy hB;go_enter Tryz.func147,Tryz.ntmps147
 go_upto_region 1 with fail
 try rw[hW]
 clear hW;go_wp2_with fail
 go_ret
 exact⟨rfl,by first|exact HB.out|exact fO HB.out⟩
theorem aQ2 (pA pB pC pD qA qB qC qD:Option Addr) (pt pg ps pm pa pb pc pe qt qg qs qm qa qb qc qe:Nat) (v py qy:Int) (pw pd qw qd b3:Bool) (w W:aI) (hW:(w.alloc (aH #[ah aA v,aj pA pt pa,aj pB pg pb,aj pC ps pc,aF pw,aF pd,ah aA py,aj pD pm pe] 44)).alloc (aH #[ah aA v,aj qA qt qa,aj qB qg qb,aj qC qs qc,aF pw,aF pd,ah aA qy,aj qD qm qe] 44)=W) (hx:Bx W w.heap.size 44 #[ah aA v,aj pA pt pa,aj pB pg pb,aj pC ps pc,aF pw,aF pd,ah aA py,aj pD pm pe]) (hy:Bx W (w.heap.size+1) 44 #[ah aA v,aj qA qt qa,aj qB qg qb,aj qC qs qc,aF pw,aF pd,ah aA qy,aj qD qm qe]) (hB:Below w.heap.size w W) (e3:(py==qy)=aC) :
  ba3 aZ8 147 #[aP #[ah aA v,aj pA pt pa,aj pB pg pb,aj pC ps pc,aF pw,aF pd,ah aA py,aj pD pm pe],aP #[ah aA v,aj qA qt qa,aj qB qg qb,aj qC qs qc,aF pw,aF pd,ah aA qy,aj qD qm qe]] w fun e w'=>e=aK (aF aC)/\Below w.heap.size w w':=by
 obtain⟨⟨c0,c1,c2,c3⟩,c4,c5,c6,c7⟩:=Bx.r8 hx;obtain⟨⟨d0,d1,d2,d3⟩,d4,d5,d6,d7⟩:=Bx.r8 hy;have HB:=dP hB;have e0:(v==v)=aB:=by simp
 clear hx hy hB;go_enter Tryz.func147,Tryz.ntmps147
 go_upto_region 1 with fail
 try rw[hW]
 clear hW;go_wp2_with fail
 go_ret
 exact⟨rfl,by first|exact HB.out|exact fO HB.out⟩
theorem aQ3 (pA pB pC pD qA qB qC qD:Option Addr) (pt pg ps pm pa pb pc pe qt qg qs qm qa qb qc qe:Nat) (v py qy:Int) (pw pd qw qd b3:Bool) (w W:aI) (hW:(w.alloc (aH #[ah aA v,aj pA pt pa,aj pB pg pb,aj pC ps pc,aF pw,aF pd,ah aA py,aj pD pm pe] 44)).alloc (aH #[ah aA v,aj qA qt qa,aj qB qg qb,aj qC qs qc,aF pw,aF pd,ah aA py,aj qD qm qe] 44)=W) (hx:Bx W w.heap.size 44 #[ah aA v,aj pA pt pa,aj pB pg pb,aj pC ps pc,aF pw,aF pd,ah aA py,aj pD pm pe]) (hy:Bx W (w.heap.size+1) 44 #[ah aA v,aj qA qt qa,aj qB qg qb,aj qC qs qc,aF pw,aF pd,ah aA py,aj qD qm qe]) (hB:Below w.heap.size w W) (hT:ba3 aZ8 175 #[aj pA pt pa,aj qA qt qa] W fun e w'=>e=aK (aF aB)/\∃ n,w'=W.drewN n) (hG:∀ k,ba3 aZ8 176 #[aj pB pg pb,aj qB qg qb] (W.drewN k) fun e w'=>e=aK (aF aC)/\∃ n,w'=(W.drewN k).drewN n) :
  ba3 aZ8 147 #[aP #[ah aA v,aj pA pt pa,aj pB pg pb,aj pC ps pc,aF pw,aF pd,ah aA py,aj pD pm pe],aP #[ah aA v,aj qA qt qa,aj qB qg qb,aj qC qs qc,aF pw,aF pd,ah aA py,aj qD qm qe]] w fun e w'=>e=aK (aF aC)/\Below w.heap.size w w':=by
 obtain⟨⟨c0,c1,c2,c3⟩,c4,c5,c6,c7⟩:=Bx.r8 hx;obtain⟨⟨d0,d1,d2,d3⟩,d4,d5,d6,d7⟩:=Bx.r8 hy;have HB:=dP hB;have e0:(v==v)=aB:=by simp
 clear hx hy hB;go_enter Tryz.func147,Tryz.ntmps147
 go_upto_region 1 with fail
 try rw[hW]
 clear hW;go_wp2_with (first|(go_at_call 175;refine hT.mono ?_;rintro e w' ⟨rfl,m1,hw'⟩;rw[hw'];clear hw')|(go_at_call 176;with_reducible refine (hG _).mono ?_;rintro e w' ⟨rfl,m2,hw'⟩;rw[hw',World.drewN_drewN];clear hw'))
 go_ret
 exact⟨rfl,by first|exact HB.out|exact fO HB.out⟩
theorem aQ4 (pA pB pC pD qA qB qC qD:Option Addr) (pt pg ps pm pa pb pc pe qt qg qs qm qa qb qc qe:Nat) (v py qy:Int) (pw pd qw qd b3:Bool) (w W:aI) (hW:(w.alloc (aH #[ah aA v,aj pA pt pa,aj pB pg pb,aj pC ps pc,aF pw,aF pd,ah aA py,aj pD pm pe] 44)).alloc (aH #[ah aA v,aj qA qt qa,aj qB qg qb,aj qC qs qc,aF pw,aF pd,ah aA py,aj qD qm qe] 44)=W) (hx:Bx W w.heap.size 44 #[ah aA v,aj pA pt pa,aj pB pg pb,aj pC ps pc,aF pw,aF pd,ah aA py,aj pD pm pe]) (hy:Bx W (w.heap.size+1) 44 #[ah aA v,aj qA qt qa,aj qB qg qb,aj qC qs qc,aF pw,aF pd,ah aA py,aj qD qm qe]) (hB:Below w.heap.size w W) (hT:ba3 aZ8 175 #[aj pA pt pa,aj qA qt qa] W fun e w'=>e=aK (aF aB)/\∃ n,w'=W.drewN n) (hG:∀ k,ba3 aZ8 176 #[aj pB pg pb,aj qB qg qb] (W.drewN k) fun e w'=>e=aK (aF aB)/\∃ n,w'=(W.drewN k).drewN n) (hS:∀ k,ba3 aZ8 176 #[aj pC ps pc,aj qC qs qc] (W.drewN k) fun e w'=>e=aK (aF aC)/\∃ n,w'=(W.drewN k).drewN n) :
  ba3 aZ8 147 #[aP #[ah aA v,aj pA pt pa,aj pB pg pb,aj pC ps pc,aF pw,aF pd,ah aA py,aj pD pm pe],aP #[ah aA v,aj qA qt qa,aj qB qg qb,aj qC qs qc,aF pw,aF pd,ah aA py,aj qD qm qe]] w fun e w'=>e=aK (aF aC)/\Below w.heap.size w w':=by
 obtain⟨⟨c0,c1,c2,c3⟩,c4,c5,c6,c7⟩:=Bx.r8 hx;obtain⟨⟨d0,d1,d2,d3⟩,d4,d5,d6,d7⟩:=Bx.r8 hy;have HB:=dP hB;have e0:(v==v)=aB:=by simp
 clear hx hy hB;go_enter Tryz.func147,Tryz.ntmps147
 go_upto_region 1 with fail
 try rw[hW]
 clear hW;go_wp2_with (first|(go_at_call 175;refine hT.mono ?_;rintro e w' ⟨rfl,m1,hw'⟩;rw[hw'];clear hw')|(go_at_call 176;with_reducible refine (hG _).mono ?_;rintro e w' ⟨rfl,m2,hw'⟩;rw[hw',World.drewN_drewN];clear hw')|(go_at_call 176;with_reducible refine (hS _).mono ?_;rintro e w' ⟨rfl,m2,hw'⟩;rw[hw',World.drewN_drewN];clear hw'))
 go_ret
 exact⟨rfl,by first|exact HB.out|exact fO HB.out⟩
theorem aQ5 (pA pB pC pD qA qB qC qD:Option Addr) (pt pg ps pm pa pb pc pe qt qg qs qm qa qb qc qe:Nat) (v py qy:Int) (pw pd qw qd b3:Bool) (w W:aI) (hW:(w.alloc (aH #[ah aA v,aj pA pt pa,aj pB pg pb,aj pC ps pc,aF pw,aF pd,ah aA py,aj pD pm pe] 44)).alloc (aH #[ah aA v,aj qA qt qa,aj qB qg qb,aj qC qs qc,aF pw,aF pd,ah aA py,aj qD qm qe] 44)=W) (hx:Bx W w.heap.size 44 #[ah aA v,aj pA pt pa,aj pB pg pb,aj pC ps pc,aF pw,aF pd,ah aA py,aj pD pm pe]) (hy:Bx W (w.heap.size+1) 44 #[ah aA v,aj qA qt qa,aj qB qg qb,aj qC qs qc,aF pw,aF pd,ah aA py,aj qD qm qe]) (hB:Below w.heap.size w W) (hT:ba3 aZ8 175 #[aj pA pt pa,aj qA qt qa] W fun e w'=>e=aK (aF aB)/\∃ n,w'=W.drewN n) (hG:∀ k,ba3 aZ8 176 #[aj pB pg pb,aj qB qg qb] (W.drewN k) fun e w'=>e=aK (aF aB)/\∃ n,w'=(W.drewN k).drewN n) (hS:∀ k,ba3 aZ8 176 #[aj pC ps pc,aj qC qs qc] (W.drewN k) fun e w'=>e=aK (aF aB)/\∃ n,w'=(W.drewN k).drewN n) (hM:∀ k,ba3 aZ8 176 #[aj pD pm pe,aj qD qm qe] (W.drewN k) fun e w'=>e=aK (aF b3)/\∃ n,w'=(W.drewN k).drewN n) :
  ba3 aZ8 147 #[aP #[ah aA v,aj pA pt pa,aj pB pg pb,aj pC ps pc,aF pw,aF pd,ah aA py,aj pD pm pe],aP #[ah aA v,aj qA qt qa,aj qB qg qb,aj qC qs qc,aF pw,aF pd,ah aA py,aj qD qm qe]] w fun e w'=>e=aK (aF b3)/\Below w.heap.size w w':=by
 obtain⟨⟨c0,c1,c2,c3⟩,c4,c5,c6,c7⟩:=Bx.r8 hx;obtain⟨⟨d0,d1,d2,d3⟩,d4,d5,d6,d7⟩:=Bx.r8 hy;have HB:=dP hB;have e0:(v==v)=aB:=by simp
 clear hx hy hB;go_enter Tryz.func147,Tryz.ntmps147
 go_upto_region 1 with fail
 try rw[hW]
 clear hW;go_wp2_with (first|(go_at_call 175;refine hT.mono ?_;rintro e w' ⟨rfl,m1,hw'⟩;rw[hw'];clear hw')|(go_at_call 176;with_reducible refine (hG _).mono ?_;rintro e w' ⟨rfl,m2,hw'⟩;rw[hw',World.drewN_drewN];clear hw')|(go_at_call 176;with_reducible refine (hS _).mono ?_;rintro e w' ⟨rfl,m2,hw'⟩;rw[hw',World.drewN_drewN];clear hw')|(go_at_call 176;with_reducible refine (hM _).mono ?_;rintro e w' ⟨rfl,m2,hw'⟩;rw[hw',World.drewN_drewN];clear hw'))
 go_ret
 exact⟨rfl,by first|exact HB.out|exact fO HB.out⟩
theorem Ud (A B:Ra) (r s:Rw) (w:aI) (hv:qo w A r) (hu:qo w B s) (kD:r.ver=s.ver) (htx:r.txt=s.txt) :
  ba3 aZ8 147 #[iK A r,iK B s] w fun e w'=>e=aK (aF (lD r s))/\Below w.heap.size w w':=by
 obtain⟨W,hW,hx,hy,hB0⟩:=aL1 A B r s 44 w;have h0:=hv.below hB0;have g0:=hu.below hB0;have hS0:=h0.rws;have gS0:=g0.rws
 have hTx:ba3 aZ8 175 #[aj A.ta r.txt.length A.tc,aj B.ta s.txt.length B.tc] W fun e w'=>e=aK (aF aB)/\∃ n,w'=W.drewN n:=by
  have:=ac0 A.ta B.ta A.tc B.tc r.txt s.txt W hS0.txt gS0.txt hS0.mt (by rw[htx])
  rw[decide_eq_true htx] at this;exact this
 have hG:=fun k=>yj A.ga B.ga r.got.length A.gc s.got.length B.gc r.got s.got (W.drewN k) (h0.below (fO (n:=k) (aZ5 _ _))).rws.got (g0.below (fO (n:=k) (aZ5 _ _))).rws.got hS0.mg
 have hS:=fun k=>yj A.sa B.sa r.dQ.length A.sc s.dQ.length B.sc r.dQ s.dQ (W.drewN k) (h0.below (fO (n:=k) (aZ5 _ _))).rws.dQ (g0.below (fO (n:=k) (aZ5 _ _))).rws.dQ hS0.ms
 have hM:=fun k=>yj A.ma B.ma r.dU.length A.mc s.dU.length B.mc r.dU s.dU (W.drewN k) (h0.below (fO (n:=k) (aZ5 _ _))).rws.dU (g0.below (fO (n:=k) (aZ5 _ _))).rws.dU hS0.mm
 have HG:lD r s=(decide (r.wed=s.wed)&&(decide (r.dV=s.dV)&&(decide (r.dW=s.dW)&&(decide (r.got=s.got)&&(decide (r.dQ=s.dQ)&&decide (r.dU=s.dU)))))):=by
  rw[lD];simp only[Bool.decide_and]
 rw[HG];clear HG h0 g0 hS0 gS0 hv hu;generalize decide (r.got=s.got)=b1 at *;generalize decide (r.dQ=s.dQ)=b2 at *;generalize decide (r.dU=s.dU)=b3 at *;obtain⟨v,pt,pg,ps,pw,pd,py,pm⟩:=r;obtain⟨qv,qt,qg,qs,qw,qd,qy,qm⟩:=s;obtain⟨pA,pa,pB,pb,pC,pc,pD,pe⟩:=A;obtain⟨qA,qa,qB,qb,qC,qc,qD,qe⟩:=B;simp only at kD htx
 subst kD;clear htx;by_cases h0:pw=qw;rotate_left
 ·rw[decide_eq_false h0,aW7]
  exact aQ0 pA pB pC pD qA qB qC qD _ _ _ _ pa pb pc pe _ _ _ _ qa qb qc qe v py qy pw pd qw qd b3 w W hW hx hy hB0 (by simp[h0])
 subst h0;rw[decide_eq_true rfl,aX7];by_cases h0:pd=qd;rotate_left
 ·rw[decide_eq_false h0,aW7]
  exact aQ1 pA pB pC pD qA qB qC qD _ _ _ _ pa pb pc pe _ _ _ _ qa qb qc qe v py qy pw pd pw qd b3 w W hW hx hy hB0 (by simp[h0])
 subst h0;rw[decide_eq_true rfl,aX7];by_cases h0:py=qy;rotate_left
 ·rw[decide_eq_false h0,aW7]
  exact aQ2 pA pB pC pD qA qB qC qD _ _ _ _ pa pb pc pe _ _ _ _ qa qb qc qe v py qy pw pd pw pd b3 w W hW hx hy hB0 (by simp[h0])
 subst h0;rw[decide_eq_true rfl,aX7]
 cases b1 with
 | false=>exact aQ3 pA pB pC pD qA qB qC qD _ _ _ _ pa pb pc pe _ _ _ _ qa qb qc qe v py py pw pd pw pd b3 w W hW hx hy hB0 hTx hG
 | true =>
  rw[aX7]
  cases b2 with
  | false=>exact aQ4 pA pB pC pD qA qB qC qD _ _ _ _ pa pb pc pe _ _ _ _ qa qb qc qe v py py pw pd pw pd b3 w W hW hx hy hB0 hTx hG hS
  | true=>exact aQ5 pA pB pC pD qA qB qC qD _ _ _ _ pa pb pc pe _ _ _ _ qa qb qc qe v py py pw pd pw pd b3 w W hW hx hy hB0 hTx hG hS hM
theorem Iw.rowP {w X: aI} {B: Nat} {fp: Fp} {g off c: Nat} (h:Iw w X B m fp g off c) (hk:k<m.rows.length) (hf:qK (dO m.rows k)) (h6:tC (dO m.rows k)) (hs:kK (dO m.rows k)<=1048576):∃ Ak:Ra,C8 X g (off+k*8) (ah aA (dO m.rows k).ver) (aj Ak.ta (dO m.rows k).txt.length Ak.tc) (aj Ak.ga (dO m.rows k).got.length Ak.gc) (aj Ak.sa (dO m.rows k).dQ.length Ak.sc) (aF (dO m.rows k).wed) (aF (dO m.rows k).dV) (ah aA (dO m.rows k).dW) (aj Ak.ma (dO m.rows k).dU.length Ak.mc)/\qo X Ak (dO m.rows k):=by
 obtain⟨gI,hp,hf1,hgo⟩:=h.iw.next;obtain⟨g',off',c',f,h1,hgB,hfg,hfs,⟨vs,hpc,hov,_⟩,hput⟩:=hp.el (F:=jr) jW (by omega) (j:=1) (L:=m.rows) rfl (iZ hk)
 have e:=aV4 (h1.symm.trans h.rws)
 cases e
 obtain⟨A,rfl,hl⟩:=wQ hov;have mQ:(fP A (dO m.rows k)).toList.length=8:=rfl;have q:=hpc.cell;refine⟨A,⟨⟨q 0 (by rw[mQ];omega),q 1 (by rw[mQ];omega),q 2 (by rw[mQ];omega),q 3 (by rw[mQ];omega)⟩,q 4 (by rw[mQ];omega),q 5 (by rw[mQ];omega),q 6 (by rw[mQ];omega),q 7 (by rw[mQ];omega)⟩, ?_⟩
 exact zV (lo:=0) (hi:=X.heap.size) ⟨f,hl,fun b hb=>⟨aZ1 _,jh hl b hb⟩⟩ hf h6 hs
theorem QH {r: Rw} (h:iR r n):tC r/\kK r<=1000:=by
 have h5:=h.n5;have hv:=h.ver;have hc:=h.c8;refine⟨?_,by omega⟩
 unfold tC jo
 cases hr:r.dV with
 | false=>have:=(h.not hr).1;exact⟨by omega,by omega⟩
 | true=>have:=(h.dV hr).2.1;exact⟨by omega,by omega⟩
theorem aw9 (m:Mb):(fD m).txt=m.own.txt:=by
 have h1:(fF m).txt=m.own.txt:=(qY _ _ _ _).txt
 have h2:(gV m).txt=m.own.txt:=by
  unfold gV
  split<;>exact h1
 have h3:(iG m).txt=m.own.txt:=by
  unfold iG
  split
  ·rw[(yJ _ _ _ _).2.2.2.1];exact h2
  ·exact h2
 unfold fD
 split
 ·rw[(wM _ _ _ _).2.2.2.1];exact h3
 ·exact h3
theorem ax0 (m:Mb):(fD m).dQ=(gV m).dQ:=by
 have h3:(iG m).dQ=(gV m).dQ:=by
  unfold iG
  split
  ·rw[(yJ _ _ _ _).1]
  ·rfl
 unfold fD
 split
 ·rw[(wM _ _ _ _).1];exact h3
 ·exact h3
theorem Ho (a b:Rw):lD a b=lD b a:=by
 unfold lD
 congr 1
 exact propext ⟨fun ⟨h1,h2,h3,h4,h5,h6⟩=>⟨h1.symm,h2.symm,h3.symm,h4.symm,h5.symm,h6.symm⟩,fun ⟨h1,h2,h3,h4,h5,h6⟩=>⟨h1.symm,h2.symm,h3.symm,h4.symm,h5.symm,h6.symm⟩⟩
theorem ah5 (M:iP m i n) (hd:m.done=aC) (S:Stg m i n) (hw:(fF m).wed=aB) :
  Df { m with rows:=m.rows.set i (fF m) } i n=fD m/\QD { m with rows:=m.rows.set i (fD m) } i n={ m with rows:=m.rows.set i (fD m),dR:=if jJ m=aB then jO (iU m) (fD m).dU else iU m,done:=jJ m }:=by
 have hil:i<m.rows.length:=by rw[M.len];exact M.lt
 obtain⟨e2,eS⟩:=S.wd hw;obtain⟨hp,hh,hD,hm⟩:=MG S.mem;have eL:jT m=fA n (fF m).dQ:=by rw[S.eL,e2]
 have hw2:(gV m).wed=aB:=by rw[e2];exact hw
 have hw3:(iG m).wed=aB:=by rw[S.aD1];exact hw2
 constructor
 ·have h1:Df { m with rows:=m.rows.set i (fF m) } i n=if (jT m).getD 0 0≠i then adopt (m.rows.set i (fF m)) i (fF m) ((jT m).getD 0 0) else if n<2*(jT m).length then lead (m.rows.set i (fF m)) i (fF m) (jT m) else fF m:=by
   unfold Df;simp only[iW hil]
   rw[<- eL]
  rw[h1];by_cases c:(jT m).getD 0 0=i
  ·have e4:fD m=iG m:=by rw[S.e4,if_neg (fun h=>h.2 (hh.2 c))]
   rw[if_neg (fun h=>h c),e4]
   by_cases c2:n<2*(jT m).length
   ·rw[if_pos c2,S.e3,if_pos ⟨hw2,c2,hh.2 c⟩,e2]
   ·rw[if_neg c2,S.e3,if_neg (fun h=>c2 h.2.1),e2]
  ·have e3:iG m=fF m:=by rw[S.e3,if_neg (fun h=>c (hh.1 h.2.2)),e2]
   rw[if_pos c,S.e4,if_pos ⟨hw3,fun h=>c (hh.1 h)⟩,hD,e3]
 ·unfold QD
  simp only[iW hil]
  have eL4:fA n (fD m).dQ=jT m:=by rw[ax0,S.eL]
  rw[eL4];have hE:=S.eE;by_cases c:n<2*(jT m).length/\ends (m.rows.set i (fD m)) i (fD m) (jT m)=aB
  ·have hr:=TW c.2 S.mem
   rw[iW hil] at hr;have h1:jJ m=aB:=by rw[hE,hr,decide_eq_true c.1,c.2];rfl
   rw[if_pos c,h1,if_pos rfl,eS]
  ·have h1:jJ m=aC:=by
    rw[hE]
    cases h2:decide (n<2*(jT m).length) with
    | false=>simp
    | true =>
     cases h3:ends (m.rows.set i (fD m)) i (fD m) (jT m) with
     | false=>simp
     | true=>exact absurd ⟨of_decide_eq_true h2,h3⟩ c
   rw[if_neg c,h1,if_neg (by decide),eS,<- hd]
theorem ah6 (M:iP m i n) (hd:m.done=aC) (S:Stg m i n) (hw:(fF m).wed=aC) :
  ({ fF m with got:=kH (m.rows.set i (fF m)) (fF m) n }:Rw)=gV m/\({ m with rows:=m.rows.set i (gV m),dR:=kR (m.rows.set i (gV m)) n (60-m.dR.length) m.dR }:Mb)={ m with rows:=m.rows.set i (fD m),dR:=if jJ m=aB then jO (iU m) (fD m).dU else iU m,done:=jJ m }:=by
 have hil:i<m.rows.length:=by rw[M.len];exact M.lt
 obtain⟨e2,ok2,eS⟩:=S.uw hw;have hw2:(gV m).wed=aC:=by rw[e2];exact hw
 have hw3:(iG m).wed=aC:=by rw[S.aD1];exact hw2
 have e3:iG m=gV m:=by rw[S.e3,if_neg (by rw[hw2];simp)]
 have e4:fD m=gV m:=by rw[S.e4,if_neg (by rw[hw3];simp),e3]
 constructor
 ·rw[e2]
  have:kH (m.rows.set i (fF m)) (fF m) n=kH m.rows (fF m) n:=by
   unfold kH;refine List.map_congr_left (fun j _=>?_)
   rw[gB hil]
   split
   ·rename_i h
    subst h;rw[S.e1,(qY _ _ _ _).txt]
   ·rfl
  rw[this]
 ·have h2:=S.ok2
  have hr2:iR (gV m) n:=by
   have:=h2.ok i M.lt;simp only[iW hil] at this;exact this
  have hr:(fD m).dV=aC:=by
   rw[e4]
   cases h:(gV m).dV with
   | false=>rfl
   | true=>have:=(hr2.dV h).1;rw[hw2] at this;cases this
  have h1:jJ m=aC:=by rw[S.eE,hr];rfl
  rw[e4,h1,if_neg (by decide),eS,<- hd]
theorem step_fin (M:iP m i n) (hd:m.done=aC) (hv:(dO m.rows i).ver<1000000) (S:Stg m i n) :
  (lD (fD m) (dO m.rows i)=aB->({ m with rows:=m.rows.set i (fD m),dR:=if jJ m=aB then jO (iU m) (fD m).dU else iU m,done:=jJ m }:Mb)=fB m)/\(lD (fD m) (dO m.rows i)=aC->({ ({ m with rows:=m.rows.set i (fD m),dR:=if jJ m=aB then jO (iU m) (fD m).dU else iU m,done:=jJ m }:Mb) with rows:=(m.rows.set i (fD m)).set i { fD m with ver:=(fD m).ver+1 } }:Mb)=fB m):=by
 have hs:fB m={ m with rows:=m.rows.set i (kG m),dR:=if jJ m=aB then jO (iU m) (fD m).dU else iU m,done:=jJ m }:=by
  have hn:¬ (m.done=aB\/m.own.ver=1000000):=by
   rintro (h|h)
   ·rw[hd] at h;cases h
   ·rw[M.own] at h;omega
  rw[fB,if_neg hn,M.i]
 constructor
 ·intro h
  have e5:kG m=fD m:=by rw[S.e5,if_pos (by rw[Ho];exact h)]
  rw[hs,e5]
 ·intro h
  have e5:kG m={ fD m with ver:=(fD m).ver+1 }:=by rw[S.e5,if_neg (by rw[Ho,h];decide)]
  rw[hs,e5,aY4]
theorem ax1 (B:Nat) (m:Mb) (i n:Nat) (fp:Fp) (w:aI) (h:iO w B 0 (nG m) fp) (ok:iP m i n) (hd:m.done=aC) (kD:(dO m.rows i).ver<1000000) :
  ba3 aZ8 109 #[aO (au ⟨B,0,ak⟩)] w fun e w'=>e=aK (.tuple #[])/\fH w w' B 0 (nG (fB m)) fp:=by
 have fU:=iq;have hil:i<m.rows.length:=by rw[ok.len];exact ok.lt
 have jy:=ok.n5;have S:=DJ ok hd;obtain⟨aG3,aG4⟩:=step_fin ok hd kD S;have hokr:=ok.ok i ok.lt;have ah7:=QH hokr;obtain⟨g,off,c,M0⟩:=Iw.start h (by omega)
 obtain⟨c0,_⟩:=M0.id';have c1:=M0.rws;rw[ok.hid] at c0;have aG5:=oK B i m.rows.length g off c w c0 c1 hil;have kU:aG (Iw w w B m fp g off c):=M0;clear c0 c1 M0 h;go_enter Tryz.func109,Tryz.ntmps109
 go_wp2_with fail
 refine aG5.mono ?_;rintro e wA ⟨rfl,wz⟩;obtain⟨Ai,⟨⟨d0,d1,d2,d3⟩,d4,d5,d6,d7⟩,zf⟩:=(kU.out.step wz).rowP hil (ok.fit.1 _ (oM hil)) ah7.1 (by omega)
 have hAn:=CZ Ai (dO m.rows i) wA zf (by rw[hokr.gl];omega) ah7.2
 unfold iK fP at hAn;have HbA:aG (Below w.heap.size w wA):=wz;clear zf aG5 wz;go_wp2_with fail
 refine hAn.mono ?_;rintro e wB ⟨Ar,rfl,fr,hr1,hr2,hr3⟩;have hba:=dX wB (aH #[ah aA (dO m.rows i).ver,aj Ar.ta (dO m.rows i).txt.length Ar.tc,aj Ar.ga (dO m.rows i).got.length Ar.gc,aj Ar.sa (dO m.rows i).dQ.length Ar.sc,aF (dO m.rows i).wed,aF (dO m.rows i).dV,ah aA (dO m.rows i).dW,aj Ar.ma (dO m.rows i).dU.length Ar.mc] 44);have hxw:=Bx.new wB 44 #[ah aA (dO m.rows i).ver,aj Ar.ta (dO m.rows i).txt.length Ar.tc,aj Ar.ga (dO m.rows i).got.length Ar.gc,aj Ar.sa (dO m.rows i).dQ.length Ar.sc,aF (dO m.rows i).wed,aF (dO m.rows i).dV,ah aA (dO m.rows i).dW,aj Ar.ma (dO m.rows i).dU.length Ar.mc]
 have aG6:Below w.heap.size w (wB.alloc (aH #[ah aA (dO m.rows i).ver,aj Ar.ta (dO m.rows i).txt.length Ar.tc,aj Ar.ga (dO m.rows i).got.length Ar.gc,aj Ar.sa (dO m.rows i).dQ.length Ar.sc,aF (dO m.rows i).wed,aF (dO m.rows i).dV,ah aA (dO m.rows i).dW,aj Ar.ma (dO m.rows i).dU.length Ar.mc] 44)):=by
  have h1:=eP HbA.out hr3;exact eP h1 hba
 have hr1':=gy hr1 hba;unfold iK fP;clear hAn d0 d1 d2 d3 d4 d5 d6 d7;go_upto_region 1 with fail
 have hsz:=hr3.size;have hszA:=HbA.out.size;generalize hb0:wB.heap.size=b0 at *;generalize wB.alloc (aH #[ah aA (dO m.rows i).ver,aj Ar.ta (dO m.rows i).txt.length Ar.tc,aj Ar.ga (dO m.rows i).got.length Ar.gc,aj Ar.sa (dO m.rows i).dQ.length Ar.sc,aF (dO m.rows i).wed,aF (dO m.rows i).dV,ah aA (dO m.rows i).dW,aj Ar.ma (dO m.rows i).dU.length Ar.mc] 44)=W1 at *;obtain⟨jE,f1,f2,_,M5,f4⟩:=kU.out.sub aG6;have yP:aG (∀ (Y:aI) (m':Mb),Iw W1 Y B m' jE g off c->fH w Y B 0 (nG m') fp):=fun Y m' hY=>(f4 Y m' hY).iw
 have HB0:aG (¬ jE b0/\b0≠B):=⟨fun k=>by have:=f1 _ k;omega,by omega⟩
 have qU:aG (Bx W1 b0 44 #[ah aA (dO m.rows i).ver,aj Ar.ta (dO m.rows i).txt.length Ar.tc,aj Ar.ga (dO m.rows i).got.length Ar.gc,aj Ar.sa (dO m.rows i).dQ.length Ar.sc,aF (dO m.rows i).wed,aF (dO m.rows i).dV,ah aA (dO m.rows i).dW,aj Ar.ma (dO m.rows i).dU.length Ar.mc]):=hxw;have fZ:aG (Iw W1 W1 B m jE g off c):=M5
 have HRP:aG (∀ (Y:aI) (m':Mb),Iw W1 Y B m' jE g off c->qo Y Ar (dO m.rows i)):=fun Y m' hY=>by
  have hl := gU hr1' hY.iw.wrt (fun b hb k => by
   have h1:=hr2 b hb;rcases k with k|k
   ·have:=f1 b k;omega
   ·omega)
  exact zV (lo:=0) (hi:=Y.heap.size) ⟨fr,hl,fun b hb=>⟨aZ1 _,jh hl b hb⟩⟩ (ok.fit.1 _ (oM hil)) ah7.1 (by omega)
 have hTd:=av7 W1 B m i n jE g off c W1 fZ.out ok;rw[<- S.e1] at hTd;clear hxw M5 f4 hr1 hr1' hr2 hr3 hba aG6 f1 f2 hsz hszA kU HbA;go_wp2_with fail
 refine hTd.mono ?_;rintro e W2 ⟨rfl,hM2⟩;have ji:aG (Iw W1 W2 B { m with rows:=m.rows.set i (fF m) } jE g off c):=hM2
 clear hTd fZ;obtain⟨c0,_⟩:=hM2.id';have c1:=hM2.rws;simp only[aV3] at c0 c1;rw[ok.hid] at c0;have aG7:=oK B i m.rows.length g off c W2 c0 c1 hil;clear c0 c1 hM2;go_wp2_with fail
 refine aG7.mono ?_;rintro e W3 ⟨rfl,hb3⟩;have lT:aG (Iw W1 W3 B { m with rows:=m.rows.set i (fF m) } jE g off c):=ji.out.step hb3
 have vH:i<(m.rows.set i (fF m)).length:=by rw[aV3];exact hil
 obtain⟨A1,⟨⟨_,_,_,_⟩,d4,_,_,_⟩,_⟩:=lT.out.row (k:=i) S.ok1.fit vH;simp only[iW hil] at d4;have HId:aG (m.id=(i:Int)):=ok.hid;have Nc:aG (i<n):=ok.lt;have aG8:aG ((fD m).ver=(dO m.rows i).ver):=S.ver;have aG9:aG ((fD m).txt=(dO m.rows i).txt):=by rw[aG,aw9,ok.own]
 have Ue:aG (0<=(fD m).ver/\(fD m).ver<1000000):=by rw[aG,S.ver];exact⟨hokr.ver.1,kD⟩
 have ah8:iR (fD m) n:=by
  have:=S.qL.ok i ok.lt;simp only[iW hil] at this;exact this
 have HFo:aG (qK (fD m)):=by
  have := S.qL.fit.1 (fD m) (by
   have:=oM (R:=m.rows.set i (fD m)) (j:=i) (by rw[aV3];exact hil)
   rw[iW hil] at this;exact this)
  exact this
 have zy:aG (tC (fD m)/\kK (fD m)<=1048576):=⟨(QH ah8).1,by have:=(QH ah8).2;omega⟩
 have HLn:aG (({ m with rows:=m.rows.set i (fD m),dR:=if jJ m=aB then jO (iU m) (fD m).dU else iU m,done:=jJ m }:Mb).rows.length=n):=by rw[aG];simp only[aV3];exact ok.len
 have yY:aG (dO ({ m with rows:=m.rows.set i (fD m),dR:=if jJ m=aB then jO (iU m) (fD m).dU else iU m,done:=jJ m }:Mb).rows i=fD m):=by rw[aG];exact iW hil
 have aH0:aG (({ m with rows:=m.rows.set i (fD m),dR:=if jJ m=aB then jO (iU m) (fD m).dU else iU m,done:=jJ m }:Mb).id=(i:Int)):=ok.hid
 have Uf:aG (lD (fD m) (dO m.rows i)=aB->({ m with rows:=m.rows.set i (fD m),dR:=if jJ m=aB then jO (iU m) (fD m).dU else iU m,done:=jJ m }:Mb)=fB m):=aG3
 have Nl:aG (lD (fD m) (dO m.rows i)=aC->({ ({ m with rows:=m.rows.set i (fD m),dR:=if jJ m=aB then jO (iU m) (fD m).dU else iU m,done:=jJ m }:Mb) with rows:=(m.rows.set i (fD m)).set i { fD m with ver:=(fD m).ver+1 } }:Mb)=fB m):=aG4
 clear aG7 hb3 ji aG3 aG4 ah8 hb0
 cases hwd:(fF m).wed with
 | true =>
  rw[hwd] at d4;obtain⟨eA,eE⟩:=ah5 ok hd S hwd;have FT:=aw8 W1 B { m with rows:=m.rows.set i (fF m) } i n jE g off c W3 lT.out S.ok1
  rw[eA] at FT;simp only[aY4] at FT
  have Jv:∀ Y,Iw W1 Y B { m with rows:=m.rows.set i (fD m) } jE g off c->ba3 aZ8 144 #[aO (au ⟨B,0,ak⟩)] Y fun e w'=>e=aK (.tuple #[])/\Iw W1 w' B { m with rows:=m.rows.set i (fD m),dR:=if jJ m=aB then jO (iU m) (fD m).dU else iU m,done:=jJ m } jE g off c:=fun Y hY=>by
   have h4:iP { m with rows:=m.rows.set i (fD m) } i n:=by
    have:=S.qL;rw[(S.wd hwd).2] at this;exact this
   have:=aw3 W1 B { m with rows:=m.rows.set i (fD m) } i n jE g off c Y hY h4 hd
   rw[eE] at this;exact this
  have GU:aG (∀ Y,Iw W1 Y B { m with rows:=m.rows.set i (fD m) } jE g off c->ba3 aZ8 144 #[aO (au ⟨B,0,ak⟩)] Y fun e w'=>e=aK (.tuple #[])/\Iw W1 w' B { m with rows:=m.rows.set i (fD m),dR:=if jJ m=aB then jO (iU m) (fD m).dU else iU m,done:=jJ m } jE g off c):=Jv
  clear eA eE hwd S Jv;generalize YI:({ m with rows:=m.rows.set i (fD m),dR:=if jJ m=aB then jO (iU m) (fD m).dU else iU m,done:=jJ m }:Mb)=mF at *
  have HmR:aG (mF.rows=m.rows.set i (fD m)):=by rw[aG,<- YI]
  rw[<- HmR.out] at Nl;clear YI;generalize hmo:fD m=ow at *;generalize dO m.rows i=o at *;go_wp2_with fail
  refine FT.mono ?_;rintro e W4 ⟨rfl,xA⟩;have YJ:=GU.out W4 xA;clear FT d4 xA GU;go_wp2_with fail
  refine YJ.mono ?_;rintro e Y ⟨rfl,FC⟩;have Bd:aG (Iw W1 Y B mF jE g off c):=FC;clear YJ FC lT hmo;go_upto_region 7 with fail
  have Pz:aG (Bx Y b0 44 #[ah aA o.ver,aj Ar.ta o.txt.length Ar.tc,aj Ar.ga o.got.length Ar.gc,aj Ar.sa o.dQ.length Ar.sc,aF o.wed,aF o.dV,ah aA o.dW,aj Ar.ma o.dU.length Ar.mc]):=Bd.out.bx qU.out HB0.out.1 HB0.out.2;have YK:aG (qo Y Ar o):=HRP.out Y mF Bd.out;obtain⟨c0,_⟩:=Bd.out.id';have c1:=Bd.out.rws;rw[aH0.out] at c0;rw[HLn.out] at c1
  have YL:aG (∃ Ak:Ra,C8 Y g (off+i*8) (ah aA ow.ver) (aj Ak.ta ow.txt.length Ak.tc) (aj Ak.ga ow.got.length Ak.gc) (aj Ak.sa ow.dQ.length Ak.sc) (aF ow.wed) (aF ow.dV) (ah aA ow.dW) (aj Ak.ma ow.dU.length Ak.mc)/\qo Y Ak ow):=by
   have:=Bd.out.rowP (k:=i) (by rw[HLn.out];exact Nc.out) (by rw[yY.out];exact HFo.out) (by rw[yY.out];exact zy.out.1) (by rw[yY.out];exact zy.out.2)
   rw[yY.out] at this;exact this
  have qp:aG (∀ Z,Below Y.heap.size Y Z->ba3 aZ8 140 #[aO (au ⟨B,0,ak⟩)] Z fun e w'=>e=aK (aO (au ⟨g,off+i*8,ak⟩))/\Below Z.heap.size Z w'):=fun Z hZ=>oK B i n g off c Z (fM hZ c0) (fM hZ c1) Nc.out
  have hbd:Below Y.heap.size Y Y.drew:=(Same.drewN Y 1).below
  have KS:∀ Z,Below Y.heap.size Y Z->Z.cell? ⟨b0,0,ak⟩=au (ah aA o.ver)/\Z.cell? ⟨b0,1,ak⟩=au (aj Ar.ta o.txt.length Ar.tc)/\Z.cell? ⟨b0,2,ak⟩=au (aj Ar.ga o.got.length Ar.gc)/\Z.cell? ⟨b0,3,ak⟩=au (aj Ar.sa o.dQ.length Ar.sc)/\Z.cell? ⟨b0,4,ak⟩=au (aF o.wed)/\Z.cell? ⟨b0,5,ak⟩=au (aF o.dV)/\Z.cell? ⟨b0,6,ak⟩=au (ah aA o.dW)/\Z.cell? ⟨b0,7,ak⟩=au (aj Ar.ma o.dU.length Ar.mc):=fun Z hZ=>by
   obtain⟨⟨x0,x1,x2,x3⟩,x4,x5,x6,x7⟩:=Bx.r8 (Pz.out.below hZ);exact⟨x0,x1,x2,x3,x4,x5,x6,x7⟩
  clear c0 c1;refine lG (S:=fun Z:aI=>Z.cell? ⟨b0,0,ak⟩=au (ah aA o.ver)/\Z.cell? ⟨b0,1,ak⟩=au (aj Ar.ta o.txt.length Ar.tc)/\Z.cell? ⟨b0,2,ak⟩=au (aj Ar.ga o.got.length Ar.gc)/\Z.cell? ⟨b0,3,ak⟩=au (aj Ar.sa o.dQ.length Ar.sc)/\Z.cell? ⟨b0,4,ak⟩=au (aF o.wed)/\Z.cell? ⟨b0,5,ak⟩=au (aF o.dV)/\Z.cell? ⟨b0,6,ak⟩=au (ah aA o.dW)/\Z.cell? ⟨b0,7,ak⟩=au (aj Ar.ma o.dU.length Ar.mc)) 9 fU ((KS _ hbd)) fun hHeld=>?_
  refine fE (i:=0) rfl ?_;refine fE (i:=1) rfl ?_;refine fE (i:=2) rfl ?_;refine nC (i:=6) rfl hHeld ?_;refine iy (i:=3) rfl fun K hK=>?_
  go_simp
  go_at_call 140
  refine (qp.out _ hbd).mono ?_;rintro e Y1 ⟨rfl,hb1⟩;have vM:Below Y.heap.size Y Y1:=eP hbd hb1;refine hK.out _ _ (KS _ vM) (fun eG=>?_)
  clear hK hHeld;have hHeld:=eG;try simp only[gW]
  refine fE (i:=4) rfl ?_;obtain⟨Af,⟨⟨d0,d1,d2,d3⟩,d4,d5,d6,d7⟩,hrf⟩:=YL.out;have tt:∀ {x v},Y.cell? x=au v->Y1.cell? x=au v:=fun h=>fM vM h
  replace d0:=tt d0;replace d1:=tt d1;replace d2:=tt d2;replace d3:=tt d3;replace d4:=tt d4;replace d5:=tt d5;replace d6:=tt d6;replace d7:=tt d7;have hAl:=Ud Af Ar ow o Y1 (hrf.below vM) (YK.out.below vM) aG8.out aG9.out;unfold iK fP at hAl;clear tt hrf;refine iy (i:=5) rfl fun K hK=>?_
  go_simp;refine hK.out _ _ (KS _ vM) (fun eG=>?_)
  clear hK hHeld;have hHeld:=eG;try simp only[gW]
  refine iy (i:=7) rfl fun K hK=>?_
  go_simp
  go_at_call 147
  refine hAl.mono ?_;rintro e Y2 ⟨rfl,hb2⟩;have Bf:Below Y.heap.size Y Y2:=eP vM hb2;refine hK.out _ _ (KS _ Bf) (fun eG=>?_)
  clear hK hHeld;have hHeld:=eG;try simp only[gW]
  refine iy (i:=8) rfl fun K hK=>?_
  go_simp;refine hK.out _ _ (KS _ Bf) (fun eG=>?_)
  clear hK hHeld;have hHeld:=eG;try simp only[gW]
  refine uT (by kernel_rfl) ?_
  have ji:aG (Iw W1 Y2 B mF jE g off c):=Bd.out.step Bf;have Iz:aG (∀ Z,Below Y2.heap.size Y2 Z->ba3 aZ8 140 #[aO (au ⟨B,0,ak⟩)] Z fun e w'=>e=aK (aO (au ⟨g,off+i*8,ak⟩))/\Below Z.heap.size Z w'):=fun Z hZ=>qp.out Z (eP Bf hZ)
  clear hHeld d0 d1 d2 d3 d4 d5 d6 d7 hAl hb1 hb2 vM Bf hbd KS qp Pz YK YL Bd
  cases hsm:lD ow o with
  | true =>
   have HF:aG (mF=fB m):=Uf.out hsm;clear hsm Uf Nl Iz;go_wp2
   first|go_end0|go_ret
   exact⟨rfl,by rw[<- HF.out];exact yP.out _ _ ji.out⟩
  | false =>
   have HF:aG (({ mF with rows:=mF.rows.set i { ow with ver:=ow.ver+1 } }:Mb)=fB m):=Nl.out hsm
   have hO2:=Iz.out Y2 (aZ5 _ _);clear hsm Uf Nl Iz;go_wp2_with fail
   refine hO2.mono ?_;rintro e Y3 ⟨rfl,hb3⟩;obtain⟨v1,v2,pR⟩:=(ji.out.step hb3).put (k:=i) (by rw[HLn.out];exact Nc.out) (j:=0) (x:=ah aA ow.ver) (y:=ah aA (ow.ver+1)) (r':={ ow with ver:=ow.ver+1 }) (by rw[yY.out];rfl) (by rw[yY.out];rfl)
   simp only[aY5] at v1 v2 pR;rw[HF.out] at pR;have iM:aG (Iw W1 (Y3.setCell ⟨g,off+i*8,ak⟩ (ah aA (ow.ver+1))) B (fB m) jE g off c):=pR;have JG:=KQ g (off+i*8) ow.ver Y3 v1 v2 Ue.out.1 Ue.out.2;clear pR hO2 hb3 v1 v2;go_wp2_with fail
   refine JG.mono ?_;rintro e w' ⟨rfl,hw'⟩;rw[hw'];clear hw' JG;go_wp2
   first|go_end0|go_ret
   exact⟨rfl,yP.out _ _ iM.out⟩
 | false =>
  rw[hwd] at d4;obtain⟨eA,eE⟩:=ah6 ok hd S hwd;have hTc:=av8 W1 B { m with rows:=m.rows.set i (fF m) } i n jE g off c W3 lT.out S.ok1.Yx
  simp only[iW hil,aY4] at hTc;rw[eA] at hTc
  have HSn:aG (∀ Y,Iw W1 Y B { m with rows:=m.rows.set i (gV m) } jE g off c->ba3 aZ8 146 #[aO (au ⟨B,0,ak⟩)] Y fun e w'=>e=aK (.tuple #[])/\Iw W1 w' B { m with rows:=m.rows.set i (fD m),dR:=if jJ m=aB then jO (iU m) (fD m).dU else iU m,done:=jJ m } jE g off c):=fun Y hY=>by
   have:=av6 W1 B { m with rows:=m.rows.set i (gV m) } i n jE g off c Y hY (S.uw hwd).2.1.Yx ok.sl
   simp only at this
   rw[eE] at this;exact this
  clear eA eE hwd S;generalize YI:({ m with rows:=m.rows.set i (fD m),dR:=if jJ m=aB then jO (iU m) (fD m).dU else iU m,done:=jJ m }:Mb)=mF at *
  have HmR:aG (mF.rows=m.rows.set i (fD m)):=by rw[aG,<- YI]
  rw[<- HmR.out] at Nl;clear YI;generalize hmo:fD m=ow at *;generalize dO m.rows i=o at *;go_wp2_with fail
  refine hTc.mono ?_;rintro e W4 ⟨rfl,xA⟩;have YJ:=HSn.out W4 xA;clear hTc d4 xA HSn;go_wp2_with fail
  refine YJ.mono ?_;rintro e Y ⟨rfl,FC⟩;have Bd:aG (Iw W1 Y B mF jE g off c):=FC;clear YJ FC lT hmo;go_upto_region 7 with fail
  have Pz:aG (Bx Y b0 44 #[ah aA o.ver,aj Ar.ta o.txt.length Ar.tc,aj Ar.ga o.got.length Ar.gc,aj Ar.sa o.dQ.length Ar.sc,aF o.wed,aF o.dV,ah aA o.dW,aj Ar.ma o.dU.length Ar.mc]):=Bd.out.bx qU.out HB0.out.1 HB0.out.2;have YK:aG (qo Y Ar o):=HRP.out Y mF Bd.out;obtain⟨c0,_⟩:=Bd.out.id';have c1:=Bd.out.rws;rw[aH0.out] at c0;rw[HLn.out] at c1
  have YL:aG (∃ Ak:Ra,C8 Y g (off+i*8) (ah aA ow.ver) (aj Ak.ta ow.txt.length Ak.tc) (aj Ak.ga ow.got.length Ak.gc) (aj Ak.sa ow.dQ.length Ak.sc) (aF ow.wed) (aF ow.dV) (ah aA ow.dW) (aj Ak.ma ow.dU.length Ak.mc)/\qo Y Ak ow):=by
   have:=Bd.out.rowP (k:=i) (by rw[HLn.out];exact Nc.out) (by rw[yY.out];exact HFo.out) (by rw[yY.out];exact zy.out.1) (by rw[yY.out];exact zy.out.2)
   rw[yY.out] at this;exact this
  have qp:aG (∀ Z,Below Y.heap.size Y Z->ba3 aZ8 140 #[aO (au ⟨B,0,ak⟩)] Z fun e w'=>e=aK (aO (au ⟨g,off+i*8,ak⟩))/\Below Z.heap.size Z w'):=fun Z hZ=>oK B i n g off c Z (fM hZ c0) (fM hZ c1) Nc.out
  have hbd:Below Y.heap.size Y Y.drew:=(Same.drewN Y 1).below
  have KS:∀ Z,Below Y.heap.size Y Z->Z.cell? ⟨b0,0,ak⟩=au (ah aA o.ver)/\Z.cell? ⟨b0,1,ak⟩=au (aj Ar.ta o.txt.length Ar.tc)/\Z.cell? ⟨b0,2,ak⟩=au (aj Ar.ga o.got.length Ar.gc)/\Z.cell? ⟨b0,3,ak⟩=au (aj Ar.sa o.dQ.length Ar.sc)/\Z.cell? ⟨b0,4,ak⟩=au (aF o.wed)/\Z.cell? ⟨b0,5,ak⟩=au (aF o.dV)/\Z.cell? ⟨b0,6,ak⟩=au (ah aA o.dW)/\Z.cell? ⟨b0,7,ak⟩=au (aj Ar.ma o.dU.length Ar.mc):=fun Z hZ=>by
   obtain⟨⟨x0,x1,x2,x3⟩,x4,x5,x6,x7⟩:=Bx.r8 (Pz.out.below hZ);exact⟨x0,x1,x2,x3,x4,x5,x6,x7⟩
  clear c0 c1;refine lG (S:=fun Z:aI=>Z.cell? ⟨b0,0,ak⟩=au (ah aA o.ver)/\Z.cell? ⟨b0,1,ak⟩=au (aj Ar.ta o.txt.length Ar.tc)/\Z.cell? ⟨b0,2,ak⟩=au (aj Ar.ga o.got.length Ar.gc)/\Z.cell? ⟨b0,3,ak⟩=au (aj Ar.sa o.dQ.length Ar.sc)/\Z.cell? ⟨b0,4,ak⟩=au (aF o.wed)/\Z.cell? ⟨b0,5,ak⟩=au (aF o.dV)/\Z.cell? ⟨b0,6,ak⟩=au (ah aA o.dW)/\Z.cell? ⟨b0,7,ak⟩=au (aj Ar.ma o.dU.length Ar.mc)) 9 fU ((KS _ hbd)) fun hHeld=>?_
  refine fE (i:=0) rfl ?_;refine fE (i:=1) rfl ?_;refine fE (i:=2) rfl ?_;refine nC (i:=6) rfl hHeld ?_;refine iy (i:=3) rfl fun K hK=>?_
  go_simp
  go_at_call 140
  refine (qp.out _ hbd).mono ?_;rintro e Y1 ⟨rfl,hb1⟩;have vM:Below Y.heap.size Y Y1:=eP hbd hb1;refine hK.out _ _ (KS _ vM) (fun eG=>?_)
  clear hK hHeld;have hHeld:=eG;try simp only[gW]
  refine fE (i:=4) rfl ?_;obtain⟨Af,⟨⟨d0,d1,d2,d3⟩,d4,d5,d6,d7⟩,hrf⟩:=YL.out;have tt:∀ {x v},Y.cell? x=au v->Y1.cell? x=au v:=fun h=>fM vM h
  replace d0:=tt d0;replace d1:=tt d1;replace d2:=tt d2;replace d3:=tt d3;replace d4:=tt d4;replace d5:=tt d5;replace d6:=tt d6;replace d7:=tt d7;have hAl:=Ud Af Ar ow o Y1 (hrf.below vM) (YK.out.below vM) aG8.out aG9.out;unfold iK fP at hAl;clear tt hrf;refine iy (i:=5) rfl fun K hK=>?_
  go_simp;refine hK.out _ _ (KS _ vM) (fun eG=>?_)
  clear hK hHeld;have hHeld:=eG;try simp only[gW]
  refine iy (i:=7) rfl fun K hK=>?_
  go_simp
  go_at_call 147
  refine hAl.mono ?_;rintro e Y2 ⟨rfl,hb2⟩;have Bf:Below Y.heap.size Y Y2:=eP vM hb2;refine hK.out _ _ (KS _ Bf) (fun eG=>?_)
  clear hK hHeld;have hHeld:=eG;try simp only[gW]
  refine iy (i:=8) rfl fun K hK=>?_
  go_simp;refine hK.out _ _ (KS _ Bf) (fun eG=>?_)
  clear hK hHeld;have hHeld:=eG;try simp only[gW]
  refine uT (by kernel_rfl) ?_
  have ji:aG (Iw W1 Y2 B mF jE g off c):=Bd.out.step Bf;have Iz:aG (∀ Z,Below Y2.heap.size Y2 Z->ba3 aZ8 140 #[aO (au ⟨B,0,ak⟩)] Z fun e w'=>e=aK (aO (au ⟨g,off+i*8,ak⟩))/\Below Z.heap.size Z w'):=fun Z hZ=>qp.out Z (eP Bf hZ)
  clear hHeld d0 d1 d2 d3 d4 d5 d6 d7 hAl hb1 hb2 vM Bf hbd KS qp Pz YK YL Bd
  cases hsm:lD ow o with
  | true =>
   have HF:aG (mF=fB m):=Uf.out hsm;clear hsm Uf Nl Iz;go_wp2
   first|go_end0|go_ret
   exact⟨rfl,by rw[<- HF.out];exact yP.out _ _ ji.out⟩
  | false =>
   have HF:aG (({ mF with rows:=mF.rows.set i { ow with ver:=ow.ver+1 } }:Mb)=fB m):=Nl.out hsm
   have hO2:=Iz.out Y2 (aZ5 _ _);clear hsm Uf Nl Iz;go_wp2_with fail
   refine hO2.mono ?_;rintro e Y3 ⟨rfl,hb3⟩;obtain⟨v1,v2,pR⟩:=(ji.out.step hb3).put (k:=i) (by rw[HLn.out];exact Nc.out) (j:=0) (x:=ah aA ow.ver) (y:=ah aA (ow.ver+1)) (r':={ ow with ver:=ow.ver+1 }) (by rw[yY.out];rfl) (by rw[yY.out];rfl)
   simp only[aY5] at v1 v2 pR;rw[HF.out] at pR;have iM:aG (Iw W1 (Y3.setCell ⟨g,off+i*8,ak⟩ (ah aA (ow.ver+1))) B (fB m) jE g off c):=pR;have JG:=KQ g (off+i*8) ow.ver Y3 v1 v2 Ue.out.1 Ue.out.2;clear pR hO2 hb3 v1 v2;go_wp2_with fail
   refine JG.mono ?_;rintro e w' ⟨rfl,hw'⟩;rw[hw'];clear hw' JG;go_wp2
   first|go_end0|go_ret
   exact⟨rfl,yP.out _ _ iM.out⟩
theorem ah9 (m:Mb):Io m=(uj m (fB m) aB).1:=by
 unfold Io uj;by_cases h:gZ m=aB
 ·rw[if_pos h,if_pos h]
  by_cases hd:m.done=aB
  ·rw[if_pos hd,fB,if_pos (.inl hd)]
  ·rw[if_neg hd,if_pos rfl]
 ·rw[if_neg h,if_neg h]
theorem ai0 (ok:iP m i n):(fB m).n=((fB m).rows.length:Int):=by
 unfold fB
 split
 ·rw[ok.hn,ok.len]
 ·simp only[aV3]
  rw[ok.hn,ok.len]
theorem Np:XP:=by
 intro A m w hv kD;have a0:=dX w (aH #[ah aA m.id,ah aA m.n,aj A.ra m.rows.length A.rc,aj A.sa m.dR.length A.sc,aF m.done] 47);have a1:=dX (w.alloc (aH #[ah aA m.id,ah aA m.n,aj A.ra m.rows.length A.rc,aj A.sa m.dR.length A.sc,aF m.done] 47)) (aH #[ah aA 0,ah aA 0,aj ak 0 0,aj ak 0 0,aF aC] 47);have hb1:Below w.heap.size w ((w.alloc (aH #[ah aA m.id,ah aA m.n,aj A.ra m.rows.length A.rc,aj A.sa m.dR.length A.sc,aF m.done] 47)).alloc (aH #[ah aA 0,ah aA 0,aj ak 0 0,aj ak 0 0,aF aC] 47)):=eP a0 a1;have hx0:Bx ((w.alloc (aH #[ah aA m.id,ah aA m.n,aj A.ra m.rows.length A.rc,aj A.sa m.dR.length A.sc,aF m.done] 47)).alloc (aH #[ah aA 0,ah aA 0,aj ak 0 0,aj ak 0 0,aF aC] 47)) w.heap.size 47 #[ah aA m.id,ah aA m.n,aj A.ra m.rows.length A.rc,aj A.sa m.dR.length A.sc,aF m.done]:=(Bx.new w _ _).alloc _
 have hx1:Bx ((w.alloc (aH #[ah aA m.id,ah aA m.n,aj A.ra m.rows.length A.rc,aj A.sa m.dR.length A.sc,aF m.done] 47)).alloc (aH #[ah aA 0,ah aA 0,aj ak 0 0,aj ak 0 0,aF aC] 47)) (w.heap.size+1) 47 #[ah aA 0,ah aA 0,aj ak 0 0,aj ak 0 0,aF aC]:=by
  have:=Bx.new (w.alloc (aH #[ah aA m.id,ah aA m.n,aj A.ra m.rows.length A.rc,aj A.sa m.dR.length A.sc,aF m.done] 47)) 47 #[ah aA 0,ah aA 0,aj ak 0 0,aj ak 0 0,aF aC];simp only[aU1] at this;exact this
 have uN:=KP 109 #[] A m (fB m) aB ((w.alloc (aH #[ah aA m.id,ah aA m.n,aj A.ra m.rows.length A.rc,aj A.sa m.dR.length A.sc,aF m.done] 47)).alloc (aH #[ah aA 0,ah aA 0,aj ak 0 0,aj ak 0 0,aF aC] 47)) (hv.below hb1) (fun _ _=>enters_of Tryz.func109 (by kernel_rfl) rfl _ _)
  (fun hok _ => by
   obtain⟨i,n,ok⟩:=lH.1 hok;exact ai0 ok)
  (fun X B fp i n hX hpl ok hd=>(ax1 B m i n fp X hpl ok hd (by have:=kD (lH.2 ⟨i,n,ok⟩);rw[ok.own] at this;exact this)).mono (fun e w' h=>.inl ⟨rfl,h.1,h.2⟩))
 have HZ:=dP (ah9 m);unfold iL ig at uN;have HR0:=dP hx1;have HB0:=dP hb1;obtain⟨c0,c1,c2,c3,c4⟩:=Bx.r5 hx0;clear a0 a1 hb1 hx0 hx1 hv kD;unfold iL ig;generalize uj m (fB m) aB=pp at *;obtain⟨pm,pf⟩:=pp;simp only at uN HZ
 go_enter Tryz.func70,Tryz.ntmps70
 go_wp2_with fail
 generalize (w.alloc (aH #[ah aA m.id,ah aA m.n,aj A.ra m.rows.length A.rc,aj A.sa m.dR.length A.sc,aF m.done] 47)).alloc (aH #[ah aA 0,ah aA 0,aj ak 0 0,aj ak 0 0,aF aC] 47)=W0 at *;refine uN.mono ?_;rintro e w1 ⟨A2,rfl,fp,hl,hf,hb⟩;have hba:=dX w1 (aH #[ah aA pm.id,ah aA pm.n,aj A2.ra pm.rows.length A2.rc,aj A2.sa pm.dR.length A2.sc,aF pm.done] 47);have hx2:=Bx.new w1 47 #[ah aA pm.id,ah aA pm.n,aj A2.ra pm.rows.length A2.rc,aj A2.sa pm.dR.length A2.sc,aF pm.done];have hR:=(HR0.out.below hb).below hba
 have HN:aG (∀ {z0 z1 z2 z3 z4:aJ},kW w ((((((w1.alloc (aH #[ah aA pm.id,ah aA pm.n,aj A2.ra pm.rows.length A2.rc,aj A2.sa pm.dR.length A2.sc,aF pm.done] 47)).setCell ⟨w.heap.size+1,0,ak⟩ z0).setCell ⟨w.heap.size+1,1,ak⟩ z1).setCell ⟨w.heap.size+1,2,ak⟩ z2).setCell ⟨w.heap.size+1,3,ak⟩ z3).setCell ⟨w.heap.size+1,4,ak⟩ z4) (jA pm) (jB A2 pm)):=fun {z0 z1 z2 z3 z4}=>by
  have hB1:=eP HB0.out hb;have hB2:=eP hB1 hba;have h0:=HR0.out.lt;exact⟨fp,gU (gy hl hba) (qN _ (w.heap.size+1)) (fun x hx e=>by have:=hf x hx;omega),fun x hx=>by have:=hf x hx;omega,(qN _ (w.heap.size+1)).below hB2 hB2.size (fun x e=>by omega)⟩
 obtain⟨z0,z1,z2,z3,z4⟩:=Bx.r5 hR;obtain⟨r0,r1,r2,r3,r4⟩:=hR.f5;clear c0 c1 c2 c3 c4;obtain⟨c0,c1,c2,c3,c4⟩:=Bx.r5 hx2;clear uN hl hf hb hR hba hx2;unfold iL ig;go_upto_region 2 with fail
 generalize w1.alloc (aH #[ah aA pm.id,ah aA pm.n,aj A2.ra pm.rows.length A2.rc,aj A2.sa pm.dR.length A2.sc,aF pm.done] 47)=W2 at *;go_wp2;refine aY1 (v:=iL A2 pm) (by simp[results,Tryz.results70,go_sem,iL,ig, *]) rfl ?_
 rw[HZ.out];exact⟨_,rfl,HN.out⟩
section
theorem ai1 (v:aJ) (w:aI):(aU4 (.iface 153 v) 77 153 aB).run aZ8 w=.ok (.tuple #[v,aF aB]) w:=by kernel_rfl
theorem ai2 (v:aJ) (w:aI):(aU4 (.iface 155 v) 77 153 aB).run aZ8 w=.ok (.tuple #[aP #[ah aA 0,.string .empty],aF aC]) w:=by kernel_rfl
theorem ai3 (v:aJ) (w:aI):(aU4 (.iface 155 v) 77 155 aB).run aZ8 w=.ok (.tuple #[v,aF aB]) w:=by kernel_rfl
theorem ai4 (v:aJ) (w:aI):(aU4 (.iface 156 v) 77 153 aB).run aZ8 w=.ok (.tuple #[aP #[ah aA 0,.string .empty],aF aC]) w:=by kernel_rfl
theorem ai5 (v:aJ) (w:aI):(aU4 (.iface 156 v) 77 155 aB).run aZ8 w=.ok (.tuple #[aP #[ah aA 0,ah aA 0],aF aC]) w:=by kernel_rfl
theorem ai6 (v:aJ) (w:aI):(aU4 (.iface 156 v) 77 156 aB).run aZ8 w=.ok (.tuple #[v,aF aB]) w:=by kernel_rfl
theorem ai7 (v:aJ) (w:aI):(aU4 (.iface 158 v) 77 153 aB).run aZ8 w=.ok (.tuple #[aP #[ah aA 0,.string .empty],aF aC]) w:=by kernel_rfl
theorem ai8 (v:aJ) (w:aI):(aU4 (.iface 158 v) 77 155 aB).run aZ8 w=.ok (.tuple #[aP #[ah aA 0,ah aA 0],aF aC]) w:=by kernel_rfl
theorem ai9 (v:aJ) (w:aI):(aU4 (.iface 158 v) 77 156 aB).run aZ8 w=.ok (.tuple #[aP #[ah aA 0,ah aA 0],aF aC]) w:=by kernel_rfl
theorem aj0 (v:aJ) (w:aI):(aU4 (.iface 158 v) 77 158 aB).run aZ8 w=.ok (.tuple #[v,aF aB]) w:=by kernel_rfl
theorem aj1 (v:aJ) (w:aI):(aU4 (.iface 161 v) 77 153 aB).run aZ8 w=.ok (.tuple #[aP #[ah aA 0,.string .empty],aF aC]) w:=by kernel_rfl
theorem aj2 (v:aJ) (w:aI):(aU4 (.iface 161 v) 77 155 aB).run aZ8 w=.ok (.tuple #[aP #[ah aA 0,ah aA 0],aF aC]) w:=by kernel_rfl
theorem aj3 (v:aJ) (w:aI):(aU4 (.iface 161 v) 77 156 aB).run aZ8 w=.ok (.tuple #[aP #[ah aA 0,ah aA 0],aF aC]) w:=by kernel_rfl
theorem aj6 (v:aJ) (w:aI):(aU4 (.iface 161 v) 77 158 aB).run aZ8 w=.ok (.tuple #[aP #[ah aA 0],aF aC]) w:=by kernel_rfl
theorem aj7 (v:aJ) (w:aI):(aU4 (.iface 161 v) 77 159 aB).run aZ8 w=.ok (.tuple #[aP #[ah aA 0,ah aA 0],aF aC]) w:=by kernel_rfl
theorem aj8 (v:aJ) (w:aI):(aU4 (.iface 161 v) 77 160 aB).run aZ8 w=.ok (.tuple #[aP #[ah aA 0],aF aC]) w:=by kernel_rfl
theorem aj9 (v:aJ) (w:aI):(aU4 (.iface 161 v) 77 161 aB).run aZ8 w=.ok (.tuple #[v,aF aB]) w:=by kernel_rfl
attribute [local irreducible] sv
theorem ax2 (B:Nat) (g:Gr) (n a:Nat) (t:List UInt8) (fp:Fp) (w:aI) (h:iO w B 0 (fK g) fp) (ok:OkG g n) (ha:a<n) (ht:t.length<=1048576) :
  ba3 aZ8 83 #[aO (au ⟨B,0,ak⟩),.iface 153 (aP #[ah aA (a:Int),aN (sv t)])] w fun e w'=>e=aK (aF (gX (dY g a) t).2)/\fH w w' B 0 (fK { g with mem:=g.mem.set a (gX (dY g a) t).1 }) fp:=by
 have fU:=iq;have hal:a<g.mem.length:=by rw[ok.ml];exact ha
 obtain⟨bb,off,c,G0⟩:=Gw.start h (by omega)
 have hba:=dX w (aH #[ah aA (a:Int),aN (sv t)] 153);have hxm:=Bx.new w 153 #[ah aA (a:Int),aN (sv t)];have G1:=G0.step hba;obtain⟨A,hc5,hf5,hmp⟩:=G1.TK ok hal
 have hbw:bb<w.heap.size:=by
  obtain⟨_,⟨p0,_⟩,_⟩:=G0.TK ok hal;exact bG _ _ p0
 have mP:=dP G1;have HX:=dP hxm;have Qu:=dP hmp;have oQ:=dP hc5;have rW:=dP hf5;have om:=ok.mem a ha;have BX:gZ (dY g a)=aB:=lH.2 ⟨a,n,om⟩;have b0:(0:Int)<=a:=by omega
 have b1:(a:Int)<g.mem.length:=by omega
 clear h ok G0 G1 hba hxm hmp om hc5 hf5;have q1:=ai1 (aP #[ah aA (a:Int),aN (sv t)]);go_enter Tryz.func83,Tryz.ntmps83
 go_upto_region 5 with fail
 generalize (w.alloc (aH #[ah aA (a:Int),aN (sv t)] 153))=W1 at *;have hbd:=(Same.drewN W1 1).below;have wX:=at6 A (dY g a) t W1.drew (Qu.out.below hbd) ht;have HH:Kz (dY g a) t=(gX (dY g a) t):=by rw[Kz,if_pos BX]
 rw[HH] at wX;clear HH BX ht;generalize hq2:(gX (dY g a) t).2=hf2 at *;generalize hq1:(gX (dY g a) t).1=m2 at *;have HE2:=dP hq2;have Ls:=dP hq1;clear hq1 hq2;generalize hmm:dY g a=m at *;have KS:∀ Z,Below W1.heap.size W1 Z->Z.cell? ⟨B,0,ak⟩=au (aj (au ⟨bb,off,ak⟩) g.mem.length c)/\Z.cell? ⟨w.heap.size,0,ak⟩=au (ah aA (a:Int))/\Z.cell? ⟨w.heap.size,1,ak⟩=au (aN (sv t)):=fun Z hZ=>⟨(mP.out.step hZ).mem,(HX.out.below hZ).at 0 rfl,(HX.out.below hZ).at 1 rfl⟩
 unfold iL ig at wX;clear q1;refine lG (S:=fun Z:aI=>Z.cell? ⟨B,0,ak⟩=au (aj (au ⟨bb,off,ak⟩) g.mem.length c)/\Z.cell? ⟨w.heap.size,0,ak⟩=au (ah aA (a:Int))/\Z.cell? ⟨w.heap.size,1,ak⟩=au (aN (sv t))) 25 fU ((KS _ hbd)) fun hHeld=>?_
 refine fE (i:=0) rfl ?_;refine fE (i:=1) rfl ?_;refine fE (i:=2) rfl ?_;refine nC (i:=3) rfl hHeld ?_;refine fE (i:=4) rfl ?_;refine fE (i:=5) rfl ?_;refine nC (i:=6) rfl hHeld ?_;refine fE (i:=7) rfl ?_;refine fE (i:=8) rfl ?_;refine fE (i:=9) rfl ?_;refine nC (i:=10) rfl hHeld ?_;refine fE (i:=11) rfl ?_;refine fE (i:=12) rfl ?_;refine nC (i:=13) rfl hHeld ?_;refine fE (i:=14) rfl ?_;refine fE (i:=16) rfl ?_;refine nC (i:=17) rfl hHeld ?_;obtain⟨k0,k1,k2,k3,k4⟩:=oQ.out;refine iy (i:=15) rfl fun K hK=>?_
 go_simp;refine hK.out _ _ (KS _ hbd) (fun eG=>?_)
 clear hK hHeld;have hHeld:=eG;try simp only[gW]
 clear k0 k1 k2 k3 k4;refine iy (i:=18) rfl fun K hK=>?_
 go_simp
 go_at_call 124
 refine wX.mono ?_;rintro e w1 ⟨A2,rfl,fr,hr1,hr2,hr3⟩;have hb1:=eP hbd hr3;have BH:=mP.out.JH hal hb1 hr1 (fun b h=>aY2 hbd.size (hr2 b h))
 have JI:=dP BH;have GL:Bx (((((w1.setCell ⟨bb,off+a*5,ak⟩ (ah aA m2.id)).setCell ⟨bb,off+a*5+1,ak⟩ (ah aA m2.n)).setCell ⟨bb,off+a*5+2,ak⟩ (aj A2.ra m2.rows.length A2.rc)).setCell ⟨bb,off+a*5+3,ak⟩ (aj A2.sa m2.dR.length A2.sc)).setCell ⟨bb,off+a*5+4,ak⟩ (aF m2.done)) w.heap.size 153 #[ah aA (a:Int),aN (sv t)]:=(((((HX.out.below hb1).far (g:=bb) (by omega) _).far (g:=bb) (by omega) _).far (g:=bb) (by omega) _).far (g:=bb) (by omega) _).far (g:=bb) (by omega) _
 have Ec:=BH.mem;rw[show ({ g with mem:=g.mem.set a m2 }:Gr).mem.length=g.mem.length from aV3] at Ec
 have YM:aG ((fun Z:aI=>Z.cell? ⟨B,0,ak⟩=au (aj (au ⟨bb,off,ak⟩) g.mem.length c)/\Z.cell? ⟨w.heap.size,0,ak⟩=au (ah aA (a:Int))/\Z.cell? ⟨w.heap.size,1,ak⟩=au (aN (sv t))) (((((w1.setCell ⟨bb,off+a*5,ak⟩ (ah aA m2.id)).setCell ⟨bb,off+a*5+1,ak⟩ (ah aA m2.n)).setCell ⟨bb,off+a*5+2,ak⟩ (aj A2.ra m2.rows.length A2.rc)).setCell ⟨bb,off+a*5+3,ak⟩ (aj A2.sa m2.dR.length A2.sc)).setCell ⟨bb,off+a*5+4,ak⟩ (aF m2.done))):=⟨Ec,GL.at 0 rfl,GL.at 1 rfl⟩
 obtain⟨k0,k1,k2,k3,k4⟩:=oQ.out;have t:∀ {x v},W1.cell? x=au v->w1.cell? x=au v:=fun h=>fM hb1 h
 replace k0:=t k0;replace k1:=t k1;replace k2:=t k2;replace k3:=t k3;replace k4:=t k4;obtain⟨z0,z1,z2,z3,z4⟩:=rW.out
 have tz:∀ {x v},W1.cell? x=au v->W1.frozen? x=aC->w1.frozen? x=aC:=fun {x v} h hz=>by
  have e:=hb1.block x.block (bG _ _ h);simpa only[World.frozen?,e] using hz
 replace z0:=tz oQ.out.1 z0;replace z1:=tz oQ.out.2.1 z1;replace z2:=tz oQ.out.2.2.1 z2;replace z3:=tz oQ.out.2.2.2.1 z3;replace z4:=tz oQ.out.2.2.2.2 z4;unfold iL ig;refine hK.out _ _ (KS _ hb1) (fun eG=>?_)
 clear hK hHeld;have hHeld:=eG;try simp only[gW]
 refine fE (i:=19) rfl ?_;refine fE (i:=20) rfl ?_;refine fE (i:=21) rfl ?_;refine fE (i:=22) rfl ?_;refine iy (i:=23) rfl fun K hK=>?_
 go_simp;refine hK.out _ _ YM.out (fun eG=>?_)
 clear hK hHeld;have hHeld:=eG;try simp only[gW]
 clear k0 k1 k2 k3 k4 z0 z1 z2 z3 z4 t tz hr1 hr2 hr3 hb1 hbd KS wX BH GL Ec;generalize (((((w1.setCell ⟨bb,off+a*5,ak⟩ (ah aA m2.id)).setCell ⟨bb,off+a*5+1,ak⟩ (ah aA m2.n)).setCell ⟨bb,off+a*5+2,ak⟩ (aj A2.ra m2.rows.length A2.rc)).setCell ⟨bb,off+a*5+3,ak⟩ (aj A2.sa m2.dR.length A2.sc)).setCell ⟨bb,off+a*5+4,ak⟩ (aF m2.done))=W9 at *;refine fE (i:=24) rfl ?_;refine uT (by kernel_rfl) ?_
 clear hHeld;go_wp2
 first|go_end0|go_ret
 exact⟨by rw[HE2.out];rfl,by rw[Ls.out];exact JI.out.iw⟩
theorem ax3 (B:Nat) (g:Gr) (n a:Nat) (fp:Fp) (w:aI) (h:iO w B 0 (fK g) fp) (ok:OkG g n) (ha:a<n) (hv:(dY g a).own.ver<1000000) :
  ba3 aZ8 83 #[aO (au ⟨B,0,ak⟩),.iface 158 (aP #[ah aA (a:Int)])] w fun e w'=>e=aK (aF aB)/\fH w w' B 0 (fK { g with mem:=g.mem.set a (fB (dY g a)) }) fp:=by
 have fU:=iq;have hal:a<g.mem.length:=by rw[ok.ml];exact ha
 obtain⟨bb,off,c,G0⟩:=Gw.start h (by omega)
 have hba:=dX w (aH #[ah aA (a:Int)] 158);have hxm:=Bx.new w 158 #[ah aA (a:Int)];have G1:=G0.step hba;obtain⟨A,hc5,hf5,hmp⟩:=G1.TK ok hal
 have hbw:bb<w.heap.size:=by
  obtain⟨_,⟨p0,_⟩,_⟩:=G0.TK ok hal;exact bG _ _ p0
 have mP:=dP G1;have HX:=dP hxm;have Qu:=dP hmp;have oQ:=dP hc5;have rW:=dP hf5;have om:=ok.mem a ha;have BX:gZ (dY g a)=aB:=lH.2 ⟨a,n,om⟩;have b0:(0:Int)<=a:=by omega
 have b1:(a:Int)<g.mem.length:=by omega
 clear h ok G0 G1 hba hxm hmp om hc5 hf5;have q1:=ai7 (aP #[ah aA (a:Int)]);have q2:=ai8 (aP #[ah aA (a:Int)]);have q3:=ai9 (aP #[ah aA (a:Int)]);have q4:=aj0 (aP #[ah aA (a:Int)]);go_enter Tryz.func83,Tryz.ntmps83
 go_upto_region 14 with fail
 generalize (w.alloc (aH #[ah aA (a:Int)] 158))=W1 at *;have hbd:=(Same.drewN W1 1).below;have wX:=Np A (dY g a) W1.drew (Qu.out.below hbd) (fun _=>hv)
 have HH:Io (dY g a)=(fB (dY g a)):=by rw[Io,if_pos BX]
 rw[HH] at wX;clear HH BX hv;generalize hq1:(fB (dY g a))=m2 at *;have Ls:=dP hq1;clear hq1;generalize hmm:dY g a=m at *;have KS:∀ Z,Below W1.heap.size W1 Z->Z.cell? ⟨B,0,ak⟩=au (aj (au ⟨bb,off,ak⟩) g.mem.length c)/\Z.cell? ⟨w.heap.size,0,ak⟩=au (ah aA (a:Int)):=fun Z hZ=>⟨(mP.out.step hZ).mem,(HX.out.below hZ).at 0 rfl⟩
 unfold iL ig at wX;clear q1 q2 q3 q4;refine lG (S:=fun Z:aI=>Z.cell? ⟨B,0,ak⟩=au (aj (au ⟨bb,off,ak⟩) g.mem.length c)/\Z.cell? ⟨w.heap.size,0,ak⟩=au (ah aA (a:Int))) 19 fU ((KS _ hbd)) fun hHeld=>?_
 refine fE (i:=0) rfl ?_;refine fE (i:=1) rfl ?_;refine fE (i:=2) rfl ?_;refine nC (i:=3) rfl hHeld ?_;refine fE (i:=4) rfl ?_;refine fE (i:=5) rfl ?_;refine nC (i:=6) rfl hHeld ?_;refine fE (i:=7) rfl ?_;refine fE (i:=8) rfl ?_;refine fE (i:=9) rfl ?_;refine nC (i:=10) rfl hHeld ?_;refine fE (i:=11) rfl ?_;refine fE (i:=12) rfl ?_;refine nC (i:=13) rfl hHeld ?_;refine fE (i:=14) rfl ?_;obtain⟨k0,k1,k2,k3,k4⟩:=oQ.out;refine iy (i:=15) rfl fun K hK=>?_
 go_simp;refine hK.out _ _ (KS _ hbd) (fun eG=>?_)
 clear hK hHeld;have hHeld:=eG;try simp only[gW]
 clear k0 k1 k2 k3 k4;refine iy (i:=16) rfl fun K hK=>?_
 go_simp
 go_at_call 70
 refine wX.mono ?_;rintro e w1 ⟨A2,rfl,fr,hr1,hr2,hr3⟩;have hb1:=eP hbd hr3;have BH:=mP.out.JH hal hb1 hr1 (fun b h=>aY2 hbd.size (hr2 b h))
 have JI:=dP BH;have GL:Bx (((((w1.setCell ⟨bb,off+a*5,ak⟩ (ah aA m2.id)).setCell ⟨bb,off+a*5+1,ak⟩ (ah aA m2.n)).setCell ⟨bb,off+a*5+2,ak⟩ (aj A2.ra m2.rows.length A2.rc)).setCell ⟨bb,off+a*5+3,ak⟩ (aj A2.sa m2.dR.length A2.sc)).setCell ⟨bb,off+a*5+4,ak⟩ (aF m2.done)) w.heap.size 158 #[ah aA (a:Int)]:=(((((HX.out.below hb1).far (g:=bb) (by omega) _).far (g:=bb) (by omega) _).far (g:=bb) (by omega) _).far (g:=bb) (by omega) _).far (g:=bb) (by omega) _
 have Ec:=BH.mem;rw[show ({ g with mem:=g.mem.set a m2 }:Gr).mem.length=g.mem.length from aV3] at Ec
 have YM:aG ((fun Z:aI=>Z.cell? ⟨B,0,ak⟩=au (aj (au ⟨bb,off,ak⟩) g.mem.length c)/\Z.cell? ⟨w.heap.size,0,ak⟩=au (ah aA (a:Int))) (((((w1.setCell ⟨bb,off+a*5,ak⟩ (ah aA m2.id)).setCell ⟨bb,off+a*5+1,ak⟩ (ah aA m2.n)).setCell ⟨bb,off+a*5+2,ak⟩ (aj A2.ra m2.rows.length A2.rc)).setCell ⟨bb,off+a*5+3,ak⟩ (aj A2.sa m2.dR.length A2.sc)).setCell ⟨bb,off+a*5+4,ak⟩ (aF m2.done))):=⟨Ec,GL.at 0 rfl⟩
 obtain⟨k0,k1,k2,k3,k4⟩:=oQ.out;have t:∀ {x v},W1.cell? x=au v->w1.cell? x=au v:=fun h=>fM hb1 h
 replace k0:=t k0;replace k1:=t k1;replace k2:=t k2;replace k3:=t k3;replace k4:=t k4;obtain⟨z0,z1,z2,z3,z4⟩:=rW.out
 have tz:∀ {x v},W1.cell? x=au v->W1.frozen? x=aC->w1.frozen? x=aC:=fun {x v} h hz=>by
  have e:=hb1.block x.block (bG _ _ h);simpa only[World.frozen?,e] using hz
 replace z0:=tz oQ.out.1 z0;replace z1:=tz oQ.out.2.1 z1;replace z2:=tz oQ.out.2.2.1 z2;replace z3:=tz oQ.out.2.2.2.1 z3;replace z4:=tz oQ.out.2.2.2.2 z4;unfold iL ig;refine hK.out _ _ (KS _ hb1) (fun eG=>?_)
 clear hK hHeld;have hHeld:=eG;try simp only[gW]
 refine fE (i:=17) rfl ?_;refine iy (i:=18) rfl fun K hK=>?_
 go_simp;refine hK.out _ _ YM.out (fun eG=>?_)
 clear hK hHeld;have hHeld:=eG;try simp only[gW]
 clear k0 k1 k2 k3 k4 z0 z1 z2 z3 z4 t tz hr1 hr2 hr3 hb1 hbd KS wX BH GL Ec;generalize (((((w1.setCell ⟨bb,off+a*5,ak⟩ (ah aA m2.id)).setCell ⟨bb,off+a*5+1,ak⟩ (ah aA m2.n)).setCell ⟨bb,off+a*5+2,ak⟩ (aj A2.ra m2.rows.length A2.rc)).setCell ⟨bb,off+a*5+3,ak⟩ (aj A2.sa m2.dR.length A2.sc)).setCell ⟨bb,off+a*5+4,ak⟩ (aF m2.done))=W9 at *;refine uT (by kernel_rfl) ?_
 clear hHeld;go_wp2
 first|go_end0|go_ret
 exact⟨rfl,by rw[Ls.out];exact JI.out.iw⟩
end
theorem ax4 (B:Nat) (g:Gr) (n a:Nat) (b:Nat) (fp:Fp) (w:aI) (h:iO w B 0 (fK g) fp) (ok:OkG g n) (ha:a<n) :
  ba3 aZ8 83 #[aO (au ⟨B,0,ak⟩),.iface 155 (aP #[ah aA (a:Int),ah aA (b:Int)])] w fun e w'=>e=aK (aF aB)/\fH w w' B 0 (fK (iT g (a:Int) (b:Int))) fp:=by
 obtain⟨bb,off,c,G0⟩:=Gw.start h (by rw[ok.ml];have:=ok.n5;omega)
 have hba:=dX w (aH #[ah aA (a:Int),ah aA (b:Int)] 155);have hxm:=Bx.new w 155 #[ah aA (a:Int),ah aA (b:Int)];have G1:=G0.step hba;obtain⟨gI,hp,_,hgo⟩:=G1.iw.next;have hP:=as5 B 0 g n a b gI _ hp ok ha;have BI:=dP hgo;have x0:=hxm.at 0 rfl;have x1:=hxm.at 1 rfl;clear h ok G0 G1 hba hxm hp hgo ;have q1:=ai2 (aP #[ah aA (a:Int),ah aA (b:Int)]);have q2:=ai3 (aP #[ah aA (a:Int),ah aA (b:Int)]);go_enter Tryz.func83,Tryz.ntmps83
 go_wp2_with fail
 refine hP.mono ?_;rintro e w1 ⟨rfl,hb1⟩;have HB1:aG (fH w w1 B 0 (fK (iT g (a:Int) (b:Int))) fp):=BI.out _ _ rfl hb1;clear hb1 hP x0 x1 BI;go_wp2;go_ret
 exact⟨rfl,HB1.out⟩
theorem ax5 (B:Nat) (g:Gr) (n a:Nat) (b:Nat) (x:Ac) (ea:x.a=(a:Int)) (eb:x.b=(b:Int)) (fp:Fp) (w:aI) (h:iO w B 0 (fK g) fp) (ok:OkG g n) (ha:a<n) (hb:b<n) :
  ba3 aZ8 83 #[aO (au ⟨B,0,ak⟩),.iface 156 (aP #[ah aA x.a,ah aA x.b])] w fun e w'=>e=aK (aF (DN g x).2)/\fH w w' B 0 (fK (DN g x).1) fp:=by
 obtain⟨bb,off,c,G0⟩:=Gw.start h (by rw[ok.ml];have:=ok.n5;omega)
 have hba:=dX w (aH #[ah aA x.a,ah aA x.b] 156);have hxm:=Bx.new w 156 #[ah aA x.a,ah aA x.b];have G1:=G0.step hba;obtain⟨gI,hp,_,hgo⟩:=G1.iw.next;have hP:=au4 B g n a b x ea eb gI _ hp ok ha hb;rw[<- ea,<- eb] at hP;have BI:=dP hgo;have x0:=hxm.at 0 rfl;have x1:=hxm.at 1 rfl;clear h ok G0 G1 hba hxm hp hgo ea eb hb;have q1:=ai4 (aP #[ah aA x.a,ah aA x.b]);have q2:=ai5 (aP #[ah aA x.a,ah aA x.b]);have q3:=ai6 (aP #[ah aA x.a,ah aA x.b]);go_enter Tryz.func83,Tryz.ntmps83
 go_wp2_with fail
 refine hP.mono ?_;rintro e w1 ⟨rfl,hb1⟩;have HB1:aG (fH w w1 B 0 (fK (DN g x).1) fp):=BI.out _ _ rfl hb1;clear hb1 hP x0 x1 BI;go_wp2;go_ret
 exact⟨rfl,HB1.out⟩
theorem ax6 (B:Nat) (g:Gr) (n a:Nat) (fp:Fp) (w:aI) (h:iO w B 0 (fK g) fp) (ok:OkG g n) (ha:a<n) :
  ba3 aZ8 83 #[aO (au ⟨B,0,ak⟩),.iface 161 (aP #[ah aA (a:Int)])] w fun e w'=>e=aK (aF aB)/\fH w w' B 0 (fK (kS g (a:Int))) fp:=by
 obtain⟨bb,off,c,G0⟩:=Gw.start h (by rw[ok.ml];have:=ok.n5;omega)
 have hba:=dX w (aH #[ah aA (a:Int)] 161);have hxm:=Bx.new w 161 #[ah aA (a:Int)];have G1:=G0.step hba;obtain⟨gI,hp,_,hgo⟩:=G1.iw.next;have hP:=as6 B 0 g n a gI _ hp ok ha;have BI:=dP hgo;have x0:=hxm.at 0 rfl;clear h ok G0 G1 hba hxm hp hgo ;have q1:=aj1 (aP #[ah aA (a:Int)]);have q2:=aj2 (aP #[ah aA (a:Int)]);have q3:=aj3 (aP #[ah aA (a:Int)]);have q4:=aj6 (aP #[ah aA (a:Int)]);have q5:=aj7 (aP #[ah aA (a:Int)]);have q6:=aj8 (aP #[ah aA (a:Int)]);have q7:=aj9 (aP #[ah aA (a:Int)]);go_enter Tryz.func83,Tryz.ntmps83
 go_wp2_with fail
 refine hP.mono ?_;rintro e w1 ⟨rfl,hb1⟩;have HB1:aG (fH w w1 B 0 (fK (kS g (a:Int))) fp):=BI.out _ _ rfl hb1;clear hb1 hP x0  BI;go_wp2;go_ret
 exact⟨rfl,HB1.out⟩
section
theorem YN {n m: Int} {xs: List Int} (h:nR n xs=aB) (hm:n<=m):nR m xs=aB:=by
 rw[nR,List.all_eq_true] at h ⊢;intro i hi;have:=h i hi;rw[aU2,iQ] at this ⊢;exact⟨by omega,this.2⟩
theorem ax7 (h:x.kind≠2) (h':x.kind≠3) (h'':x.kind≠5):uX x=[x.a]:=by
 rw[uX,if_neg (by omega)]
theorem Gl (h:x.kind=2\/x.kind=3\/x.kind=5):uX x=[x.a,x.b]:=by rw[uX,if_pos h]
theorem DU (g:Gr) (x:Ac):nR (g.mem.length:Int) [x.a,x.b]=nN g x:=by rw[Qj,nN]
theorem aH1 {g: Gr} (h:xC x=aC\/rM g x=aC):iY g x=(g,aC):=by
 by_cases h3:x.kind=3
 ·rw[PV h3]
  rcases h with h|h
  ·rw[xC,decide_eq_false_iff_not] at h
   omega
  ·rw[rM,Gl (by omega),DU,decide_eq_true h3,Bool.true_or,Bool.and_true] at h
   rw[h]
   rfl
 ·by_cases hn:inB x.a 0 ((g.mem.length:Int)-1)=aC\/nM g x.a.toNat=aC
  ·exact PW h3 hn
  ·have h1:inB x.a 0 ((g.mem.length:Int)-1)=aB:=by
    cases e:inB x.a 0 ((g.mem.length:Int)-1) with
    | true=>rfl
    | false=>exact absurd (.inl e) hn
   have h2:nM g x.a.toNat=aB:=by
    cases e:nM g x.a.toNat with
    | true=>rfl
    | false=>exact absurd (.inr e) hn
   rw[CU h3 h1 h2];rcases h with h|h
   ·rw[xC,decide_eq_false_iff_not] at h
    rw[if_neg (by omega),if_neg (by omega),if_neg (by omega),if_neg (by omega),if_neg (by omega),if_neg (by omega)]
   ·by_cases h25:x.kind=2\/x.kind=3\/x.kind=5
    ·rw[rM,Gl h25,DU,h2,Bool.or_true,Bool.and_true] at h
     rcases h25 with e|e|e
     ·rw[if_neg (by omega),if_pos e,if_neg (by rw[h];decide)]
     ·exact absurd e h3
     ·rw[if_neg (by omega),if_neg (by omega),if_neg (by omega),if_pos e,if_neg (by rw[h];decide)]
    ·rw[rM,ax7 (by omega) (by omega) (by omega),ac9,h1,h2,Bool.or_true] at h
     cases h
theorem ax8 {g: Gr} (ok:OkG g n) (h:Hg x=aC):xC x=aC\/rM g x=aC:=by
 cases hk:xC x with
 | false=>exact .inl rfl
 | true =>
  refine .inr ?_;rw[Hg,hk,aX7] at h;rw[rM]
  cases e:nR (g.mem.length:Int) (uX x) with
  | false=>rfl
  | true =>
   have:=YN e (m:=5) (by have:=ok.ml;have:=ok.n5;omega)
   rw[h] at this
   cases this
def FU (p:Bool):Int:=if p=aB then 0 else 1
def Vx (g:Gr) (x:Ac):Prop:=x.kind=4->(dY g x.a.toNat).own.ver<1000000
def ak0 (g:Gr) (x:Ac):Prop:=∀ (B:Nat) (fp:Fp) (w:aI),iO w B 0 (fK g) fp->xC x=aB->rM g x=aB->ba3 aZ8 83 #[aO (au ⟨B,0,ak⟩),nT x] w fun e w'=>e=aK (aF (iY g x).2)/\fH w w' B 0 (fK (iY g x).1) fp
attribute [local irreducible] sv
theorem Ug (B:Nat) (g:Gr) (n:Nat) (x:Ac) (fp:Fp) (w:aI) (h:iO w B 0 (fK g) fp) (ok:OkG g n) (ha:jo x.a) (hb:jo x.b) (ht:x.txt.length<=1048576) (hv:ak0 g x) :
  ba3 aZ8 43 #[aO (au ⟨B,0,ak⟩),aP #[ah aA x.kind,ah aA x.a,ah aA x.b,aN (sv x.txt)]] w fun e w'=>e=aK (ah aA (FU (iY g x).2))/\fH w w' B 0 (fK (iY g x).1) fp:=by
 have hba:=dX w (aH #[ah aA x.kind,ah aA x.a,ah aA x.b,aN (sv x.txt)] 38);have hx:=Bx.new w 38 #[ah aA x.kind,ah aA x.a,ah aA x.b,aN (sv x.txt)];obtain⟨y0,y1,y2,y3⟩:=Bx.a4 hx;have hS:=TN x ha hb (w.alloc (aH #[ah aA x.kind,ah aA x.a,ah aA x.b,aN (sv x.txt)] 38));have HB:aG (Below w.heap.size w (w.alloc (aH #[ah aA x.kind,ah aA x.a,ah aA x.b,aN (sv x.txt)] 38))):=hba;have H0:aG (fH w w B 0 (fK g) fp):=fH.refl h;have iE:aG (OkG g n):=ok;have jY:aG (xC x=aC\/rM g x=aC->iY g x=(g,aC)):=aH1;clear hba hx h ok
 cases hs:Hg x with
 | false =>
  have HZ:=dP (jY.out (ax8 iE.out hs));rw[hs] at hS;generalize nT x=V at *;clear hs ha hb ht hv jY;go_enter Tryz.func43,Tryz.ntmps43
  go_wp2_with fail
  refine hS.mono ?_;rintro e w1 ⟨rfl,hb1⟩;have HB1:=dP (H0.out.below (eP HB.out hb1));clear hb1 hS y0 y1 y2 y3;go_wp2;go_ret
  exact⟨by rw[HZ.out];rfl,by rw[HZ.out];exact HB1.out⟩
 | true =>
  have hk:xC x=aB:=by
   cases e:xC x with
   | true=>rfl
   | false=>rw[Hg,e] at hs;cases hs
  rw[hs] at hS
  have HM:aG (∀ w1,Below w.heap.size w w1->ba3 aZ8 82 #[aO (au ⟨B,0,ak⟩),nT x] w1 fun e w'=>e=aK (aF (rM g x))/\fH w w' B 0 (fK g) fp):=fun w1 h1=>by
   obtain⟨gI,hp,_,hgo⟩:=(H0.out.below h1).next;exact (au8 B g n x gI w1 hp iE.out hk ha hb).mono (fun e w' h=>⟨h.1,(H0.out.below h1).below h.2⟩)
  have HT:aG (rM g x=aB->∀ w1,fH w w1 B 0 (fK g) fp->ba3 aZ8 83 #[aO (au ⟨B,0,ak⟩),nT x] w1 fun e w'=>e=aK (aF (iY g x).2)/\fH w w' B 0 (fK (iY g x).1) fp):=fun hm w1 h1=>by
   obtain⟨gI,hp,_,hgo⟩:=h1.next;exact (hv B gI w1 hp hk hm).mono (fun e w' h=>⟨h.1,hgo _ _ rfl h.2⟩)
  clear hs hk ha hb ht hv;generalize nT x=V at *;go_enter Tryz.func43,Tryz.ntmps43
  go_wp2_with fail
  refine hS.mono ?_;rintro e w1 ⟨rfl,hb1⟩;have hM:=HM.out w1 (eP HB.out hb1);clear hb1 hS y0 y1 y2 y3;go_wp2_with fail
  refine hM.mono ?_;rintro e w2 ⟨rfl,hb2⟩;have HB2:=dP hb2;clear hM hb2 HM
  cases hmt:rM g x with
  | false =>
   have HZ:=dP (jY.out (.inr hmt));clear hmt HT;go_wp2;go_ret
   exact⟨by rw[HZ.out];rfl,by rw[HZ.out];exact HB2.out⟩
  | true =>
   have hT:=HT.out hmt w2 HB2.out;clear hmt HT jY;go_wp2_with fail
   refine hT.mono ?_;rintro e w3 ⟨rfl,hb3⟩;have HB3:=dP hb3;clear hT hb3
   cases hz:(iY g x).2 with
   | false =>
    have HZ:=dP hz;clear hz;go_wp2;go_ret
    exact⟨by rw[HZ.out];rfl,HB3.out⟩
   | true =>
    have HZ:=dP hz;clear hz;go_wp2;go_ret
    exact⟨by rw[HZ.out];rfl,HB3.out⟩
end
def wY (g:Gr) (L:List Ml) (k:Nat):Gr:=(L.take k).foldl o8 g
theorem JO {g: Gr} {L: List Ml} {x: Ml} (h:L[k]?=au x):wY g L (k+1)=o8 (wY g L k) x:=by
 unfold wY;rw[List.take_add_one,h,List.foldl_append]
 rfl
theorem IB {g:Gr} {n:Nat} (ok:OkG g n) {L:List Ml} (hL:∀ x∈L,∃ b:Nat,x.to=(b:Int)/\b<n):∀ k,OkG (wY g L k) n
 | 0=>ok
 | k+1=>by
  cases e:L[k]? with
  | none =>
   have:L.length<=k:=by
    rcases aY6 k L.length with h|h
    ·rw[bC h] at e;cases e
    ·exact h
   have ih:=IB ok hL k;unfold wY at ih ⊢
   rwa [bJ (by omega),<- bJ this]
  | some x =>
   rw[JO e];obtain⟨b,h1,h2⟩:=hL x (bW e);exact ae2 (IB ok hL k) h1 h2
theorem ax9 (B:Nat) (g:Gr) (n:Nat) (fp:Fp) (w:aI) (h:iO w B 0 (fK g) fp) (ok:OkG g n) (hv:∀ k,k<n->(dY (kF g k) k).own.ver<1000000) :
  ba3 aZ8 36 #[aO (au ⟨B,0,ak⟩)] w fun e w'=>e=aK (.tuple #[])/\fH w w' B 0 (fK (lV g)) fp:=by
 have fU:=iq;have jy:=ok.n5;obtain⟨bb0,aQ6,c00,G0⟩:=Gw.start h (by rw[ok.ml];omega)
 obtain⟨ub,uo,uc,u1,_,_,_⟩:=G0.bit (k:=0) (by rw[ok.ul];omega)
 rw[ok.ul] at u1;simp only[aY7] at u1;have HU0:=dP u1;have H0:=dP (fH.refl h);have iE:=dP (vI ok);have HV:=dP hv;have wS:=dP (DK ok);clear h ok hv G0;go_enter Tryz.func36,Tryz.ntmps36
 go_wp2_with fail
 clear u1
 go_loopw [12] (fun i wr=>∃ k:Nat,k<=n/\i=ah aA (k:Int)/\aG (wr.cell? ⟨B,1,ak⟩=au (aj (au ⟨ub,uo,ak⟩) n uc))/\fH w wr B 0 (fK (kF g k)) fp) (fun i _=>n-(ba4 i).toNat)
 case atStart=>exact⟨0,aZ1 _,rfl,HU0,H0.out⟩
 case round =>
  obtain⟨k,hk,rfl,HU,hb⟩:=hrel;have HB:=dP hb;clear hb;by_cases hlt:k<n
  ·have k1:(k:Int)<n:=by omega
   have k0:(0:Int)<=k:=by omega
   obtain⟨gI,hp,_,hgo⟩:=HB.out.next;have Jg:=iE.out k (by omega)
   obtain⟨bb,off,c,G⟩:=Gw.start hp (by rw[Jg.ml];omega)
   obtain⟨ub',uo',uc',v1,v2,_,_⟩:=G.bit (k:=k) (by rw[Jg.ul];exact hlt)
   simp only[aY7] at v1;rw[HU.out,Jg.ul] at v1
   cases v1
   have HM:=dP (zK g k);have BI:=dP hgo;have Vy:=dP Jg;have hvk:=HV.out k hlt;have HG:=dP G;clear hgo hp Jg G;generalize hgk:kF g k=gk at *
   cases hup:nM gk k with
   | false =>
    have HN:aG (kF g (k+1)=gk):=by rw[aG,HM.out,jP,if_neg (by rw[hup];decide)]
    rw[hup] at v2;clear hup hgk hvk;go_wp2;go_roundw
    case rel=>exact⟨k+1,by omega,by go_num,HU,by rw[HN.out];exact HB.out⟩
    case measure=>simp[ba4];omega
   | true =>
    have HN:aG (kF g (k+1)=kS (gk.set k (fB (dY gk k))) (k:Int)):=by rw[aG,HM.out,jP,if_pos hup]
    rw[hup] at v2;have hkl:k<gk.mem.length:=by rw[Vy.out.ml];exact hlt
    obtain⟨A,hc5,hf5,hmp⟩:=HG.out.TK Vy.out hkl
    have hbB:bb≠B:=fun e=>by
     obtain⟨_,_,f0,_,_,_,_,_,_,hmem,hap,_⟩:=HG.out.full;obtain⟨_,_,_,ee,h1,_⟩:=yE uF (by omega) hmem (sG hkl)
     cases ee
     exact (hap _ h1).2 e
    have Qu:=dP hmp;have oQ:=dP hc5;have rW:=dP hf5;have BX:gZ (dY gk k)=aB:=lH.2 ⟨k,n,Vy.out.mem k hlt⟩;have b1:(k:Int)<gk.mem.length:=by omega
    have hbd:=(Same.drewN wr 1).below;have wX:=Np A (dY gk k) wr.drew (Qu.out.below hbd) (fun _=>hvk)
    have HH:Io (dY gk k)=fB (dY gk k):=by rw[Io,if_pos BX]
    rw[HH] at wX;have HSt:aG (OkG (gk.set k (fB (dY gk k))) n):=(Vy.out.row hlt).1;clear HH BX hvk hup hgk hc5 hf5 hmp;generalize hq1:fB (dY gk k)=m2 at *;clear hq1;generalize hmm:dY gk k=m at *;clear hmm;have KS:∀ Z,Below wr.heap.size wr Z->Z.cell? ⟨B,0,ak⟩=au (aj (au ⟨bb,off,ak⟩) gk.mem.length c):=fun Z hZ=>(HG.out.step hZ).mem
    have HPt:aG (∀ (lS:Fp) (X:aI),iO X B 0 (fK (gk.set k m2)) lS->ba3 aZ8 71 #[aO (au ⟨B,0,ak⟩),ah aA (k:Int)] X fun e w'=>e=aK (.tuple #[])/\fH X w' B 0 (fK (kS (gk.set k m2) (k:Int))) lS/\w'.cell? ⟨B,0+1,ak⟩=X.cell? ⟨B,0+1,ak⟩):=fun lS X hX=>TG B 0 (gk.set k m2) n k lS X hX HSt.out hlt
    unfold iL ig at wX;go_upto_region 4 with fail
    clear v2;refine lG (S:=fun Z:aI=>Z.cell? ⟨B,0,ak⟩=au (aj (au ⟨bb,off,ak⟩) gk.mem.length c)) 15 fU ((KS _ hbd)) fun hHeld=>?_
    refine fE (i:=0) rfl ?_;refine fE (i:=1) rfl ?_;refine fE (i:=2) rfl ?_;refine nC (i:=3) rfl hHeld ?_;refine fE (i:=4) rfl ?_;refine fE (i:=5) rfl ?_;refine fE (i:=6) rfl ?_;refine fE (i:=7) rfl ?_;refine nC (i:=8) rfl hHeld ?_;refine fE (i:=9) rfl ?_;refine fE (i:=10) rfl ?_;obtain⟨j0,j1,j2,j3,j4⟩:=oQ.out;refine iy (i:=11) rfl fun K hK=>?_
    go_simp;refine hK.out _ _ (KS _ hbd) (fun eG=>?_)
    clear hK hHeld;have hHeld:=eG;try simp only[gW]
    clear j0 j1 j2 j3 j4;refine iy (i:=12) rfl fun K hK=>?_
    go_simp
    go_at_call 70
    refine wX.mono ?_;rintro e w1 ⟨A2,rfl,fr,hr1,hr2,hr3⟩;have hb1:=eP hbd hr3;have BH:=HG.out.JH hkl hb1 hr1 (fun b h=>aY2 hbd.size (hr2 b h))
    have JI:=dP BH;have Ec:=BH.mem;rw[show ({ gk with mem:=gk.mem.set k m2 }:Gr).mem.length=gk.mem.length from aV3] at Ec
    have YM:=dP Ec
    have HU9:aG ((((((w1.setCell ⟨bb,off+k*5,ak⟩ (ah aA m2.id)).setCell ⟨bb,off+k*5+1,ak⟩ (ah aA m2.n)).setCell ⟨bb,off+k*5+2,ak⟩ (aj A2.ra m2.rows.length A2.rc)).setCell ⟨bb,off+k*5+3,ak⟩ (aj A2.sa m2.dR.length A2.sc)).setCell ⟨bb,off+k*5+4,ak⟩ (aF m2.done)).cell? ⟨B,1,ak⟩=au (aj (au ⟨ub,uo,ak⟩) n uc)):=by
     have e0:=fM hb1 HU.out;rw[aG,World.cell?_setCell_far _ _ _ _ hbB,World.cell?_setCell_far _ _ _ _ hbB,World.cell?_setCell_far _ _ _ _ hbB,World.cell?_setCell_far _ _ _ _ hbB,World.cell?_setCell_far _ _ _ _ hbB];exact e0
    obtain⟨j0,j1,j2,j3,j4⟩:=oQ.out;have t:∀ {x v},wr.cell? x=au v->w1.cell? x=au v:=fun h=>fM hb1 h
    replace j0:=t j0;replace j1:=t j1;replace j2:=t j2;replace j3:=t j3;replace j4:=t j4;obtain⟨z0,z1,z2,z3,z4⟩:=rW.out
    have tz:∀ {x v},wr.cell? x=au v->wr.frozen? x=aC->w1.frozen? x=aC:=fun {x v} h hz=>by
     have e:=hb1.block x.block (bG _ _ h);simpa only[World.frozen?,e] using hz
    replace z0:=tz oQ.out.1 z0;replace z1:=tz oQ.out.2.1 z1;replace z2:=tz oQ.out.2.2.1 z2;replace z3:=tz oQ.out.2.2.2.1 z3;replace z4:=tz oQ.out.2.2.2.2 z4;unfold iL ig;refine hK.out _ _ (KS _ hb1) (fun eG=>?_)
    clear hK hHeld;have hHeld:=eG;try simp only[gW]
    refine fE (i:=13) rfl ?_;refine iy (i:=14) rfl fun K hK=>?_
    go_simp;refine hK.out _ _ YM.out (fun eG=>?_)
    clear hK hHeld;have hHeld:=eG;try simp only[gW]
    clear j0 j1 j2 j3 j4 z0 z1 z2 z3 z4 t tz hr1 hr2 hr3 hb1 hbd KS wX BH Ec;generalize (((((w1.setCell ⟨bb,off+k*5,ak⟩ (ah aA m2.id)).setCell ⟨bb,off+k*5+1,ak⟩ (ah aA m2.n)).setCell ⟨bb,off+k*5+2,ak⟩ (aj A2.ra m2.rows.length A2.rc)).setCell ⟨bb,off+k*5+3,ak⟩ (aj A2.sa m2.dR.length A2.sc)).setCell ⟨bb,off+k*5+4,ak⟩ (aF m2.done))=W9 at *;refine uT (by kernel_rfl) ?_
    clear hHeld;obtain⟨lS,hp3,_,aH2⟩:=(BI.out W9 (fK (gk.set k m2)) rfl JI.out.iw).next;have hP:=HPt.out lS W9 hp3;have aQ7:=dP aH2;clear hp3 aH2 HPt;go_wp2_with fail
    refine hP.mono ?_;rintro e w4 ⟨rfl,hb4,Yt⟩;have HB4:aG (fH w w4 B 0 (fK (kS (gk.set k m2) (k:Int))) fp):=aQ7.out _ _ rfl hb4
    have HU4:aG (w4.cell? ⟨B,1,ak⟩=au (aj (au ⟨ub,uo,ak⟩) n uc)):=by
     simp only[aY7] at Yt;exact Yt.trans HU9.out
    clear hb4 Yt hP;go_wp2;go_roundw
    case rel=>exact⟨k+1,by omega,by go_num,HU4,by rw[HN.out];exact HB4.out⟩
    case measure=>simp[ba4];omega
  ·have k1:¬ ((k:Int)<n):=by omega
   have e:k=n:=by omega
   have HF:=dP (wS.out.trans (JJ _ _ rfl));have Nq:=dP (iE.out n (aZ0 _));subst e;clear wS iE HV H0 HU0 HU k1 hlt hk;generalize kF g k=gr at *;obtain⟨la,lc,f3,gI,c2,z2,hown,hnB,hpl,hdis,hgo⟩:=Yo HB.out;have aR3:=Nq.out.pF;have HB0:=dP (fH.refl hpl);have BI:=dP hgo
   have HA:aG (∀ w2 cs2 j,fH (wr.setCell ⟨B,2,ak⟩ (aj ak 0 0)) w2 B 0 cs2 gI->j<gr.dS.length->∃ lb lo A,la=au ⟨lb,lo,ak⟩/\DL w2 lb (lo+j*10) (eX gr j) A/\qo w2 A (eX gr j).row):=fun w2 cs2 j hb hj=>by
    have how:=eF.lC hown hb.wrt (fun b hb h=>h.elim (fun h1=>hdis b h1 hb) (fun e=>hnB (e ▸ hb)))
    obtain⟨lb,lo,lc',q1,q2,q3,g1,g2,g3,e,_,_,_,_,_,_,l1,l2,l3,_,_,_,p1,p2,p3⟩:=Kt ng how (lI hj)
    cases e
    obtain⟨A,rfl,LV⟩:=Gg l2;obtain⟨_,_,_,_,_,_,_,R⟩:=Nq.out.jZ _ (bW (lI hj));have r64:=KJ R;exact⟨lb,lo,A,rfl,p2,zV (uV LV (lo:=0) (fun b _=>aZ1 b)) R.fit r64.1 (by have:=r64.2;omega)⟩
   have HK : aG (∀ j,OkG (wY { gr with dS := [] } gr.dS j) k) := IB (g := { gr with dS := [] }) (L := gr.dS) ⟨Nq.out.n5,Nq.out.ml,Nq.out.ul,by simp,Nq.out.mem,fun x hx => by cases hx⟩ (fun x hx => by
    obtain⟨_,b,_,h2,_,h4,_⟩:=Nq.out.jZ x hx;exact⟨b,h2,h4⟩)
   clear hown hnB hpl hdis hgo;go_wp2_with fail
   clear c2 z2;generalize wr.setCell ⟨B,2,ak⟩ (aj ak 0 0)=W0 at *
   go_loopw [45] (fun i w2=>∃ j:Nat,j<=gr.dS.length/\i=ah aA (j:Int)/\fH W0 w2 B 0 (fK (wY { gr with dS:=[] } gr.dS j)) gI) (fun i _=>gr.dS.length-(ba4 i).toNat)
   case atStart=>exact⟨0,aZ1 _,rfl,HB0.out⟩
   case round =>
    obtain⟨j,hj,rfl,hb⟩:=hrel;have G8:=dP hb;clear hb;by_cases hlt:j<gr.dS.length
    ·have k1:(j:Int)<gr.dS.length:=by omega
     have k0:(0:Int)<=j:=by omega
     obtain⟨lb,lo,A,rfl,hat,nD⟩:=HA.out wr _ j G8.out hlt;obtain⟨a,b,m1,m2,han,hbn,_,_⟩:=Nq.out.jZ _ (bW (lI hlt));have HM:aG (wY { gr with dS:=[] } gr.dS (j+1)=o8 (wY { gr with dS:=[] } gr.dS j) (eX gr j)):=JO (lI hlt)
     generalize eX gr j=y at *;obtain⟨fr,tt,r⟩:=y;simp only at m1 m2
     subst m1 m2;have hb3:=dX wr (aH #[ah aA (a:Int),ah aA (b:Int),ah aA r.ver,aj A.ta r.txt.length A.tc,aj A.ga r.got.length A.gc,aj A.sa r.dQ.length A.sc,aF r.wed,aF r.dV,ah aA r.dW,aj A.ma r.dU.length A.mc] 68);obtain⟨ES,YO,_,QI⟩:=(G8.out.below hb3).next;have Yn:=TL B (wY { gr with dS:=[] } gr.dS j) k a b r A ES _ YO (HK.out j) hbn han (nD.below hb3)
     have ak1:=dP QI;obtain⟨⟨y0,y1,y2,y3,y4⟩,y5,y6,y7,y8,y9⟩:=Bx.AZ (Bx.new wr 68 #[ah aA (a:Int),ah aA (b:Int),ah aA r.ver,aj A.ta r.txt.length A.tc,aj A.ga r.got.length A.gc,aj A.sa r.dQ.length A.sc,aF r.wed,aF r.dV,ah aA r.dW,aj A.ma r.dU.length A.mc]);have x0:=hat 0 _ rfl;have x1:=hat 1 _ rfl;have x2:=hat 2 _ rfl;have x3:=hat 3 _ rfl;have x4:=hat 4 _ rfl;have x5:=hat 5 _ rfl;have x6:=hat 6 _ rfl;have x7:=hat 7 _ rfl;have x8:=hat 8 _ rfl;have x9:=hat 9 _ rfl;simp only[aY5] at x0;clear hat nD hb3 YO QI han hbn HK HA;go_wp2_with fail
     refine Yn.mono ?_;rintro e w6 ⟨rfl,hb6⟩
     have uJ:aG (fH W0 w6 B 0 (fK (wY { gr with dS:=[] } gr.dS (j+1))) gI):=by
      rw[aG,HM.out];exact ak1.out _ _ rfl hb6
     clear hb6 Yn y0 y1 y2 y3 y4 y5 y6 y7 y8 y9 x0 x1 x2 x3 x4 x5 x6 x7 x8 x9;go_wp2;go_roundw
     case rel=>exact⟨j+1,by omega,by go_num,uJ.out⟩
     case measure=>simp[ba4];omega
    ·have k1:¬ ((j:Int)<gr.dS.length):=by omega
     have e:j=gr.dS.length:=by omega
     have HR:aG (wY { gr with dS:=[] } gr.dS j=lV g):=by rw[aG,HF.out,e,wY,List.take_length]
     have HE:aG (fH w wr B 0 (fK (lV g)) fp):=by
      rw[aG,<- HR.out];exact BI.out _ _ rfl G8.out
     clear e;go_wp2;go_end0;exact⟨rfl,HE.out⟩
section
def Rt:Prop:=∀ (A:Ga) (g:Gr) (n:Nat) (x:Ac) (w:aI),wu w A g->OkG g n->jo x.a->jo x.b->x.txt.length<=1048576->ak0 g x->ba3 aZ8 13 #[jc A g,su x] w fun e w'=>Ve w w' e (iY g x).1 (FU (iY g x).2)
attribute [local irreducible] sv
theorem Ru:Rt:=by
 intro A g n x w hv ok ha hb ht kD;have hb0:Below w.heap.size w (((w.alloc (aH #[aj A.ma g.mem.length A.mc,aj A.ua g.up.length A.uc,aj A.la g.dS.length A.lc] 28)).alloc (aH #[ah aA x.kind,ah aA x.a,ah aA x.b,aN (sv x.txt)] 38)).alloc (aH #[aj ak 0 0,aj ak 0 0,aj ak 0 0] 28)):=((aZ5 _ _).alloc (aZ0 _) _).alloc (by simp) _ |>.alloc (by simp only[aU1];omega) _
 have hx0:Bx (((w.alloc (aH #[aj A.ma g.mem.length A.mc,aj A.ua g.up.length A.uc,aj A.la g.dS.length A.lc] 28)).alloc (aH #[ah aA x.kind,ah aA x.a,ah aA x.b,aN (sv x.txt)] 38)).alloc (aH #[aj ak 0 0,aj ak 0 0,aj ak 0 0] 28)) w.heap.size 28 #[aj A.ma g.mem.length A.mc,aj A.ua g.up.length A.uc,aj A.la g.dS.length A.lc]:=((Bx.new w _ _).alloc _).alloc _
 have hx1:Bx (((w.alloc (aH #[aj A.ma g.mem.length A.mc,aj A.ua g.up.length A.uc,aj A.la g.dS.length A.lc] 28)).alloc (aH #[ah aA x.kind,ah aA x.a,ah aA x.b,aN (sv x.txt)] 38)).alloc (aH #[aj ak 0 0,aj ak 0 0,aj ak 0 0] 28)) (w.heap.size+1) 38 #[ah aA x.kind,ah aA x.a,ah aA x.b,aN (sv x.txt)]:=by
  have:=(Bx.new (w.alloc (aH #[aj A.ma g.mem.length A.mc,aj A.ua g.up.length A.uc,aj A.la g.dS.length A.lc] 28)) 38 #[ah aA x.kind,ah aA x.a,ah aA x.b,aN (sv x.txt)]).alloc (aH #[aj ak 0 0,aj ak 0 0,aj ak 0 0] 28);simp only[aU1] at this;exact this
 have hx2:Bx (((w.alloc (aH #[aj A.ma g.mem.length A.mc,aj A.ua g.up.length A.uc,aj A.la g.dS.length A.lc] 28)).alloc (aH #[ah aA x.kind,ah aA x.a,ah aA x.b,aN (sv x.txt)] 38)).alloc (aH #[aj ak 0 0,aj ak 0 0,aj ak 0 0] 28)) (w.heap.size+2) 28 #[aj ak 0 0,aj ak 0 0,aj ak 0 0]:=by
  have:=Bx.new ((w.alloc (aH #[aj A.ma g.mem.length A.mc,aj A.ua g.up.length A.uc,aj A.la g.dS.length A.lc] 28)).alloc (aH #[ah aA x.kind,ah aA x.a,ah aA x.b,aN (sv x.txt)] 38)) 28 #[aj ak 0 0,aj ak 0 0,aj ak 0 0];simp only[aU1] at this;exact this
 have hv0:=hv.below hb0;unfold jc jH su uM;generalize rV:((w.alloc (aH #[aj A.ma g.mem.length A.mc,aj A.ua g.up.length A.uc,aj A.la g.dS.length A.lc] 28)).alloc (aH #[ah aA x.kind,ah aA x.a,ah aA x.b,aN (sv x.txt)] 38)).alloc (aH #[aj ak 0 0,aj ak 0 0,aj ak 0 0] 28)=W0 at *;have hS:=TN x ha hb W0;have HX0:=dP hx0;have qO:=dP hx1;have lM:=dP hx2;have PZ:=dP hv0;have HB0:=dP hb0;have iE:=dP ok;have HI:aG (jo x.a/\jo x.b/\x.txt.length<=1048576/\ak0 g x):=⟨ha,hb,ht,kD⟩;obtain⟨d0,d1,d2,d3⟩:=Bx.a4 hx1;clear hv hb0 hx0 hx1 hx2 hv0 ok ha hb ht kD;generalize nT x=V at *
 cases hs:Hg x with
 | false =>
  rw[hs] at hS;clear hs;go_enter Tryz.func13,Tryz.ntmps13
  go_wp2_with fail
  refine hS.mono ?_;rintro e w1 ⟨rfl,hb1⟩;have qU:=dP hb1;clear hb1 hS d0 d1 d2 d3;have hC:=KH A g n w1 (PZ.out.below qU.out) iE.out;unfold jc jH at hC;obtain⟨c0,c1,c2⟩:=Bx.g3 (HX0.out.below qU.out);go_wp2_with fail
  refine hC.mono ?_;rintro e w2 ⟨A2,rfl,fp,hl2,hf2,hb2⟩;have hlt2:=jh hl2;have hB2:=eP qU.out hb2;have hba:=dX w2 (aH #[aj A2.ma g.mem.length A2.mc,aj A2.ua g.up.length A2.uc,aj A2.la g.dS.length A2.lc] 28);have hxb:=Bx.new w2 28 #[aj A2.ma g.mem.length A2.mc,aj A2.ua g.up.length A2.uc,aj A2.la g.dS.length A2.lc];have hP:iO (w2.alloc (aH #[aj A2.ma g.mem.length A2.mc,aj A2.ua g.up.length A2.uc,aj A2.la g.dS.length A2.lc] 28)) w2.heap.size 0 (fK g) fp:=AP (A:=A2) hxb (gy hl2 hba) (fun k=>by have:=hlt2 _ k;omega)
  have hB3:=eP hB2 hba;have HZ3:=dP (lM.out.below hB3);have YP:=dP (eP HB0.out hB3);have hH:=Ug w2.heap.size g n x fp _ hP iE.out HI.out.1 HI.out.2.1 HI.out.2.2.1 HI.out.2.2.2;obtain⟨e0,e1,e2,e3⟩:=Bx.a4 (qO.out.below hB3);have hs2:=hB2.size;have hsx:=hb2.size;have hr1:=(lM.out.below qU.out).lt;have HF2:=dP hf2;unfold jc jH;generalize Xp:w2.alloc (aH #[aj A2.ma g.mem.length A2.mc,aj A2.ua g.up.length A2.uc,aj A2.la g.dS.length A2.lc] 28)=V3 at *;have aH3:=hxb.lt;clear hxb hP hl2 hf2 hlt2 hb2 hba c0 c1 c2 hC hB2 hB3;go_wp2_with fail
  refine hH.mono ?_;rintro e Y ⟨rfl,hBc⟩;have hsw:=HB0.out.size;obtain⟨A3,⟨y0,y1,y2⟩,hz3,HN⟩:=BF (w:=w) (r:=w.heap.size+2) hBc (fun b hb=>by have:=HF2.out b hb;exact⟨by omega,by omega⟩) (by omega) (by omega) (by omega) (by have:=HZ3.out.lt;omega) YP.out HZ3.out
  obtain⟨z0,z1,z2⟩:=Bx.g3 hz3;obtain⟨f0,f1,f2⟩:=hz3.f3;have zZ:aG (∀ {a b c:aJ},kW w (((Y.setCell ⟨w.heap.size+2,0,ak⟩ a).setCell ⟨w.heap.size+2,1,ak⟩ b).setCell ⟨w.heap.size+2,2,ak⟩ c) (fK (iY g x).1) (jC A3 (iY g x).1)):=HN Y (aZ5 _ _);generalize hpm:(iY g x).1=pm at *;generalize hcd:FU (iY g x).2=cd at *;have YQ:aG ((iY g x).1=pm):=hpm;have HCd:aG (FU (iY g x).2=cd):=hcd;clear hH hBc HN hz3 hpm hcd e0 e1 e2 e3;go_wp2;refine aY1 (v:=.tuple #[jc A3 pm,ah aA cd]) (by simp[results,Tryz.results13,go_sem,jc,jH, *]) rfl ?_
  rw[YQ.out,HCd.out];exact⟨_,rfl,zZ.out⟩
 | true =>
  rw[hs] at hS;clear hs;go_enter Tryz.func13,Tryz.ntmps13
  go_wp2_with fail
  refine hS.mono ?_;rintro e w0 ⟨rfl,hb1⟩;have hK:=BU A g w0 (PZ.out.below hb1);rw[xM.2 ⟨n,iE.out⟩] at hK;unfold jc jH at hK;have HB1:=dP hb1;obtain⟨c0,c1,c2⟩:=Bx.g3 (HX0.out.below hb1);clear hb1 hS d0 d1 d2 d3;go_wp2_with fail
  refine hK.mono ?_;rintro e w1 ⟨rfl,hb2⟩;have qU:=dP (eP HB1.out hb2);clear hb2 hK c0 c1 c2 HB1;have hC:=KH A g n w1 (PZ.out.below qU.out) iE.out;unfold jc jH at hC;obtain⟨c0,c1,c2⟩:=Bx.g3 (HX0.out.below qU.out);go_wp2_with fail
  refine hC.mono ?_;rintro e w2 ⟨A2,rfl,fp,hl2,hf2,hb2⟩;have hlt2:=jh hl2;have hB2:=eP qU.out hb2;have hba:=dX w2 (aH #[aj A2.ma g.mem.length A2.mc,aj A2.ua g.up.length A2.uc,aj A2.la g.dS.length A2.lc] 28);have hxb:=Bx.new w2 28 #[aj A2.ma g.mem.length A2.mc,aj A2.ua g.up.length A2.uc,aj A2.la g.dS.length A2.lc];have hP:iO (w2.alloc (aH #[aj A2.ma g.mem.length A2.mc,aj A2.ua g.up.length A2.uc,aj A2.la g.dS.length A2.lc] 28)) w2.heap.size 0 (fK g) fp:=AP (A:=A2) hxb (gy hl2 hba) (fun k=>by have:=hlt2 _ k;omega)
  have hB3:=eP hB2 hba;have HZ3:=dP (lM.out.below hB3);have YP:=dP (eP HB0.out hB3);have hH:=Ug w2.heap.size g n x fp _ hP iE.out HI.out.1 HI.out.2.1 HI.out.2.2.1 HI.out.2.2.2;obtain⟨e0,e1,e2,e3⟩:=Bx.a4 (qO.out.below hB3);have hs2:=hB2.size;have hsx:=hb2.size;have hr1:=(lM.out.below qU.out).lt;have HF2:=dP hf2;unfold jc jH;generalize Xp:w2.alloc (aH #[aj A2.ma g.mem.length A2.mc,aj A2.ua g.up.length A2.uc,aj A2.la g.dS.length A2.lc] 28)=V3 at *;have aH3:=hxb.lt;clear hxb hP hl2 hf2 hlt2 hb2 hba c0 c1 c2 hC hB2 hB3;go_wp2_with fail
  refine hH.mono ?_;rintro e Y ⟨rfl,hBc⟩;have hsw:=HB0.out.size;obtain⟨A3,⟨y0,y1,y2⟩,hz3,HN⟩:=BF (w:=w) (r:=w.heap.size+2) hBc (fun b hb=>by have:=HF2.out b hb;exact⟨by omega,by omega⟩) (by omega) (by omega) (by omega) (by have:=HZ3.out.lt;omega) YP.out HZ3.out
  obtain⟨z0,z1,z2⟩:=Bx.g3 hz3;obtain⟨f0,f1,f2⟩:=hz3.f3;have zZ:aG (∀ {a b c:aJ},kW w (((Y.setCell ⟨w.heap.size+2,0,ak⟩ a).setCell ⟨w.heap.size+2,1,ak⟩ b).setCell ⟨w.heap.size+2,2,ak⟩ c) (fK (iY g x).1) (jC A3 (iY g x).1)):=HN Y (aZ5 _ _);generalize hpm:(iY g x).1=pm at *;generalize hcd:FU (iY g x).2=cd at *;have YQ:aG ((iY g x).1=pm):=hpm;have HCd:aG (FU (iY g x).2=cd):=hcd;clear hH hBc HN hz3 hpm hcd e0 e1 e2 e3;go_wp2;refine aY1 (v:=.tuple #[jc A3 pm,ah aA cd]) (by simp[results,Tryz.results13,go_sem,jc,jH, *]) rfl ?_
  rw[YQ.out,HCd.out];exact⟨_,rfl,zZ.out⟩
end
def Vz (g:Gr) (n:Nat):Prop:=∀ j,j<8->∀ k,k<n->(dY (kF (qG j g) k) k).own.ver<1000000
def YR:Prop:=∀ (A:Ga) (g:Gr) (n:Nat) (w:aI),wu w A g->OkG g n->Vz g n->ba3 aZ8 10 #[jc A g] w fun e w'=>zH w w' e (oV g)
theorem YS:YR:=by
 intro A g n w hv ok kD;have hb0:Below w.heap.size w ((w.alloc (aH #[aj A.ma g.mem.length A.mc,aj A.ua g.up.length A.uc,aj A.la g.dS.length A.lc] 28)).alloc (aH #[aj ak 0 0,aj ak 0 0,aj ak 0 0] 28)):=((aZ5 _ _).alloc (aZ0 _) _).alloc (by simp) _
 have hx0:Bx ((w.alloc (aH #[aj A.ma g.mem.length A.mc,aj A.ua g.up.length A.uc,aj A.la g.dS.length A.lc] 28)).alloc (aH #[aj ak 0 0,aj ak 0 0,aj ak 0 0] 28)) w.heap.size 28 #[aj A.ma g.mem.length A.mc,aj A.ua g.up.length A.uc,aj A.la g.dS.length A.lc]:=(Bx.new w _ _).alloc _
 have hx2:Bx ((w.alloc (aH #[aj A.ma g.mem.length A.mc,aj A.ua g.up.length A.uc,aj A.la g.dS.length A.lc] 28)).alloc (aH #[aj ak 0 0,aj ak 0 0,aj ak 0 0] 28)) (w.heap.size+1) 28 #[aj ak 0 0,aj ak 0 0,aj ak 0 0]:=by
  have:=Bx.new (w.alloc (aH #[aj A.ma g.mem.length A.mc,aj A.ua g.up.length A.uc,aj A.la g.dS.length A.lc] 28)) 28 #[aj ak 0 0,aj ak 0 0,aj ak 0 0];simp only[aU1] at this;exact this
 have hv0:=hv.below hb0;unfold jc jH;generalize rV:(w.alloc (aH #[aj A.ma g.mem.length A.mc,aj A.ua g.up.length A.uc,aj A.la g.dS.length A.lc] 28)).alloc (aH #[aj ak 0 0,aj ak 0 0,aj ak 0 0] 28)=W0 at *;have hK:=BU A g W0 hv0;rw[xM.2 ⟨n,ok⟩] at hK;unfold jc jH at hK;have HX0:=dP hx0;have lM:=dP hx2;have PZ:=dP hv0;have HB0:=dP hb0;have iE:=dP ok;have HVc:=dP kD;have HCk:=dP (xU ok);obtain⟨c0,c1,c2⟩:=Bx.g3 hx0;clear hv hb0 hx0 hx2 hv0 ok kD;go_enter Tryz.func10,Tryz.ntmps10
 go_wp2_with fail
 refine hK.mono ?_;rintro e w1 ⟨rfl,hb1⟩;have qU:=dP hb1;clear hb1 hK c0 c1 c2;have hC:=KH A g n w1 (PZ.out.below qU.out) iE.out;unfold jc jH at hC;obtain⟨c0,c1,c2⟩:=Bx.g3 (HX0.out.below qU.out);go_wp2_with fail
 refine hC.mono ?_;rintro e w2 ⟨A2,rfl,fp,hl2,hf2,hb2⟩;have hlt2:=jh hl2;have hB2:=eP qU.out hb2;have hba:=dX w2 (aH #[aj A2.ma g.mem.length A2.mc,aj A2.ua g.up.length A2.uc,aj A2.la g.dS.length A2.lc] 28);have hxb:=Bx.new w2 28 #[aj A2.ma g.mem.length A2.mc,aj A2.ua g.up.length A2.uc,aj A2.la g.dS.length A2.lc];have hP:iO (w2.alloc (aH #[aj A2.ma g.mem.length A2.mc,aj A2.ua g.up.length A2.uc,aj A2.la g.dS.length A2.lc] 28)) w2.heap.size 0 (fK g) fp:=AP (A:=A2) hxb (gy hl2 hba) (fun k=>by have:=hlt2 _ k;omega)
 have hB3:=eP hB2 hba;have HZ3:=dP (lM.out.below hB3);have YP:=dP (eP HB0.out hB3);have HP0:=dP (fH.refl hP);have hs2:=hB2.size;have hsx:=hb2.size;have hr1:=(lM.out.below qU.out).lt;have HF2:=dP hf2;unfold jc jH;generalize Xp:w2.alloc (aH #[aj A2.ma g.mem.length A2.mc,aj A2.ua g.up.length A2.uc,aj A2.la g.dS.length A2.lc] 28)=V3 at *;have aH3:=hxb.lt;clear hxb hP hl2 hf2 hlt2 hb2 hba c0 c1 c2 hC hB2 hB3;go_wp2_with fail
 go_loopw [10] (fun i wr=>∃ j:Nat,j<=8/\i=ah aA (j:Int)/\fH V3 wr w2.heap.size 0 (fK (qG j g)) fp) (fun i _=>8-(ba4 i).toNat)
 case atStart=>exact⟨0,aZ1 _,rfl,HP0.out⟩
 case round =>
  obtain⟨j,hj,rfl,hb⟩:=hrel;have G8:=dP hb;clear hb;by_cases hlt:j<8
  ·have k1:(j:Int)<8:=by omega
   obtain⟨ES,YO,_,QI⟩:=G8.out.next;have MV:=ax9 w2.heap.size (qG j g) n ES wr YO (HCk.out j) (HVc.out j hlt);have ak1:=dP QI;clear YO QI;go_wp2_with fail
   refine MV.mono ?_;rintro e w6 ⟨rfl,hb6⟩;have uJ:aG (fH V3 w6 w2.heap.size 0 (fK (qG (j+1) g)) fp):=ak1.out _ _ rfl hb6;clear hb6 MV;go_wp2;go_roundw
   case rel=>exact⟨j+1,by omega,by go_num,uJ.out⟩
   case measure=>simp[ba4];omega
  ·have k1:¬ ((j:Int)<8):=by omega
   have e:j=8:=by omega
   have hBc:fH V3 wr w2.heap.size 0 (fK (oV g)) fp:=by
    have:=G8.out;rw[e,<- PY] at this;exact this
   clear e;have hsw:=HB0.out.size;obtain⟨A3,⟨y0,y1,y2⟩,hz3,HN⟩:=BF (w:=w) (r:=w.heap.size+1) hBc (fun b hb=>by have:=HF2.out b hb;exact⟨by omega,by omega⟩) (by omega) (by omega) (by omega) (by have:=HZ3.out.lt;omega) YP.out HZ3.out
   obtain⟨z0,z1,z2⟩:=Bx.g3 hz3;obtain⟨f0,f1,f2⟩:=hz3.f3;have zZ:aG (∀ {a b c:aJ},kW w (((wr.setCell ⟨w.heap.size+1,0,ak⟩ a).setCell ⟨w.heap.size+1,1,ak⟩ b).setCell ⟨w.heap.size+1,2,ak⟩ c) (fK (oV g)) (jC A3 (oV g))):=HN wr (aZ5 _ _);generalize hpm:oV g=pm at *;have YQ:aG (oV g=pm):=hpm;clear hBc HN hz3 hpm;go_wp2;refine aY1 (v:=jc A3 pm) (by simp[results,Tryz.results10,go_sem,jc,jH, *]) rfl ?_
   rw[YQ.out];exact⟨_,rfl,zZ.out⟩
def Uh (r:Rw):Prop:=r.wed=aC/\r.dQ=[]
def Sy (r o:Rw):Prop:=r.ver<o.ver\/r=o
theorem Sy.trans {a b c: Rw} (h:Sy a b) (k:Sy b c):Sy a c:=by
 rcases h with h|h
 ·rcases k with k|k
  ·exact .inl (by omega)
  ·rw[<- k];exact .inl h
 ·rw[h];exact k
theorem Sy.refl (a:Rw):Sy a a:=.inr rfl
def iD (g:Gr) (i:Nat):Rw:=dO (dY g i).rows i
structure ND (n c:Nat) (g:Gr):Prop where
 G:yK n g
 up:∀ i,i<n->nM g i=aB
 dn:∀ i,i<n->(dY g i).done=aC
 rows:∀ i j,i<n->j<n->Uh (dO (dY g i).rows j)/\Sy (dO (dY g i).rows j) (iD g j)
 dS:∀ x∈g.dS,Uh x.row/\Sy x.row (iD g x.fr.toNat)
 ver:∀ i,i<n->(iD g i).ver<=(c:Int)
theorem ND.set {n c:Nat} {g:Gr} (D:ND n c g) {i:Nat} (hi:i<n) {m':Mb} (hG:yK n (g.set i m')) (hd:m'.done=aC) (hoth:∀ j,j≠i->dO m'.rows j=dO (dY g i).rows j) (hn:Uh (dO m'.rows i)) (hs:Sy (iD g i) (dO m'.rows i)) (hv:(dO m'.rows i).ver<=(c:Int)+1):ND n (c+1) (g.set i m'):=by
 have hil:i<g.mem.length:=by rw[D.G.qP.ml];exact hi
 have ho:∀ j,iD (g.set i m') j=if j=i then dO m'.rows i else iD g j:=fun j=>by
  unfold iD;rw[nX hil];by_cases e:j=i
  ·rw[if_pos e,if_pos e,e]
  ·rw[if_neg e,if_neg e]
 have hsy:∀ {r:Rw} {j:Nat},Sy r (iD g j)->Sy r (iD (g.set i m') j):=fun {r j} h=>by
  rw[ho]
  split
  ·rename_i e;rw[e] at h;exact h.trans hs
  ·exact h
 refine⟨hG,D.up,fun j hj=>?_,fun a j ha hj=>?_,fun x hx=>⟨(D.dS x hx).1,hsy (D.dS x hx).2⟩,fun j hj=>?_⟩
 ·rw[nX hil]
  split
  ·exact hd
  ·exact D.dn j hj
 ·rw[nX hil]
  by_cases e:a=i
  ·rw[if_pos e]
   by_cases e2:j=i
   ·rw[e2]
    refine⟨hn, ?_⟩;rw[ho,if_pos rfl];exact Sy.refl _
   ·rw[hoth j e2]
    exact⟨(D.rows i j hi hj).1,hsy (D.rows i j hi hj).2⟩
  ·rw[if_neg e]
   exact⟨(D.rows a j ha hj).1,hsy (D.rows a j ha hj).2⟩
 ·rw[ho]
  split
  ·push_cast;exact hv
  ·have:=D.ver j hj;push_cast;omega
theorem ND.more {c c': Nat} {g: Gr} (D:ND n c g) (h:c<=c'):ND n c' g:=⟨D.G,D.up,D.dn,D.rows,D.dS,fun i hi=>by have:=D.ver i hi;omega⟩
theorem ND.jZ {c: Nat} {g: Gr} (D:ND n c g) (hG:yK n g') (hm:g'.mem=g.mem) (hu:g'.up=g.up) (hx:∀ x∈g'.dS,x∈g.dS\/∃ a b:Nat,a<n/\x=⟨(a:Int),(b:Int),iD g a⟩):ND n c g':=by
 have e:∀ j,dY g' j=dY g j:=fun j=>by unfold dY;rw[hm]
 have eo:∀ j,iD g' j=iD g j:=fun j=>by unfold iD;rw[e]
 refine⟨hG,fun i hi=>by unfold nM;rw[hu];exact D.up i hi,fun i hi=>by rw[e];exact D.dn i hi,fun i j hi hj=>by rw[e,eo];exact D.rows i j hi hj,fun x hx'=>?_,fun i hi=>by rw[eo];exact D.ver i hi⟩
 rw[eo];rcases hx x hx' with h|⟨a,b,ha,rfl⟩
 ·exact D.dS x h
 ·simp only[dM]
  exact⟨(D.rows a a ha ha).1,Sy.refl _⟩
theorem Nr (g:Gr) (a b:Nat):(iT g (a:Int) (b:Int)).mem=g.mem/\(iT g (a:Int) (b:Int)).up=g.up/\(∀ x∈g.dS,x∈(iT g (a:Int) (b:Int)).dS)/\(iT g (a:Int) (b:Int)).dS.length<=g.dS.length+1 /\
  (∀ x∈(iT g (a:Int) (b:Int)).dS,x∈g.dS\/x=⟨(a:Int),(b:Int),iD g a⟩)/\(g.dS.length<200->⟨(a:Int),(b:Int),iD g a⟩∈(iT g (a:Int) (b:Int)).dS):=by
 unfold iT
 split
 ·simp only[dM]
  refine⟨trivial,trivial,fun x hx=>List.mem_append_left _ hx,by simp,fun x hx=>?_,fun _=>List.mem_append_right _ (dH.2 rfl)⟩
  rcases aW0.1 hx with h|h
  ·exact .inl h
  ·exact .inr (dH.1 h)
 ·rename_i h
  exact⟨rfl,rfl,fun x hx=>hx,by omega,fun x hx=>.inl hx,fun h2=>absurd h2 h⟩
theorem DV (a:Nat):∀ (L:List Nat) (g:Gr),(L.foldl (fun g (i:Nat)=>if (i:Int)=(a:Int) then g else iT g (a:Int) (i:Int)) g).mem=g.mem/\(L.foldl (fun g (i:Nat)=>if (i:Int)=(a:Int) then g else iT g (a:Int) (i:Int)) g).up=g.up /\
  (∀ x∈g.dS,x∈(L.foldl (fun g (i:Nat)=>if (i:Int)=(a:Int) then g else iT g (a:Int) (i:Int)) g).dS)/\(L.foldl (fun g (i:Nat)=>if (i:Int)=(a:Int) then g else iT g (a:Int) (i:Int)) g).dS.length<=g.dS.length+L.length /\
  (∀ x∈(L.foldl (fun g (i:Nat)=>if (i:Int)=(a:Int) then g else iT g (a:Int) (i:Int)) g).dS,x∈g.dS\/∃ b:Nat,x=⟨(a:Int),(b:Int),iD g a⟩) /\
  (g.dS.length+L.length<=200->∀ i∈L,i≠a->⟨(a:Int),(i:Int),iD g a⟩∈(L.foldl (fun g (i:Nat)=>if (i:Int)=(a:Int) then g else iT g (a:Int) (i:Int)) g).dS)
 | [],g=>⟨rfl,rfl,fun x hx=>hx,aZ0 _,fun x hx=>.inl hx,fun _ i hi=>by cases hi⟩
 | k::L,g=>by
  rw[List.foldl_cons];by_cases e:(k:Int)=a
  ·rw[if_pos e]
   obtain⟨h1,h2,h3,h4,h5,h6⟩:=DV a L g;refine⟨h1,h2,h3,by rw[aU6];omega,h5,fun hl i hi hne=>?_⟩
   rw[aU6] at hl;rcases aX5.1 hi with hi|hi
   ·exact absurd hi (by omega)
   ·exact h6 (by omega) i hi hne
  ·rw[if_neg e]
   obtain⟨p1,p2,p3,p4,p5,p6⟩:=Nr g a k;obtain⟨h1,h2,h3,h4,h5,h6⟩:=DV a L (iT g (a:Int) (k:Int));have eo:iD (iT g (a:Int) (k:Int)) a=iD g a:=by unfold iD dY;rw[p1]
   rw[eo] at h5 h6;refine⟨h1.trans p1,h2.trans p2,fun x hx=>h3 x (p3 x hx),by rw[aU6];omega,fun x hx=>?_,fun hl i hi hne=>?_⟩
   ·rcases h5 x hx with h|h
    ·rcases p5 x h with h|h
     ·exact .inl h
     ·exact .inr ⟨k,h⟩
    ·exact .inr h
   ·rw[aU6] at hl
    rcases aX5.1 hi with hi|hi
    ·rw[hi];exact h3 _ (p6 (by omega))
    ·exact h6 (by omega) i hi hne
theorem JQ {R:List Rw} {id:Nat}:∀ {L:List Nat} {o:Rw},(∀ k∈L,Uh (dO R k))->learn R id o L=o
 | [],o,_=>rfl
 | k::L,o,h=>by
  have e:kZ id o k (dO R k)=o:=by rw[kZ,if_pos (.inr (h k List.mem_cons_self))]
  show learn R id (kZ id o k (dO R k)) L=o
  rw[e];exact JQ (fun k hk=>h k (List.mem_cons_of_mem _ hk))
def yZ (R:List Rw) (o:Rw) (n:Nat):Rw:=if kH R o n=o.got then o else { o with got:=kH R o n,ver:=o.ver+1 }
theorem DW (R:List Rw) (o:Rw) (n:Nat):(yZ R o n).got=kH R o n/\(yZ R o n).txt=o.txt/\(yZ R o n).wed=o.wed/\(yZ R o n).dQ=o.dQ/\Sy o (yZ R o n)/\(yZ R o n).ver<=o.ver+1:=by
 unfold yZ
 split
 ·rename_i e;exact⟨e.symm,rfl,rfl,rfl,Sy.refl _,by omega⟩
 ·exact⟨rfl,rfl,rfl,rfl,.inl (by simp only;omega),by simp⟩
theorem Ui (M:iP m i n) (hd:m.done=aC) (hv:(dO m.rows i).ver≠1000000) (hr:∀ j,j<n->Uh (dO m.rows j)) :
  fB m={ m with rows:=m.rows.set i (yZ m.rows (dO m.rows i) n),dR:=kR (m.rows.set i { dO m.rows i with got:=kH m.rows (dO m.rows i) n }) n (60-m.dR.length) m.dR }:=by
 have hi:=M.i;have hk:=M.k;have hown:=M.own;have ok:=M.ok i M.lt;have hw:=(hr i M.lt).1;have hrd:=ok.RY hw
 have e1:fF m=dO m.rows i:=by
  rw[fF,hi,hk,hown];exact JQ (fun k hk=>hr k (jd.1 hk).1)
 have e2:gV m={ dO m.rows i with got:=kH m.rows (dO m.rows i) n }:=by rw[gV,e1,if_neg (by rw[hw];simp),hk]
 have w2:(gV m).wed=aC:=by rw[e2];exact hw
 have eS:iU m=kR (m.rows.set i { dO m.rows i with got:=kH m.rows (dO m.rows i) n }) n (60-m.dR.length) m.dR:=by rw[iU,e1,if_neg (by rw[hw];simp),e2,hi,hk]
 have e3:iG m=gV m:=by rw[iG,if_neg (by rw[w2];simp)]
 have e4:fD m=gV m:=by rw[fD,e3,if_neg (by rw[w2];simp)]
 have eE:jJ m=aC:=by
  have:(fD m).dV=aC:=by rw[e4,e2];exact hrd
  rw[jJ,this]
  rfl
 have e5:kG m=yZ m.rows (dO m.rows i) n:=by
  rw[kG,e4,hown,e2];unfold yZ;by_cases c:kH m.rows (dO m.rows i) n=(dO m.rows i).got
  ·rw[if_pos c,if_pos (by simp[lD,c]),c]
  ·rw[if_neg c,if_neg (by simp[lD];exact fun h=>c h.symm)]
 rw[fB,if_neg (by rw[hd,hown];simp[hv]),eE,e5,eS,hi,if_neg (by simp)]
 cases m
 simp only at hd
 rw[hd]
theorem ND.step {c: Nat} {g: Gr} (D:ND n c g) (hc:c<1000000) (hi:i<n):ND n (c+1) (g.set i (fB (dY g i))):=by
 obtain⟨h,log,G⟩:=D.G;have M:=(G.mem i hi).okM G.n5;have hil:i<(dY g i).rows.length:=by rw[M.len];exact hi
 have hv:(dO (dY g i).rows i).ver<=(c:Int):=D.ver i hi;have e:=Ui M (D.dn i hi) (by omega) (fun j hj=>(D.rows i j hi hj).1)
 obtain⟨x1,x2,x3,x4,x5,x6⟩:=DW (dY g i).rows (dO (dY g i).rows i) n;have er:dO (fB (dY g i)).rows i=yZ (dY g i).rows (dO (dY g i).rows i) n:=by rw[e];simp only[gB hil,if_pos]
 have hnd:=(D.rows i i hi hi).1;refine D.set hi (G.goes hi (EN G.S (G.mem i hi))) (by rw[e];exact D.dn i hi) (stepM M).oth ?_ ?_ ?_
 ·rw[er];exact⟨x3.trans hnd.1,x4.trans hnd.2⟩
 ·rw[er];exact x5
 ·rw[er];omega
theorem VA (m:Mb) (a:Nat) (r:Rw) (hl:a<m.rows.length) (j:Nat):dO (fG m (a:Int) r).1.rows j=dO m.rows j\/(j=a/\dO (fG m (a:Int) r).1.rows j=r):=by
 unfold fG
 split
 ·exact .inl rfl
 ·simp only[dM,gB hl]
  split
  ·rename_i e;exact .inr ⟨e,rfl⟩
  ·exact .inl rfl
theorem QJ {g: Gr} (G:OkG g n) (hi:i<g.dS.length):∃ a b:Nat,(eX g i).fr=(a:Int)/\(eX g i).to=(b:Int)/\a<n/\b<n/\a≠b/\iR (eX g i).row n/\eX g i∈g.dS/\∀ k,dY (jl g i) k=if k=b/\nM g b=aB then (fG (dY g b) (a:Int) (eX g i).row).1 else dY g k:=by
 have hx:eX g i∈g.dS:=by
  unfold eX;rw[aV,bC hi];exact List.getElem_mem hi
 obtain⟨a,b,h1,h2,h3,h4,h5,h7⟩:=G.jZ _ hx;refine⟨a,b,h1,h2,h3,h4,h5,h7,hx,fun k=>?_⟩
 unfold jl;rw[h2,h1];simp only[dM]
 by_cases c:nM g b=aB
 ·rw[if_pos c]
  have hbl:b<g.mem.length:=by rw[G.ml];exact h4
  have key:=nX (g:=g) (i:=b) (j:=k) (m:=(fG (dY g b) (a:Int) (eX g i).row).1) hbl;by_cases e:k=b
  ·rw[if_pos ⟨e,c⟩];rw[if_pos e] at key;exact key
  ·rw[if_neg (fun h=>e h.1)];rw[if_neg e] at key;exact key
 ·rw[if_neg c,if_neg (fun h=>c h.2)]
  rfl
theorem ND.land {n c:Nat} {g:Gr} (D:ND n c g) {i:Nat} (hi:i<g.dS.length):ND n c (jl g i)/\(∀ k,k<n->iD (jl g i) k=iD g k/\(dY (jl g i) k).dR=(dY g k).dR):=by
 have G:=D.G.qP;obtain⟨a,b,h1,h2,h3,h4,h5,h6,hx,key⟩:=QJ G hi;obtain⟨h,log,GI⟩:=D.G;have Lm:=G.land hi;have hb:=tJ (G.mem b h4) (a:Int) (eX g i).row;have hrl:a<(dY g b).rows.length:=by rw[(G.mem b h4).len];exact h3
 have ho:∀ k,iD (jl g i) k=iD g k:=fun k=>by
  unfold iD;rw[key]
  split
  ·rename_i e;rw[e.1];exact hb.2.2.2.1
  ·rfl
 refine⟨⟨⟨h,log,GI.land hi⟩,fun k hk=>by unfold nM;rw[Lm.2.1];exact D.up k hk,fun k hk=>?_,fun k j hk hj=>?_,fun x hx'=>?_,fun k hk=>by rw[ho];exact D.ver k hk⟩,fun k hk=>⟨ho k, ?_⟩⟩
 ·rw[key]
  split
  ·rw[hb.2.2.2.2.2];exact D.dn b h4
  ·exact D.dn k hk
 ·rw[ho,key]
  split
  ·rename_i e
   rcases VA (dY g b) a (eX g i).row hrl j with e2|⟨e2,e3⟩
   ·rw[e2];exact D.rows b j h4 hj
   ·rw[e3,e2]
    have:=D.dS _ hx;rw[h1] at this;exact this
  ·exact D.rows k j hk hj
 ·rw[Lm.2.2.1] at hx'
  rw[ho];rcases aW0.1 hx' with hx'|hx'
  ·exact D.dS x (List.mem_of_mem_take hx')
  ·exact D.dS x (List.mem_of_mem_drop hx')
 ·rw[key]
  split
  ·rename_i e;rw[e.1];exact hb.2.2.2.2.1
  ·rfl
theorem ND.act {c: Nat} {g: Gr} (D:ND n c g) (hc:c<1000000) (x:Ac) (h5:x.kind≠5) (h6:x.kind≠6):ND n (c+1) (iY g x).1:=by
 have G:=D.G.qP;have hA:=Ws D.G x;have hself:ND n (c+1) g:=D.more (by omega)
 revert hA
 unfold iY;intro hA;by_cases c3:x.kind=3
 ·rw[if_pos c3]
  by_cases c2:nN g x=aB
  ·rw[if_pos c2]
   cases e:g.dS.findIdx? (fun y=>decide (y.fr=x.a/\y.to=x.b)) with
   | none=>exact hself
   | some i=>exact (D.land (aQ.1 e).1).1.more (by omega)
  ·rw[if_neg c2];exact hself
 ·rw[if_neg c3] at hA ⊢
  by_cases c0:inB x.a 0 ((g.mem.length:Int)-1)=aC\/nM g x.a.toNat=aC
  ·rw[if_pos c0];exact hself
  ·rw[if_neg c0] at hA ⊢
   simp only[not_or] at c0;rw[G.ml] at c0;obtain⟨a,ea,ha⟩:=sD (by simpa using c0.1)
   have M:=G.mem a ha;have et:x.a.toNat=a:=by rw[ea];rfl
   rw[et] at hA ⊢;by_cases c1:x.kind=1
   ·rw[if_pos c1] at hA ⊢
    obtain⟨k1,k2,k3,k4,k5,k6,k7⟩:=Gf M x.txt;have hv:=D.ver a ha;have hnd:=(D.rows a a ha ha).1
    have key:Uh (dO (gX (dY g a) x.txt).1.rows a)/\Sy (iD g a) (dO (gX (dY g a) x.txt).1.rows a)/\(dO (gX (dY g a) x.txt).1.rows a).ver<=(c:Int)+1:=by
     have hal:a<(dY g a).rows.length:=by rw[M.len];exact ha
     unfold iD at hv ⊢;unfold gX
     split
     ·exact⟨hnd,Sy.refl _,by first|omega|(simp only;omega)⟩
     ·simp only[Mb.put,M.i,M.own,gB hal,if_pos]
      exact⟨hnd,.inl (by first|omega|(simp only;omega)),by first|omega|(simp only;omega)⟩
    exact D.set ha hA (by rw[k6];exact D.dn a ha) k7 key.1 key.2.1 key.2.2
   ·rw[if_neg c1] at hA ⊢
    by_cases c2:x.kind=2
    ·rw[if_pos c2] at hA ⊢
     by_cases c4:nN g x=aB
     ·rw[if_pos c4] at hA ⊢
      simp only[nN,aU2,decide_eq_true_eq] at c4;rw[G.ml] at c4;obtain⟨b,eb,hb⟩:=sD c4.2.1;rw[ea,eb] at hA ⊢;obtain⟨p1,p2,p3,p4,p5,p6⟩:=Nr g a b;exact (D.jZ hA p1 p2 (fun y hy=>(p5 y hy).imp id (fun e=>⟨a,b,ha,e⟩))).more (by omega)
     ·rw[if_neg c4];exact hself
    ·rw[if_neg c2] at hA ⊢
     by_cases c4:x.kind=4
     ·rw[if_pos c4];exact D.step hc ha
     ·rw[if_neg c4,if_neg h5,if_neg h6] at hA ⊢
      by_cases c7:x.kind=7
      ·rw[if_pos c7,ea] at hA ⊢
       obtain⟨p1,p2,p3,p4,p5,p6⟩:=DV a (aZ6 g.mem.length) g;exact (D.jZ (g':=kS g (a:Int)) hA p1 p2 (fun y hy=>(p5 y hy).imp id (fun ⟨b,e⟩=>⟨a,b,ha,e⟩))).more (by omega)
      ·rw[if_neg c7];exact hself
theorem ND.new (hn:1<=n/\n<=5):ND n 0 (jg (n:Int)).1:=by
 obtain⟨ok,e⟩:=Ic hn;have hb:inB (n:Int) 1 5=aB:=iQ.2 (by omega)
 have hmN:∀ i,i<n->dY (jg (n:Int)).1 i=⟨(i:Int),(n:Int),aW5 n (jV (n:Int)),[],aC⟩:=fun i hi=>by
  rw[jg,if_pos hb];unfold dY;simp only[dM]
  rw[aV,List.getElem?_map,List.getElem?_range hi];simp only[Option.map_some,Option.getD_some]
  rw[kN,if_pos ⟨hb,iQ.2 (by omega)⟩]
  simp
 have hrow:∀ j,j<n->dO (aW5 n (jV (n:Int))) j=jV (n:Int):=fun j hj=>by simp[dO,bH,hj]
 have ho:∀ j,j<n->iD (jg (n:Int)).1 j=jV (n:Int):=fun j hj=>by unfold iD;rw[hmN j hj];exact hrow j hj
 refine⟨Ie hn,fun i hi=>?_,fun i hi=>by rw[hmN i hi],fun i j hi hj=>?_, ?_,fun i hi=>by rw[ho i hi,e];simp⟩
 ·rw[jg,if_pos hb];simp[nM,bH,hi]
 ·rw[ho j hj,hmN i hi]
  simp only[hrow j hj]
  exact⟨by rw[e];exact⟨rfl,rfl⟩,Sy.refl _⟩
 ·rw[jg,if_pos hb];intro x hx;cases hx
theorem ay0 (M:iP m i n) (t:List UInt8):(dO (gX m t).1.rows i).ver<=(dO m.rows i).ver+1:=by
 have hi:i<m.rows.length:=by rw[M.len];exact M.lt
 unfold gX
 split
 ·simp only;omega
 ·simp only[Mb.put,M.i,M.own]
  rw[gB hi,if_pos rfl];simp only;omega
theorem YT (M:iP m i n) (x:Int):(dO (iJ m x).1.rows i).ver<=(dO m.rows i).ver+1:=by
 have hi:i<m.rows.length:=by rw[M.len];exact M.lt
 unfold iJ
 split
 ·simp only;omega
 ·simp only[Mb.put,M.i,M.own]
  rw[gB hi,if_pos rfl];simp only;omega
theorem QK (M:iP m i n):(dO (fB m).rows i).ver<=(dO m.rows i).ver+1:=by
 have hi:i<m.rows.length:=by rw[M.len];exact M.lt
 unfold fB
 split
 ·omega
 ·rename_i hn
  have S:=DJ M (by cases e:m.done with|false=>rfl|true=>exact absurd (.inl e) hn)
  have hv:=S.ver;simp only[M.i]
  rw[gB hi,if_pos rfl,S.e5]
  split
  ·omega
  ·simp only;omega
def lF (g:Gr) (n:Nat) (q:Int):Prop:=∀ k,k<n->(iD g k).ver<=q
theorem lF.mono {g: Gr} {p: Int} (h:lF g n p) (hq:p<=q):lF g n q:=fun k hk=>Int.le_trans (h k hk) hq
theorem lF.set {g: Gr} (G:OkG g n) (h:lF g n q) (hi:i<n) {m': Mb} (hm:(dO m'.rows i).ver<=(iD g i).ver+1):lF (g.set i m') n (q+1):=fun k hk=>by
 have hil:i<g.mem.length:=by rw[G.ml];exact hi
 unfold iD;rw[nX hil]
 split
 ·rename_i e
  subst e;have:=h k hk;omega
 ·have:=h k hk
  unfold iD at this;omega
theorem lF.Dh {g: Gr} (h:lF g n q) (e:g'.mem=g.mem):lF g' n q:=fun k hk=>by
 have:=h k hk;unfold iD dY at this ⊢;rw[e];exact this
theorem lF.land {g:Gr} {n:Nat} {q:Int} (G:OkG g n) (h:lF g n q) {i:Nat} (hi:i<g.dS.length):lF (jl g i) n q:=fun k hk=>by
 have h0:=h k hk;unfold iD at h0 ⊢;rcases (G.land hi).2.2.2 k hk with e|⟨r,a,_,e⟩
 ·rw[e];exact h0
 ·rw[e]
  obtain⟨h1,h2,h3,h4,h5,h6⟩:=tJ (G.mem k hk) (a:Int) r;rw[h4];exact h0
theorem lF.act {g: Gr} (G:OkG g n) (h:lF g n q) (x:Ac):lF (iY g x).1 n (q+1):=by
 have hs:lF g n (q+1):=h.mono (by omega)
 have ZF:nN g x=aB->∃ a b:Nat,x.a=(a:Int)/\x.b=(b:Int)/\a<n/\b<n/\a≠b:=fun ht=>by
  simp only[nN,aU2,decide_eq_true_eq] at ht;rw[G.ml] at ht;obtain⟨a,e1,h1⟩:=sD ht.1;obtain⟨b,e2,h2⟩:=sD ht.2.1;exact⟨a,b,e1,e2,h1,h2,fun e=>ht.2.2 (by rw[e1,e2,e])⟩
 unfold iY;by_cases c3:x.kind=3
 ·rw[if_pos c3]
  by_cases c2:nN g x=aB
  ·rw[if_pos c2]
   cases e:g.dS.findIdx? (fun y=>decide (y.fr=x.a/\y.to=x.b)) with
   | none=>exact hs
   | some i=>exact (lF.land G h (aQ.1 e).1).mono (by omega)
  ·rw[if_neg c2];exact hs
 ·rw[if_neg c3]
  by_cases c0:inB x.a 0 ((g.mem.length:Int)-1)=aC\/nM g x.a.toNat=aC
  ·rw[if_pos c0];exact hs
  ·rw[if_neg c0]
   simp only[not_or] at c0;rw[G.ml] at c0;obtain⟨a,ea,ha⟩:=sD (by simpa using c0.1)
   have M:=G.mem a ha;have et:x.a.toNat=a:=by rw[ea];rfl
   rw[et];by_cases c1:x.kind=1
   ·rw[if_pos c1];exact lF.set G h ha (ay0 M x.txt)
   ·rw[if_neg c1]
    by_cases c2:x.kind=2
    ·rw[if_pos c2]
     by_cases c4:nN g x=aB
     ·rw[if_pos c4]
      obtain⟨a',b,e1,e2,h1,h2,h3⟩:=ZF c4;rw[e1,e2];exact hs.Dh (G.push h1 h2 h3).2.1
     ·rw[if_neg c4];exact hs
    ·rw[if_neg c2]
     by_cases c4:x.kind=4
     ·rw[if_pos c4];exact lF.set G h ha (QK M)
     ·rw[if_neg c4]
      by_cases c5:x.kind=5
      ·rw[if_pos c5]
       by_cases c6:nN g x=aB
       ·rw[if_pos c6];exact lF.set G h ha (YT M x.b)
       ·rw[if_neg c6];exact hs
      ·rw[if_neg c5]
       by_cases c6:x.kind=6
       ·rw[if_pos c6];exact hs.Dh rfl
       ·rw[if_neg c6]
        by_cases c7:x.kind=7
        ·rw[if_pos c7,ea]
         exact hs.Dh (OkG.all ha (aZ6 g.mem.length) G (fun y hy=>by rw[G.ml] at hy;exact aX1.1 hy)).2.1
        ·rw[if_neg c7];exact hs
theorem Ns {n:Nat} {q:Int}:∀ (f:Nat) {g:Gr},OkG g n->lF g n q->lF (drain f g) n q
 | 0,g,G,h=>h
 | f+1,g,G,h=>by
  rw[drain]
  split
  ·rename_i hl
   exact Ns f (G.land hl).1 (lF.land G h hl)
  ·exact h
theorem lF.rows {g:Gr} {n:Nat} {q:Int} (G:OkG g n) (h:lF g n q):∀ k,k<=n->lF (kF g k) n (q+(k:Int))
 | 0,_=>by simpa[kF] using h
 | k+1,hk=>by
  have ih:=lF.rows G h k (by omega)
  have Gk:=vI G k (by omega)
  rw[zK,jP]
  split
  ·have h1:=lF.set Gk ih (i:=k) (by omega) (QK (Gk.mem k (by omega)))
   have G1:=(Gk.row (k:=k) (by omega)).1
   have e:(kS ((kF g k).set k (fB (dY (kF g k) k))) (k:Int)).mem=((kF g k).set k (fB (dY (kF g k) k))).mem:=by
    unfold kS;exact (OkG.all (a:=k) (by omega) _ G1 (fun x hx=>by have:=aX1.1 hx;rw[G1.ml] at this;exact this)).2.1
   exact (h1.Dh e).mono (by push_cast;omega)
  ·exact ih.mono (by push_cast;omega)
theorem Nu {g:Gr} {n:Nat} {q:Int} (G:OkG g n) (h:lF g n q):∀ j:Nat,lF (qG j g) n (q+5*(j:Int))
 | 0=>by simpa[qG] using h
 | j+1=>by
  have ih:=Nu G h j;have Gj:=xU G j;have hn:=G.n5;rw[qG,DK Gj];exact ((Ns _ (vI Gj n (aZ0 _)) (lF.rows Gj ih n (aZ0 _)))).mono (by push_cast;omega)
theorem Uj {g: Gr} (G:OkG g n) (h:lF g n q) (hq:q+45<1000000):Vz g n:=fun j hj k hk=>by
 have Gj:=xU G j;have h1:=lF.rows Gj (Nu G h j) k (by omega) k hk
 have hn:=G.n5;have M:=(vI Gj k (by omega)).mem k hk
 rw[M.own];unfold iD at h1;omega
theorem ay1 {g: Gr} (G:OkG g n) (h:lF g n q) (hq:q<1000000) (x:Ac):Vx g x:=fun _=>by
 rcases aY6 x.a.toNat n with hk|hk
 ·have:=h _ hk
  rw[(G.mem _ hk).own];unfold iD at this;omega
 ·have e:dY g x.a.toNat=kY:=by
   unfold dY;rw[aV,List.getElem?_eq_none (by rw[G.ml];exact hk)]
   rfl
  rw[e];simp[Mb.own,kY,dO,nJ]
theorem ND.owV {c: Nat} {g: Gr} (D:ND n c g):lF g n (c:Int):=D.ver
theorem YU (hn:1<=n/\n<=5):lF (jg (n:Int)).1 n 0:=(ND.new hn).owV
end Go.Proofs.YtafimeakbdmkjaaGreat