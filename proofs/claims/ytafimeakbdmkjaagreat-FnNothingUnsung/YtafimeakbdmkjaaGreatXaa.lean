/-
  Texts in one.
-/
import Derived.Test.YtafimeakbdmkjaaGreatRows
import Derived.WalkKit
import Derived.ProofKit
import Derived.Below
import Derived.Lib.MinMax
import Derived.Deep.QuietTactic
import Derived.BigQuiet
import Derived.WalkLawsBesides
import Derived.Deep.OwnRows
import Derived.OpenShut
import Derived.Deep.AppendLies
import Derived.Deep.RegionHeld3
import Derived.Deep.DrawnRows
import Derived.ArgAppend
import Derived.Laws.IdiomCopy
import Derived.Shelf.SlSortCmp.QuietGrown
namespace Go.Proofs.YtafimeakbdmkjaaGreat
open Bool renaming and_eq_true->bI,false->aC,true->aB
open Go renaming Addr->dH,Calls->dF,Value->aJ,World->aI,maxLen->dD
open Go.Builtin renaming append_->bU
open Go.Ending renaming returned->aK
open Go.IntKind renaming i64->aA
open Go.Obj renaming cells->aH
open Go.Proofs.Tryz renaming prog->dA,underlying41->bG
open Go.RowKit renaming Hid->aG,intOf->dG
open Go.RowKit.Below renaming refl->dw
open Go.Value renaming bool->aF,int->ah,int->dB,pointer->aO,slice->aj
open Go.World renaming block_lt_of_cell?->aX,cell?_of_block->bf
open List renaming all_eq_true->bJ,getElem?_append_left->aU,getElem?_append_right->aT,getElem?_eq_getElem->aV,getElem?_eq_none->aZ,length_append->bD,length_set->bQ,mem_cons->bW,take_of_length_le->aY,take_succ_eq_append_getElem->aQ
open Nat renaming le_refl->cO,le_trans->bZ,lt_succ_iff_lt_or_eq->aW,zero_le->cZ
open Option renaming none->ak,some->au
set_option linter.unusedVariables false
set_option linter.unusedSimpArgs false
open Go.RowKit Go.Sort
set_option maxRecDepth 100000
set_option maxHeartbeats 12800000
variable {w' w1 w2:aI} {u v:aJ} {B b base g i k n off p s:Nat} {a:Option dH} {ys zs:List Int} {r row:Option Nat} {T:TypeId} {cs:Array aJ}
theorem dP {p: Prop} (h:p):Go.RowKit.Hid p:=h
theorem fV {P: Program} {f: FuncId} {x: Array aJ} {w: aI} {E: Ending} {Q: Ending->aI->Prop} (h:dF P f x w fun e w'=>e=E/\w'=w) (k:Q E w):dF P f x w Q:=h.mono (by rintro e w' ⟨rfl, rfl⟩; exact k)
theorem gy {w: aI} {a: dH} (h:Go.RowKit.Below w.heap.size w w') (k:w.cell? a=au v):w'.cell? a=au v:=(h.cell (aX _ _ k)).trans k
theorem eU {v w: aI} (h:Go.RowKit.Below v.heap.size v w) (k:Go.RowKit.Below w.heap.size w w'):Go.RowKit.Below v.heap.size v w':=h.trans (k.mono h.size)
section
open Go.RowKit
def el (xs:List Int) (i:Nat):Int:=xs.getD i 0
def Vec (w:aI) (a:Option dH) (len:Nat) (xs:List Int):Prop :=
 xs.length=len/\(∀ x∈xs,-9223372036854775808<=x/\x<=9223372036854775807) /\
  (len=0\/∃ b off,a=au ⟨b,off,ak⟩/\∀ i,i<len->w.cell? ⟨b,off+i,ak⟩=au (ah aA (el xs i)))
theorem dZ {a b: Bool} (h:a=b):Ending.returned (aF a)=aK (aF b):=by rw[h]
theorem mJ {k: IntKind} {a b: Int} (h:a=b):Ending.returned (.int k a)=aK (.int k b):=by rw[h]
def inB (x lo hi:Int):Bool:=decide (lo<=x)&&decide (x<=hi)
def okB (xs:List Int):Bool:=decide (1<=xs.length)&&decide (xs.length<=8)&&xs.all (fun x=>inB x 0 1000000)
def zC (x:Int) (xs:List Int):Int:=xs.foldl min x
def hiL (x:Int) (xs:List Int):Int:=xs.foldl max x
theorem qX {xs: List Int} (h:i<xs.length):el xs i=xs[i]:=by simp[el,h]
theorem kK {xs: List Int} (h:i<xs.length):el xs i∈xs:=by
 rw[qX h];exact List.getElem_mem h
theorem take_snoc {xs: List Int} (h:k<xs.length):xs.take (k+1)=xs.take k++[el xs k]:=by
 rw[aQ h,qX h]
theorem YE (x:Int) (xs:List Int) (y:Int):zC x (xs++[y])=min (zC x xs) y:=by simp[zC]
theorem Nq (x:Int) (xs:List Int) (y:Int):hiL x (xs++[y])=max (hiL x xs) y:=by simp[hiL]
theorem uY {xs: List Int} (h:xs.length<1\/8<xs.length):okB xs=aC:=by
 unfold okB;rcases h with h|h<;>simp<;>omega
theorem Nr {xs: List Int} (hk:k<xs.length) (h:inB (el xs k) 0 1000000=aC):okB xs=aC:=by
 unfold okB
 have:(xs.all fun x=>inB x 0 1000000)=aC:=by
  rw[List.all_eq_false];exact⟨_,kK hk,by simp[h]⟩
 simp[this]
theorem Bq {xs: List Int} (h1:1<=xs.length) (h8:xs.length<=8) (h:∀ j,j<xs.length->inB (el xs j) 0 1000000=aB):okB xs=aB:=by
 unfold okB
 have:(xs.all fun x=>inB x 0 1000000)=aB:=by
  rw[bJ];intro x hx;obtain⟨i,hi,rfl⟩:=List.getElem_of_mem hx;have:=h i hi
  rwa [qX hi] at this
 simp[this,h1,h8]
theorem gI (x lo hi:Int) (w:aI) :
  dF dA 40 #[ah aA x,ah aA lo,ah aA hi] w fun e w'=>e=aK (aF (inB x lo hi))/\w'=w:=by
 unfold inB;by_cases h:lo<=x
 ·go_enter Tryz.func40,Tryz.ntmps40
  go_wp2;go_ret
  exact⟨dZ (by simp[h]),rfl⟩
 ·have h':decide (lo<=x)=aC:=by simpa using h
  go_enter Tryz.func40,Tryz.ntmps40
  go_wp2;go_ret
  exact⟨dZ (by simp),rfl⟩
end
section
open Go.RowKit
theorem qY (a:Option dH) (len cap:Nat) (xs:List Int) (w:aI) (hv:Vec w a len xs) (hm:len<=dD) :
  dF dA 84 #[aj a len cap] w fun e w'=>e=aK (aF (okB xs))/\w'=w:=by
 unfold dD at hm;obtain⟨hlen,hb,hcs⟩:=hv;by_cases h1:(len:Int)<1
 ·go_enter Tryz.func84,Tryz.ntmps84
  go_wp2;go_ret
  exact⟨dZ (by rw[uY (by omega)]),rfl⟩
 ·have h1':decide ((len:Int)<1)=aC:=by simpa using h1
  by_cases h8:(8:Int)<len
  ·go_enter Tryz.func84,Tryz.ntmps84
   go_wp2;go_ret
   exact⟨dZ (by rw[uY (by omega)]),rfl⟩
  ·have h8':decide ((8:Int)<len)=aC:=by simpa using h8
   rcases hcs with h0|⟨b,off,rfl,hc⟩
   ·omega
   ·have HL:aG (xs.length=len):=hlen
    clear hlen;go_enter Tryz.func84,Tryz.ntmps84
    go_wp2
    go_loop [3] (fun i=>∃ k:Nat,k<=len/\i=ah aA k/\∀ j,j<k->inB (el xs j) 0 1000000=aB) (fun i=>len-(dG i).toNat)
    case atStart=>exact⟨0,cZ _,rfl,fun j hj=>by omega⟩
    case round =>
     obtain⟨k,hk,rfl,hall⟩:=hrel;have HA:=dP hall;clear hall;by_cases hlt:k<len
     ·have hck:=hc k hlt
      cases hin:inB (el xs k) 0 1000000
      ·go_wp2_with (go_at_call 40;refine (gI _ _ _ _).mono ?_;rintro e w' ⟨rfl,rfl⟩)
       go_ret
       exact⟨dZ (by rw[Nr (by rw[HL.out];exact hlt) hin]),rfl⟩
      ·go_wp2_with (go_at_call 40;refine (gI _ _ _ _).mono ?_;rintro e w' ⟨rfl,rfl⟩)
       go_round
       case rel => exact ⟨k + 1,by omega,by go_num,fun j hj => by
        rcases aW.1 hj with h|h
        ·exact HA.out j h
        ·rw[h];exact hin⟩
       case measure=>simp[dG];omega
     ·go_wp2
      go_ret
      exact⟨dZ (by rw[Bq (by rw[HL.out];omega) (by rw[HL.out];omega) (fun j hj=>HA.out j (by rw[HL.out] at hj;omega))]),rfl⟩
theorem Kz (x : Int) (a : Option dH) (len cap : Nat) (xs : List Int) (w : aI) (hv : Vec w a len xs) (hm : len <= dD) :
    dF dA 180 #[ah aA x, aj a len cap] w fun e w'=>e=aK (ah aA (zC x xs))/\w'=w:=by
  unfold dD at hm;obtain⟨hlen, hb, hcs⟩:=hv;have HL:=dP hlen;clear hlen hb;rcases hcs with h0|⟨b, off, rfl, hc⟩
  all_goals
    go_enter Tryz.func180, Tryz.ntmps180
    go_wp2
    go_loop [5, 7, 11] (fun m n i=>∃ k:Nat, k<=len/\i=ah aA k/\m=ah aA (zC x (xs.take k))) (fun _ _ i=>len-(dG i).toNat)
    case atStart=>exact⟨0, cZ _, rfl, rfl⟩
    case round =>
      obtain⟨k, hk, rfl, rfl⟩:=hrel;by_cases hlt:k<len
      · first
          | omega
          | (have hck := hc k hlt
             have HS:aG (zC x (xs.take (k+1))=min (zC x (xs.take k)) (el xs k)):=by
               rw[aG, take_snoc (by rw[HL.out]; exact hlt), YE]
             go_wp2
             go_round
             case rel=>exact⟨k+1, by omega, by go_num, by rw[HS.out]⟩
             case measure=>simp[dG]; omega)
      · go_wp2
        go_ret
        exact⟨mJ (by rw[aY (by rw[HL.out]; omega)]), rfl⟩
theorem Ns (x : Int) (a : Option dH) (len cap : Nat) (xs : List Int) (w : aI) (hv : Vec w a len xs) (hm : len <= dD) :
    dF dA 164 #[ah aA x, aj a len cap] w fun e w'=>e=aK (ah aA (hiL x xs))/\w'=w:=by
  unfold dD at hm;obtain⟨hlen, hb, hcs⟩:=hv;have HL:=dP hlen;clear hlen hb;rcases hcs with h0|⟨b, off, rfl, hc⟩
  all_goals
    go_enter Tryz.func164, Tryz.ntmps164
    go_wp2
    go_loop [5, 7, 11] (fun m n i=>∃ k:Nat, k<=len/\i=ah aA k/\m=ah aA (hiL x (xs.take k))) (fun _ _ i=>len-(dG i).toNat)
    case atStart=>exact⟨0, cZ _, rfl, rfl⟩
    case round =>
      obtain⟨k, hk, rfl, rfl⟩:=hrel;by_cases hlt:k<len
      · first
          | omega
          | (have hck := hc k hlt
             have HS:aG (hiL x (xs.take (k+1))=max (hiL x (xs.take k)) (el xs k)):=by
               rw[aG, take_snoc (by rw[HL.out]; exact hlt), Nq]
             go_wp2
             go_round
             case rel=>exact⟨k+1, by omega, by go_num, by rw[HS.out]⟩
             case measure=>simp[dG]; omega)
      · go_wp2
        go_ret
        exact⟨mJ (by rw[aY (by rw[HL.out]; omega)]), rfl⟩
theorem Vec.tail {w:aI} {b off len cap:Nat} {xs:List Int} (hlen:xs.length=len) (hb:∀ x∈xs,-9223372036854775808<=x/\x<=9223372036854775807)
  (hc:∀ i,i<len->w.cell? ⟨b,off+i,ak⟩=au (ah aA (el xs i))) (hcap:len<=cap) (n:Nat) :
  Vec (w.drewN n) (if cap=1 then au ⟨b,off,ak⟩ else au ⟨b,off+1,ak⟩) (len-1) xs.tail:=by
 refine⟨by simp[hlen],fun x hx=>hb x (List.mem_of_mem_tail hx), ?_⟩
 by_cases h:cap=1
 ·left;omega
 ·right
  refine⟨b,off+1,by simp[h],fun i hi=>?_⟩
  have:=hc (i+1) (by omega)
  rw[show off+(i+1)=off+1+i from by omega] at this
  simp only[World.cell?_drewN]
  rw[this];simp[el]
theorem Ih (b off len cap:Nat) (xs:List Int) (w:aI) (hlen:xs.length=len) (hb:∀ x∈xs,-9223372036854775808<=x/\x<=9223372036854775807)
  (hc:∀ i,i<len->w.cell? ⟨b,off+i,ak⟩=au (ah aA (el xs i))) (h1:1<=len) (hcap:len<=cap) (hm:cap<=dD) :
  dF dA 163 #[aj (au ⟨b,off,ak⟩) len cap] w fun e w'=>e=aK (ah aA (zC (el xs 0) xs.tail))/\∃ n,w'=w.drewN n:=by
 have hT:=Vec.tail hlen hb hc hcap;unfold dD at hm;have hc0:=hc 0 (by omega)
 simp only[Nat.add_zero] at hc0;have hp:(0:Int)<len:=by omega
 have hp1:(1:Int)<=len:=by omega
 have hp2:(len:Int)<=cap:=by omega
 go_enter Tryz.func163,Tryz.ntmps163
 go_wp2_with fail
 go_quiet ((go_at_call 180;exact (Kz _ _ _ _ _ _ (hT _) (by unfold dD;omega)).mono (fun e w' h=>⟨h.1,_,h.2⟩)))
 go_wp2
 all_goals
  go_ret
  exact⟨rfl,_,rfl⟩
theorem rJ (b off len cap:Nat) (xs:List Int) (w:aI) (hlen:xs.length=len) (hb:∀ x∈xs,-9223372036854775808<=x/\x<=9223372036854775807)
  (hc:∀ i,i<len->w.cell? ⟨b,off+i,ak⟩=au (ah aA (el xs i))) (h1:1<=len) (hcap:len<=cap) (hm:cap<=dD) :
  dF dA 131 #[aj (au ⟨b,off,ak⟩) len cap] w fun e w'=>e=aK (ah aA (hiL (el xs 0) xs.tail))/\∃ n,w'=w.drewN n:=by
 have hT:=Vec.tail hlen hb hc hcap;unfold dD at hm;have hc0:=hc 0 (by omega)
 simp only[Nat.add_zero] at hc0;have hp:(0:Int)<len:=by omega
 have hp1:(1:Int)<=len:=by omega
 have hp2:(len:Int)<=cap:=by omega
 go_enter Tryz.func131,Tryz.ntmps131
 go_wp2_with fail
 go_quiet ((go_at_call 164;exact (Ns _ _ _ _ _ _ (hT _) (by unfold dD;omega)).mono (fun e w' h=>⟨h.1,_,h.2⟩)))
 go_wp2
 all_goals
  go_ret
  exact⟨rfl,_,rfl⟩
theorem YF {xs: List Int} (h1:1<=xs.length) (h8:xs.length<=8) :
  okB xs=(decide (0<=zC (el xs 0) xs.tail)&&decide (hiL (el xs 0) xs.tail<=1000000)):=by
 have lo:∀ (l:List Int) (x m:Int),m<=zC x l↔m<=x/\∀ y∈l,m<=y:=by
  intro l;induction l with
  | nil=>intro x m;simp[zC]
  | cons y l ih=>intro x m;have:=ih (min x y) m;unfold zC at this ⊢;simp only[List.foldl_cons,bW,forall_eq_or_imp];rw[this,Int.le_min];exact⟨fun h=>⟨h.1.1,h.1.2,h.2⟩,fun h=>⟨⟨h.1,h.2.1⟩,h.2.2⟩⟩
 have hi:∀ (l:List Int) (x m:Int),hiL x l<=m↔x<=m/\∀ y∈l,y<=m:=by
  intro l;induction l with
  | nil=>intro x m;simp[hiL]
  | cons y l ih=>intro x m;have:=ih (max x y) m;unfold hiL at this ⊢;simp only[List.foldl_cons,bW,forall_eq_or_imp];rw[this,Int.max_le];exact⟨fun h=>⟨h.1.1,h.1.2,h.2⟩,fun h=>⟨⟨h.1,h.2.1⟩,h.2.2⟩⟩
 match xs,h1,h8 with
 | x::l,h1,h8 =>
  rw[Bool.eq_iff_iff];simp only[bI,decide_eq_true_eq,List.tail_cons,lo,hi]
  unfold okB inB;simp only[bI,decide_eq_true_eq,List.all_cons,bJ]
  have e:el (x::l) 0=x:=rfl;rw[e]
  constructor
  ·rintro⟨_,⟨a,b⟩,c⟩;exact⟨⟨a,fun y hy=>(c y hy).1⟩,b,fun y hy=>(c y hy).2⟩
  ·rintro⟨⟨a,c⟩,b,d⟩;exact⟨⟨h1,h8⟩,⟨a,b⟩,fun y hy=>⟨c y hy,d y hy⟩⟩
theorem xw (a:Option dH) (len cap:Nat) (xs:List Int) (w:aI) (hv:Vec w a len xs) (hcap:len<=cap) (hm:cap<=dD) :
  dF dA 130 #[aj a len cap] w fun e w'=>e=aK (aF (okB xs))/\∃ n,w'=w.drewN n:=by
 obtain⟨hlen,hb,hcs⟩:=hv;by_cases h1:(len:Int)<1
 ·go_enter Tryz.func130,Tryz.ntmps130
  go_wp2;go_ret
  exact⟨dZ (by rw[uY (by omega)]),0,rfl⟩
 ·have h1':decide ((len:Int)<1)=aC:=by simpa using h1
  by_cases h8:(8:Int)<len
  ·go_enter Tryz.func130,Tryz.ntmps130
   go_wp2;go_ret
   exact⟨dZ (by rw[uY (by omega)]),0,rfl⟩
  ·have h8':decide ((8:Int)<len)=aC:=by simpa using h8
   rcases hcs with h0|⟨b,off,rfl,hc⟩
   ·omega
   ·have HE:aG (okB xs=(decide (0<=zC (el xs 0) xs.tail)&&decide (hiL (el xs 0) xs.tail<=1000000))):=YF (by omega) (by omega)
    have HL:=dP hlen;clear hlen;by_cases hl:0<=zC (el xs 0) xs.tail
    ·go_enter Tryz.func130,Tryz.ntmps130
     go_wp2_with (first|(go_at_call 163;refine (Ih b off len cap xs _ HL.out hb (by exact hc) (by omega) hcap hm).mono ?_;rintro e w' ⟨rfl,n1,rfl⟩)|(go_at_call 131;refine (rJ b off len cap xs _ HL.out hb (by exact hc) (by omega) hcap hm).mono ?_;rintro e w' ⟨rfl,n2,rfl⟩))
     go_ret
     exact⟨dZ (by rw[HE.out];simp[hl]),_,rfl⟩
    ·have hl':decide (0<=zC (el xs 0) xs.tail)=aC:=by simpa using hl
     go_enter Tryz.func130,Tryz.ntmps130
     go_wp2_with (first|(go_at_call 163;refine (Ih b off len cap xs _ HL.out hb (by exact hc) (by omega) hcap hm).mono ?_;rintro e w' ⟨rfl,n1,rfl⟩)|(go_at_call 131;refine (rJ b off len cap xs _ HL.out hb (by exact hc) (by omega) hcap hm).mono ?_;rintro e w' ⟨rfl,n2,rfl⟩))
     go_ret
     exact⟨dZ (by rw[HE.out];simp[hl']),_,rfl⟩
theorem Uc (a:Option dH) (len cap:Nat) (xs:List Int) (w:aI) (hv:Vec w a len xs) (hcap:len<=cap) (hm:cap<=dD) :
  dF dA 132 #[aj a len cap] w fun e w'=>e=aK (aF (okB xs))/\∃ n,w'=w.drewN n:=by
 go_enter Tryz.func132,Tryz.ntmps132
 go_wp2_with (go_at_call 130;refine (xw a len cap xs _ hv hcap hm).mono ?_;rintro e w' ⟨rfl,n,rfl⟩)
 go_ret
 exact⟨rfl,_,rfl⟩
end
section
open Go.RowKit
theorem Tryz.info2:(Tryz.prog.info? 2).map (fun i=>(i.zero,i.size,i.bytes))=au (au (ah aA 0),1,8):=by kernel_rfl
def RowOf (w:aI) (b:Nat) (xs:List Int):Prop:=w.rowIs b 2 xs.length (fun i=>ah aA (el xs i))
def Fits (xs:List Int):Prop:=∀ x∈xs,-9223372036854775808<=x/\x<=9223372036854775807
theorem Vec.below {w: aI} {len: Nat} {xs: List Int} (h:Vec w a len xs) (hb:Below B w w') (hB:w.heap.size<=B):Vec w' a len xs:=by
 obtain⟨h1,h2,h3⟩:=h;refine⟨h1,h2, ?_⟩;rcases h3 with h0|⟨b,off,rfl,hc⟩
 ·exact .inl h0
 ·refine .inr ⟨b,off,rfl,fun i hi=>?_⟩
  have hlt:=aX _ _ (hc i hi);rw[hb.cell (p:=⟨b,off+i,ak⟩) (Nat.lt_of_lt_of_le hlt hB)];exact hc i hi
theorem Vec.drewN {w: aI} {len: Nat} {xs: List Int} (h:Vec w a len xs) (n:Nat):Vec (w.drewN n) a len xs:=h
def part (xs:List Int) (k:Nat):Nat->aJ:=fun j=>if j<k then ah aA (el xs j) else ah aA 0
theorem Ud {w: aI} {xs: List Int}:(w.alloc (aH (madeCells #[ah aA 0] xs.length) 2)).rowIs w.heap.size 2 xs.length (part xs 0) :=
 (World.rowIs_made w (ah aA 0) xs.length 2).congr (fun j _=>by simp[part])
theorem Vk {w: aI} {xs: List Int} (h:w.rowIs b 2 xs.length (part xs k)):(w.setCell ⟨b,k,ak⟩ (ah aA (el xs k))).rowIs b 2 xs.length (part xs (k+1)):=by
 refine (h.set k _).congr (fun j _=>?_)
 simp only[part]
 by_cases e:j=k
 ·subst e;simp
 ·rw[if_neg e]
  by_cases hlt:j<k
  ·rw[if_pos hlt,if_pos (by omega)]
  ·rw[if_neg hlt,if_neg (by omega)]
theorem Vl {w: aI} {xs: List Int} (h:w.rowIs b 2 xs.length (part xs k)) (hk:xs.length<=k):RowOf w b xs :=
 World.rowIs.congr h (fun j hj=>by simp only[part];rw[if_pos (by omega)])
def Ue (k:IntKind) (w:aI) (a:Option dH) (len cap:Nat) (zs:List Int):Prop :=
 (a=ak/\len=0/\cap=0/\zs=[]) \/
 ∃ x,a=au x/\len<=cap/\cap<=dD/\zs.length=cap/\(∀ i,i<zs.length->w.cell? (x.add i)=au (.int k (zs.getD i 0)))/\∀ n∈zs,(Lit.int k n).wf=aB
theorem Ed {xs: List Int} (h:xs.length=ys.length) (he:∀ j,j<xs.length->el xs j=el ys j):xs=ys:=by
 refine List.ext_getElem h (fun i h1 h2=>?_)
 have:=he i h1
 rwa [qX h1,qX h2] at this
end
section
open Go.RowKit
theorem fO {a w: aI} (h:Below B a w):Below B a (w.drewN n):=⟨h.os,h.tape,h.output,h.size,h.block⟩
end
section
open Go.RowKit
def vH (xs ys:List Int):Bool:=okB xs&&okB ys&&decide (xs.length=ys.length)
theorem mM {xs: List Int} (h:okB xs=aB):1<=xs.length/\xs.length<=8:=by
 unfold okB at h;simp only[bI,decide_eq_true_eq] at h;exact h.1
theorem Aw {xs: List Int} (h:vH xs ys=aB):okB xs=aB/\okB ys=aB/\xs.length=ys.length:=by
 unfold vH at h;simp only[bI,decide_eq_true_eq] at h;exact⟨h.1.1,h.1.2,h.2⟩
theorem Vec.cells {w: aI} {len: Nat} {xs: List Int} (h:Vec w a len xs) (h1:1<=len) :
  ∃ b off,a=au ⟨b,off,ak⟩/\∀ i,i<len->w.cell? ⟨b,off+i,ak⟩=au (ah aA (el xs i)):=by
 obtain⟨_,_,h0|h⟩:=h
 ·omega
 ·exact h
theorem KA (a a':Option dH) (len cap len' cap':Nat) (xs ys:List Int) (w:aI) (hv:Vec w a len xs) (hv':Vec w a' len' ys) (hm:len<=dD) (hm':len'<=dD) :
  dF dA 179 #[aj a len cap,aj a' len' cap'] w fun e w'=>e=aK (aF (vH xs ys))/\w'=w:=by
 have HL:=dP hv.1;have BM:=dP hv'.1;unfold vH
 cases hx:okB xs
 ·go_enter Tryz.func179,Tryz.ntmps179
  go_wp2_with fail
  refine (qY _ _ _ xs _ hv hm).mono ?_;rintro e w1' ⟨rfl,rfl⟩;go_wp2_with fail
  go_ret
  exact⟨dZ (by simp),rfl⟩
 ·cases hy:okB ys
  ·go_enter Tryz.func179,Tryz.ntmps179
   go_wp2_with fail
   refine (qY _ _ _ xs _ hv hm).mono ?_;rintro e w1' ⟨rfl,rfl⟩;go_wp2_with fail
   refine (qY _ _ _ ys _ hv' hm').mono ?_;rintro e w1' ⟨rfl,rfl⟩;go_wp2_with fail
   go_ret
   exact⟨dZ (by simp),rfl⟩
  ·go_enter Tryz.func179,Tryz.ntmps179
   go_wp2_with fail
   refine (qY _ _ _ xs _ hv hm).mono ?_;rintro e w1' ⟨rfl,rfl⟩;go_wp2_with fail
   refine (qY _ _ _ ys _ hv' hm').mono ?_;rintro e w1' ⟨rfl,rfl⟩;go_wp2_with fail
   go_ret
   exact⟨dZ (by rw[HL.out,BM.out,Bool.eq_iff_iff];simp;omega),rfl⟩
theorem fits_any (a a':Option dH) (len cap len' cap':Nat) (xs ys:List Int) (w:aI) (hv:Vec w a len xs) (hv':Vec w a' len' ys) (hc:len<=cap) (hc':len'<=cap') (hm:cap<=dD) (hm':cap'<=dD) :
  dF dA 200 #[aj a len cap,aj a' len' cap'] w fun e w'=>e=aK (aF (vH xs ys))/\∃ n,w'=w.drewN n:=by
 have HL:=dP hv.1;have BM:=dP hv'.1;unfold vH;by_cases hl:len=len'
 ·have hd:((len:Int)==(len':Int))=aB:=by simp[hl]
  have HD:=dP hl;clear hl
  cases hx:okB xs
  ·go_enter Tryz.func200,Tryz.ntmps200
   go_wp2_with fail
   refine (xw _ _ _ xs _ hv hc hm).mono ?_;rintro e w1' ⟨rfl,n1,rfl⟩;go_wp2_with fail
   go_ret
   exact⟨dZ (by simp),_,rfl⟩
  ·go_enter Tryz.func200,Tryz.ntmps200
   go_wp2_with fail
   refine (xw _ _ _ xs _ hv hc hm).mono ?_;rintro e w1' ⟨rfl,n1,rfl⟩;go_wp2_with fail
   refine (xw _ _ _ ys _ (hv'.drewN n1) hc' hm').mono ?_;rintro e w1' ⟨rfl,n2,rfl⟩;go_wp2_with fail
   go_ret
   exact⟨dZ (by rw[HL.out,BM.out,HD.out];simp),_,rfl⟩
 ·have hd:((len:Int)==(len':Int))=aC:=by simp;omega
  go_enter Tryz.func200,Tryz.ntmps200
  go_wp2_with fail
  go_ret
  exact⟨dZ (by rw[HL.out,BM.out];simp[hl]),0,rfl⟩
end
section
open Go.RowKit
def pq (xs:List Int):Int:=xs.foldl (·+·) 0
def Nu (xs:List Int):Int:=if okB xs=aB then pq xs else -1
theorem Ee (xs:List Int) (y:Int):pq (xs++[y])=pq xs+y:=by simp[pq]
theorem wu {xs: List Int} (h:okB xs=aB) (hi:i<xs.length):0<=el xs i/\el xs i<=1000000:=by
 unfold okB inB at h;simp only[bI,decide_eq_true_eq,bJ] at h;exact h.2 _ (kK hi)
theorem Vm {xs: List Int} (h:okB xs=aB) (k:Nat) (hk:k<=xs.length):0<=pq (xs.take k)/\pq (xs.take k)<=1000000*k:=by
 induction k with
 | zero=>simp[pq]
 | succ k ih =>
  have:=ih (by omega)
  have hb:=wu h (i:=k) (by omega)
  rw[take_snoc (by omega),Ee]
  omega
theorem Vo (x y:Int) (w:aI):dF dA 45 #[ah aA x,ah aA y] w fun e w'=>e=aK (ah aA (min x y))/\w'=w:=by
 by_cases h:x<y
 all_goals
  go_enter Tryz.func45,Tryz.ntmps45
  go_wp2;go_ret
  exact⟨mJ (by omega),rfl⟩
theorem Ef (x y:Int) (w:aI):dF dA 30 #[ah aA x,ah aA y] w fun e w'=>e=aK (ah aA (max x y))/\w'=w:=by
 by_cases h:y<x
 all_goals
  go_enter Tryz.func30,Tryz.ntmps30
  go_wp2;go_ret
  exact⟨mJ (by omega),rfl⟩
theorem YG (b off len cap:Nat) (xs:List Int) (w:aI) (hlen:xs.length=len) (hx:okB xs=aB)
  (hc:∀ i,i<len->w.cell? ⟨b,off+i,ak⟩=au (ah aA (el xs i))) :
  dF dA 134 #[aj (au ⟨b,off,ak⟩) len cap] w fun e w'=>e=aK (ah aA (pq xs))/\w'=w:=by
 have kx:=mM hx;have HX:=dP hlen;have h1:1<=len:=by omega
 have h8:len<=8:=by omega
 have HO:=dP hx;clear kx hlen hx;go_enter Tryz.func134,Tryz.ntmps134
 go_wp2
 go_loop [3,5,8] (fun m _ i=>∃ k:Nat,k<=len/\i=ah aA k/\m=ah aA (pq (xs.take k))) (fun _ _ i=>len-(dG i).toNat)
 case atStart=>exact⟨0,cZ _,rfl,rfl⟩
 case round =>
  obtain⟨k,hk,rfl,rfl⟩:=hrel;by_cases hlt:k<len
  ·have hck:=hc k hlt
   have HT:aG (pq (xs.take (k+1))=pq (xs.take k)+el xs k):=by
    rw[aG,take_snoc (by rw[HX.out];exact hlt),Ee]
   have s1:=Vm HO.out k (by rw[HX.out];exact hk)
   have s2:=wu HO.out (i:=k) (by rw[HX.out];exact hlt)
   go_wp2
   go_round
   case rel=>exact⟨k+1,by omega,by go_num,by rw[HT.out]⟩
   case measure=>simp[dG];omega
  ·go_wp2
   go_ret
   exact⟨mJ (by rw[aY (by rw[HX.out];omega)]),rfl⟩
theorem QI (a:Option dH) (len cap:Nat) (xs:List Int) (w:aI) (hv:Vec w a len xs) (hcap:len<=cap) (hm:cap<=dD) :
  dF dA 102 #[aj a len cap] w fun e w'=>e=aK (ah aA (Nu xs))/\∃ n,w'=w.drewN n:=by
 have hmf:∀ (fn:Fn) (first cap:Array aJ) (w:aI),(Instr.makeFunc fn first cap).run dA w=.ok (.func fn first cap) w:=fun _ _ _ _=>rfl
 unfold Nu
 cases hx:okB xs
 ·go_enter Tryz.func102,Tryz.ntmps102
  go_wp2_with (first|(go_at_call 130;refine (xw a len cap xs _ hv hcap hm).mono ?_;rintro e w' ⟨rfl,n,rfl⟩)|go_in)
  go_ret
  exact⟨mJ (by simp),_,rfl⟩
 ·have kx:=mM hx
  have HX:=dP hv.1;have h1:1<=len:=by have:=HX.out;omega
  obtain⟨b,off,rfl,hc⟩:=hv.cells h1;go_enter Tryz.func102,Tryz.ntmps102
  go_wp2_with (first|(go_at_call 130;refine (xw _ len cap xs _ hv hcap hm).mono ?_;rintro e w' ⟨rfl,n,rfl⟩)|(go_at_call 134;refine (YG b off len cap xs _ HX.out hx (by exact hc)).mono ?_;rintro e w' ⟨rfl,rfl⟩)|go_in)
  go_ret
  exact⟨mJ (by simp),_,rfl⟩
end
section
open Go.RowKit
def jn (f:Int->Int->Int) (xs ys:List Int) (k:Nat):List Int:=(List.range k).map (fun i=>f (el xs i) (el ys i))
def jc (f:Int->Int->Int) (xs ys:List Int):List Int:=if vH xs ys=aB then jn f xs ys xs.length else []
theorem aj9 (f:Int->Int->Int) (xs ys:List Int) (k:Nat):jn f xs ys (k+1)=jn f xs ys k++[f (el xs k) (el ys k)]:=by simp[jn,List.range_succ]
theorem lT (f:Int->Int->Int) (xs ys:List Int) (k:Nat):(jn f xs ys k).length=k:=by simp[jn]
theorem Uf (f:Int->Int->Int) (xs ys:List Int) (h:k<n):el (jn f xs ys n) k=f (el xs k) (el ys k):=by simp[jn,el,h]
theorem Vp (f:Int->Int->Int) (xs ys:List Int):(jc f xs ys).length<=8:=by
 unfold jc;by_cases h:vH xs ys=aB
 ·rw[if_pos h,lT];exact (mM (Aw h).1).2
 ·rw[if_neg h];simp
def OwnAt (w:aI) (g cap:Nat) (zs:List Int):Prop :=
 zs.length<=cap/\cap<=dD/\∃ cur,w.heap[g]?=au (aH cur 2 (0,0))/\cur.size=cap/\∀ i,i<zs.length->cur[i]?=au (ah aA (el zs i))
theorem OwnAt.lt {w: aI} {cap: Nat} (h:OwnAt w g cap zs):g<w.heap.size:=by
 obtain⟨_,_,c,hb,_⟩:=h;obtain⟨hlt,_⟩:=Array.getElem?_eq_some_iff.1 hb;exact hlt
theorem OwnAt.of_block {w: aI} {cap: Nat} (h:OwnAt w g cap zs) (e:w'.heap[g]?=w.heap[g]?):OwnAt w' g cap zs:=by
 obtain⟨h1,h2,c,hb,h3⟩:=h;exact⟨h1,h2,c,e.trans hb,h3⟩
theorem OwnAt.drewN {w: aI} {cap: Nat} (h:OwnAt w g cap zs) (n:Nat):OwnAt (w.drewN n) g cap zs:=h
theorem OwnAt.cell {w:aI} {g cap:Nat} {zs:List Int} (h:OwnAt w g cap zs) {i:Nat} (hi:i<zs.length):w.cell? ⟨g,i,ak⟩=au (ah aA (el zs i)):=by
 obtain⟨_,_,c,hb,_,hc⟩:=h;simp[World.cell?,hb,hc i hi]
theorem OwnAt.frozen {w:aI} {g cap:Nat} {zs:List Int} (h:OwnAt w g cap zs) (i:Nat):w.frozen? ⟨g,i,ak⟩=aC:=by
 obtain⟨_,_,c,hb,_⟩:=h;simp[World.frozen?,hb]
theorem OwnAt.vec {w: aI} {cap: Nat} (h:OwnAt w g cap zs) (hf:Fits zs):Vec w (au ⟨g,0,ak⟩) zs.length zs :=
 ⟨rfl,hf,.inr ⟨g,0,rfl,fun i hi=>by rw[Nat.zero_add];exact h.cell hi⟩⟩
theorem OwnAt.set {w: aI} {cap: Nat} (h:OwnAt w g cap zs) (i:Nat) (y:Int):OwnAt (w.setCell ⟨g,i,ak⟩ (ah aA y)) g cap (zs.set i y):=by
 obtain⟨h1,h2,c,hb,hs,hc⟩:=h;refine⟨by simpa using h1,h2,c.setIfInBounds i (ah aA y), ?_,by simpa using hs,fun j hj=>?_⟩
 ·simp[World.setCell,Array.getElem?_modify,hb]
 ·rw[bQ] at hj
  rw[Array.getElem?_setIfInBounds];by_cases e:i=j
  ·subst e;simp[el,hj];omega
  ·rw[if_neg e,hc j hj];simp[el,e]
theorem RowOf.own {w: aI} {xs: List Int} (h:RowOf w b xs) (hm:xs.length<=dD):OwnAt w b xs.length xs:=by
 obtain⟨c,hb,hn,hc⟩:=h;exact⟨cO _,hm,c,hb,hn,hc⟩
theorem xA {w: aI} (h:w.ownsRow base 2 1 v n (zs.map (dB aA))) (hn:n=zs.length) (h1:1<=n) :
  ∃ g cap,v=aj (au ⟨g,0,ak⟩) zs.length cap/\base<=g/\OwnAt w g cap zs:=by
 subst hn;rcases h.2 with ⟨_,h0⟩|⟨g,cap,cur,hv,hb,hg,hle,hm,hs,ht⟩
 ·omega
 ·refine⟨g,cap,hv,hb,hle,hm,cur,hg,by omega,fun i hi=>?_⟩
  have hi':i<cur.toList.length:=by simp;omega
  have e:(cur.toList.take (zs.length*1))[i]?=(zs.map (dB aA))[i]?:=by rw[ht]
  rw[List.getElem?_take] at e;rw[if_pos (by omega)] at e
  simp at e
  rw[e];simp[el,hi]
theorem KC (w:aI):OwnAt (w.alloc (aH #[] 2)) w.heap.size 0 [] :=
 ⟨cO _,cZ _,#[],heap_alloc_new w _,rfl,fun _ hi=>absurd hi (Nat.not_lt_zero _)⟩
theorem Ii (w:aI):(w.alloc (aH #[] 2)).ownsRow w.heap.size 2 1 (aj (au ⟨w.heap.size,0,ak⟩) 0 0) 0 [] :=
 ⟨rfl,.inr ⟨w.heap.size,0,#[],rfl,cO _,heap_alloc_new w _,cO _,cZ _,rfl,rfl⟩⟩
theorem vS {w: aI} {l: List aJ} (h:w.ownsRow base 2 1 v n l) (hb:b<base):v.ownBlock≠au b:=by
 intro e;have:=(h.lt b e).1;omega
attribute [local go_sem ↓] Go.wp_at_zero Go.wp_at_succ
theorem Nv (a a' : Option dH) (len cap len' cap' : Nat) (xs ys : List Int) (w : aI) (hv : Vec w a len xs) (hv' : Vec w a' len' ys) (hm : len <= dD) (hm' : len' <= dD) :
    dF dA 152 #[aj a len cap, aj a' len' cap'] w fun e w'=>∃ g c, e=aK (aj (au ⟨g, 0, ak⟩) (jc min xs ys).length c)/\w.heap.size<=g/\OwnAt w' g c (jc min xs ys)/\Below w.heap.size w w':=by
  have hb0:Below w.heap.size w (w.alloc (aH #[] 2)):=(dw _ _).alloc (cO _) _;have hv0:=hv.below hb0 (cO _);have hv0':=hv'.below hb0 (cO _)
  cases h2:vH xs ys
  · have HP:aG (jc min xs ys=[]):=by rw[aG, jc, h2]; rfl
    go_enter Tryz.func152, Tryz.ntmps152
    go_wp2_with fail
    refine (KA _ _ _ _ _ _ xs ys _ hv0 hv0' hm hm').mono ?_;rintro e w1 ⟨rfl, hw1⟩;have HW:=dP hw1;clear hw1;go_wp2;go_ret
    refine⟨w.heap.size, 0, by rw[HP.out]; rfl, cO _, ?_, ?_⟩
    · rw[HW.out, HP.out]; exact KC w
    · rw[HW.out]; exact hb0
  · obtain⟨ox, oy, hl⟩:=Aw h2
    have kx:=mM ox;have hlx:=hv.1;have hly:=hv'.1;obtain⟨b, off, rfl, hcx⟩:=hv.cells (by omega)
    obtain⟨b', off', rfl, hcy⟩:=hv'.cells (by omega)
    have HP:aG (jc min xs ys=jn min xs ys len):=by rw[aG, jc, h2, hlx]; rfl
    have h1:1<=len:=by omega
    have h8:len<=8:=by omega
    have hll:len<=len':=by omega
    obtain⟨i0, hi0, hz0, hz1, hz2⟩:=info_parts Tryz.info2;clear ox oy hl hlx hly kx;go_enter Tryz.func152, Tryz.ntmps152
    go_wp2_with fail
    refine (KA _ _ _ _ _ _ xs ys _ hv0 hv0' hm hm').mono ?_;rintro e w1 ⟨rfl, hw1⟩;have HW:=dP hw1;clear hw1 hv hv' hv0 hv0' hm hm';go_wp2
    go_loopw [5, 6] (fun v i wr=>∃ k:Nat, k<=len/\i=ah aA k/\wr.ownsRow w.heap.size 2 1 v k ((jn min xs ys k).map (dB aA))/\Below w.heap.size w wr) (fun _ i _=>len-(dG i).toNat)
    case atStart=>exact⟨0, cZ _, rfl, by rw[HW.out]; exact Ii w, by rw[HW.out]; exact hb0⟩
    case round =>
      obtain⟨k, hk, rfl, hown, hbel⟩:=hrel;have HB:=dP hbel;have hsz:=hbel.size;clear hbel;by_cases hlt:k<len
      · have lx:=aX _ _ (hcx k hlt)
        have ly:=aX _ _ (hcy k (by omega))
        have ex:wr.cell? ⟨b, off+k, ak⟩=au (ah aA (el xs k)):=(HB.out.cell (p:=⟨b, off+k, ak⟩) lx).trans (hcx k hlt);have ey:wr.cell? ⟨b', off'+k, ak⟩=au (ah aA (el ys k)):=(HB.out.cell (p:=⟨b', off'+k, ak⟩) ly).trans (hcy k (by omega))
        have ax:=vS hown lx;have ay:=vS hown ly;have hi1:(k:Int)<len:=by omega
        have hi2:(k:Int)<len':=by omega
        have aN1:(0:Int)<=k:=by omega
        clear hcx hcy;go_wp2_with fail
        go_region_held3 (fun w'=>w'.cell? ⟨b, off+k, ak⟩=au (ah aA (el xs k))/\w'.cell? ⟨b', off'+k, ak⟩=au (ah aA (el ys k)))
          (first
            | go_keep
            | (go_split_ands
               refine⟨?_, ?_⟩
               · (rw[hgrow.cell_far _ (by simp; omega) (Ne.symm ax)]; assumption)
               · (rw[hgrow.cell_far _ (by simp; omega) (Ne.symm ay)]; assumption)))
          (first
            | (go_at_call 45; refine (Vo _ _ _).mono ?_; rintro e w' ⟨rfl, rfl⟩)
            | (refine step_append_lies _ (by rfl) _ _ _ (by rfl) w.heap.size 2 i0 _ 1 8 bG hi0 hz0 hz1 hz2 rfl (by omega) u5 k _ (by rfl) ((hown.alloc _).drew) ⟨wr.heap.size, 0, ak⟩ 1 1 [ah aA (min (el xs k) (el ys k))] (by rfl) (by rfl) (World.news_of_block (cs:=#[ah aA (min (el xs k) (el ys k))]) (t:=2) (fr:=(0, 0)) (heap_alloc_new wr _)) (by simp[Value.oneCell']) (by omega) (by unfold dD; omega) (by omega) (by simp; omega) (wr.heap.size+1) (by simp) ?_; intro g cap w1 hown1 hgrow hat hlt))
        have R:aG (w1.ownsRow w.heap.size 2 1 (aj (au ⟨g, 0, ak⟩) (k+1) cap) (k+1) ((jn min xs ys (k+1)).map (dB aA))):=by
          rw[aG, aj9, List.map_append]; exact hown1
        have RB:aG (Below w.heap.size w w1):=Below.grown ((HB.out.alloc hsz _).drew) hgrow (by simp; omega) (fun r hr=>(hown.lt r hr).1)
        clear hown1 hgrow hat hlt hown ex ey ax ay;go_wp2;go_roundw
        case rel=>exact⟨k+1, by omega, by go_num, R.out, RB.out⟩
        case measure=>simp[dG]; omega
      · have hkl:k=len:=by omega
        subst hkl;go_wp2;go_ret
        obtain⟨g, c, hvv, hg, ho⟩:=xA hown (lT _ _ _ _).symm h1;exact⟨g, c, by rw[HP.out, <- hvv]; rfl, hg, by rw[HP.out]; exact ho, HB.out⟩
end
section
open Go.RowKit
theorem ak0 (w:aI) (y:Int) (hy:-9223372036854775808<=y/\y<=9223372036854775807):Vec (w.alloc (aH #[ah aA y] 2)) (au ⟨w.heap.size,0,ak⟩) 1 [y]:=by
 refine⟨rfl,by simpa using hy,.inr ⟨w.heap.size,0,rfl,fun i hi=>?_⟩⟩
 have:i=0:=by omega
 subst this;simp[el]
theorem JG (a a':Option dH) (len cap len' cap':Nat) (xs ys:List Int) (w:aI) (hv:Vec w a len xs) (hv':Vec w a' len' ys) (hc:len<=cap) (hc':len'<=cap') (hm:cap<=dD) (hm':cap'<=dD) :
  dF dA 198 #[aj a len cap,aj a' len' cap',.func (.func 180) #[] #[]] w fun e w'=>∃ g c,e=aK (aj (au ⟨g,0,ak⟩) (jc min xs ys).length c)/\w.heap.size<=g/\OwnAt w' g c (jc min xs ys)/\Below w.heap.size w w':=by
 cases h2:vH xs ys
 ·have HP:aG (jc min xs ys=[]):=by rw[aG,jc,h2];rfl
  go_enter Tryz.func198,Tryz.ntmps198
  go_wp2_with fail
  refine (fits_any _ _ _ _ _ _ xs ys _ hv hv' hc hc' hm hm').mono ?_;rintro e w1 ⟨rfl,n1,rfl⟩;go_wp2;go_ret
  refine⟨w.heap.size,0,by rw[HP.out];rfl,cO _, ?_,fO ((dw _ _).alloc (cO _) _)⟩
  rw[HP.out];exact (KC w).drewN n1
 ·obtain⟨ox,oy,hl⟩:=Aw h2
  have kx:=mM ox;have hlx:=hv.1;have hly:=hv'.1;have hfy:=hv'.2.1;obtain⟨b,off,rfl,hcx⟩:=hv.cells (by omega)
  obtain⟨b',off',rfl,hcy⟩:=hv'.cells (by omega)
  have HP:aG (jc min xs ys=jn min xs ys len):=by rw[aG,jc,h2,hlx];rfl
  have HLY:=dP hly;have h1:1<=len:=by omega
  have h8:len<=8:=by omega
  have hll:len<=len':=by omega
  have hmk:=run_make_row' (P:=dA) 41 2 (ah aA 0) 8 bG Tryz.info2 rfl aA aA len (by omega) (by omega)
  clear ox oy hl hlx hly kx;go_enter Tryz.func198,Tryz.ntmps198
  go_wp2_with fail
  refine (fits_any _ _ _ _ _ _ xs ys _ hv hv' hc hc' hm hm').mono ?_;rintro e w1 ⟨rfl,n1,rfl⟩;clear hv hv' hc hc' hm hm';go_wp2
  go_loopw [8,9,20] (fun _ _ i wr=>∃ k:Nat,k<=len/\i=ah aA k/\wr.rowIs w.heap.size 2 len (part (jn min xs ys len) k)/\Below w.heap.size w wr) (fun _ _ i _=>len-(dG i).toNat)
  case atStart =>
   exact ⟨0,cZ _,rfl,by
    have:=Ud (w:=w) (xs:=jn min xs ys len);rw[lT] at this;exact this,fO ((dw _ _).alloc (cO _) _)⟩
  case round =>
   obtain⟨k,hk,rfl,hrow,hbel⟩:=hrel;have HR:=dP hrow;have HB:=dP hbel;have hsz:=hrow.lt;clear hrow hbel;by_cases hlt:k<len
   ·have lx:=aX _ _ (hcx k hlt)
    have ly:=aX _ _ (hcy k (by omega))
    have ex:wr.cell? ⟨b,off+k,ak⟩=au (ah aA (el xs k)):=(HB.out.cell (p:=⟨b,off+k,ak⟩) lx).trans (hcx k hlt);have ey:wr.cell? ⟨b',off'+k,ak⟩=au (ah aA (el ys k)):=(HB.out.cell (p:=⟨b',off'+k,ak⟩) ly).trans (hcy k (by omega))
    have hrow':=HR.out.alloc (aH #[ah aA (el ys k)] 2);have hfr:=hrow'.frozen k;have hcl:=hrow'.cell hlt;have hV:=ak0 wr (el ys k) (hfy _ (kK (by rw[HLY.out];omega)))
    have hi1:(k:Int)<len:=by omega
    have hi2:(k:Int)<len':=by omega
    have HRW:=dP hrow';clear hcx hcy hrow';go_wp2_with fail
    refine (Kz _ _ _ _ [el ys k] _ hV (by decide)).mono ?_
    rintro e w2 ⟨rfl,hw2⟩;have HW:=dP hw2;rw[<- hw2] at hfr hcl;have hs2:w.heap.size<w2.heap.size:=by rw[hw2];simp;omega
    clear hw2 ex ey hV;go_wp2;go_roundw
    case rel => exact ⟨k + 1,by omega,by go_num,by
     have:=Vk (b:=w.heap.size) (xs:=jn min xs ys len) (k:=k) (w:=w2) (by rw[lT,HW.out];exact HRW.out)
     rw[lT,Uf _ _ _ hlt] at this;exact this,by
     have:Below w.heap.size w w2:=by rw[HW.out];exact HB.out.alloc (by omega) _
     exact this.setCell (cO _) _⟩
    case measure=>simp[dG];omega
   ·have hkl:k=len:=by omega
    subst hkl;go_wp2;go_ret
    refine⟨w.heap.size,k,by rw[HP.out,lT];rfl,cO _, ?_,HB.out⟩
    have hr:RowOf wr w.heap.size (jn min xs ys k):=Vl (k:=k) (by rw[lT];exact HR.out) (by rw[lT];exact cO _)
    have:=hr.own (by rw[lT];unfold dD;omega)
    rw[lT] at this;rw[HP.out];exact this
theorem Nw (a a':Option dH) (len cap len' cap':Nat) (xs ys:List Int) (w:aI) (hv:Vec w a len xs) (hv':Vec w a' len' ys) (hc:len<=cap) (hc':len'<=cap') (hm:cap<=dD) (hm':cap'<=dD) :
  dF dA 194 #[aj a len cap,aj a' len' cap'] w fun e w'=>∃ g c,e=aK (aj (au ⟨g,0,ak⟩) (jc min xs ys).length c)/\w.heap.size<=g/\OwnAt w' g c (jc min xs ys)/\Below w.heap.size w w':=by
 go_enter Tryz.func194,Tryz.ntmps194
 go_wp2_with fail
 refine (JG _ _ _ _ _ _ xs ys _ hv hv' hc hc' hm hm').mono ?_;rintro e w1 ⟨g,c,rfl,hg,ho,hb⟩;go_wp2;go_ret
 exact⟨g,c,rfl,hg,ho,hb⟩
end
section
open Go.RowKit
theorem Ug (f:Int->Int->Int) (hf:∀ x y,f x y=x\/f x y=y) (xs ys:List Int):Fits (jc f xs ys):=by
 unfold jc
 cases h:vH xs ys
 ·intro x hx;simp at hx
 ·obtain⟨ox,oy,hl⟩:=Aw h
  intro x hx;simp only[if_true,jn,List.mem_map,List.mem_range] at hx;obtain⟨i,hi,rfl⟩:=hx;have h1:=wu ox hi;have h2:=wu oy (i:=i) (by omega)
  rcases hf (el xs i) (el ys i) with e|e<;>rw[e]<;>omega
end
section
open Go.RowKit
def nZ (w:aI) (a:Option dH) (len:Nat) (bs:Nat->Int):Prop :=
 (∀ i,i<len->0<=bs i/\bs i<=255)/\(len=0\/∃ b off,a=au ⟨b,off,ak⟩/\∀ i,i<len->w.cell? ⟨b,off+i,ak⟩=au (ah .u8 (bs i)))
def Off (a:Option dH) (p:Nat):Prop:=∀ b off,a=au ⟨b,off,ak⟩->b≠p
def Eh (a:Option dH) (len p:Nat):Prop:=0<len->∀ b off,a=au ⟨b,off,ak⟩->b≠p
def InB (a:Option dH) (len B:Nat):Prop:=0<len->∀ b off,a=au ⟨b,off,ak⟩->b<B
theorem nZ.inB {w: aI} {len: Nat} {bs: Nat->Int} (h:nZ w a len bs):InB a len w.heap.size:=by
 intro hl b off e;obtain⟨_,h0|⟨b',off',rfl,hc⟩⟩:=h
 ·omega
 ·cases e;exact aX _ _ (hc 0 hl)
def jI (w:aI) (p:Nat) (a:Option dH) (len cap:Nat):Prop :=
 ∃ (i:Nat) (h:Int),i<=len/\w.heap[p]?=au (aH #[aj a len cap,ah aA (i:Int),ah aA h] 96 (0,0))
theorem nZ.grown {w: aI} {len: Nat} {bs: Nat->Int} (h:nZ w a len bs) (hg:w.grownBy w' (au p)) (hp:Eh a len p):nZ w' a len bs:=by
 obtain⟨h1,h2⟩:=h;refine⟨h1, ?_⟩;rcases h2 with h0|⟨b,off,rfl,hc⟩
 ·exact .inl h0
 ·refine .inr ⟨b,off,rfl,fun i hi=>?_⟩
  have hlt:=aX _ _ (hc i hi);have hne:au b≠au p:=by have:=hp (by omega) b off rfl;simpa using this
  rw[bf (w:=w) (hg.block b hlt hne)];exact hc i hi
theorem nZ.below {w: aI} {len: Nat} {bs: Nat->Int} (h:nZ w a len bs) (hb:Below B w w') (hB:w.heap.size<=B):nZ w' a len bs:=by
 obtain⟨h1,h2⟩:=h;refine⟨h1, ?_⟩;rcases h2 with h0|⟨b,off,rfl,hc⟩
 ·exact .inl h0
 ·refine .inr ⟨b,off,rfl,fun i hi=>?_⟩
  have hlt:=aX _ _ (hc i hi);rw[hb.cell (p:=⟨b,off+i,ak⟩) (Nat.lt_of_lt_of_le hlt hB)];exact hc i hi
theorem Vec.grown {w: aI} {len: Nat} {xs: List Int} (h:Vec w a len xs) (hg:w.grownBy w' (au p)) (hp:Off a p):Vec w' a len xs:=by
 obtain⟨h0,h1,h2⟩:=h;refine⟨h0,h1, ?_⟩;rcases h2 with h0|⟨b,off,rfl,hc⟩
 ·exact .inl h0
 ·refine .inr ⟨b,off,rfl,fun i hi=>?_⟩
  have hlt:=aX _ _ (hc i hi);have hne:au b≠au p:=by have:=hp b off rfl;simpa using this
  rw[bf (w:=w) (hg.block b hlt hne)];exact hc i hi
theorem qZ (w:aI) (r:Option Nat):w.grownBy w r:=⟨rfl,rfl,rfl,cO _,fun _ _ _=>rfl⟩
theorem fP {w: aI} (h:w.grownBy w1 r) (k:w1.grownBy w2 r):w.grownBy w2 r :=
 ⟨k.os.trans h.os,k.tape.trans h.tape,k.output.trans h.output,bZ h.size k.size,fun i hi hr=>(k.block i (Nat.lt_of_lt_of_le hi h.size) hr).trans (h.block i hi hr)⟩
theorem grown_drewN {w: aI} (h:w.grownBy w1 r) (n:Nat):w.grownBy (w1.drewN n) r:=⟨h.os,h.tape,h.output,h.size,h.block⟩
theorem yg {w: aI} (h:w.grownBy w1 (au p)) (i:Nat) (u:aJ):w.grownBy (w1.setCell ⟨p,i,ak⟩ u) (au p) :=
 ⟨h.os,h.tape,h.output,by simp[World.setCell];exact h.size,fun k hk hr=>(Below.heap_setCell _ _ _ _ (by intro e;exact hr (by rw[e]))).trans (h.block k hk hr)⟩
theorem jI.lt {w: aI} {len cap: Nat} (h:jI w p a len cap):p<w.heap.size:=by
 obtain⟨i,x,_,hb⟩:=h;obtain⟨hlt,_⟩:=Array.getElem?_eq_some_iff.1 hb;exact hlt
theorem jI.below {w: aI} {len cap: Nat} (h:jI w p a len cap) (hb:Below B w w') (hp:p<B):jI w' p a len cap:=by
 obtain⟨i,x,hi,hh⟩:=h;exact⟨i,x,hi,(hb.block p hp).trans hh⟩
theorem heap_set {w: aI} {c: Array aJ} {t: TypeId} (h:w.heap[p]?=au (aH c t (0,0))):(w.setCell ⟨p,i,ak⟩ u).heap[p]?=au (aH (c.setIfInBounds i u) t (0,0)):=by
 simp[World.setCell,Array.getElem?_modify,h]
theorem ak1 {w: aI} {s: aJ} (hb:w.heap[p]?=au (aH #[s,ah aA (i:Int),v] 96 (0,0))) :
  (((w.setCell ⟨p,2,ak⟩ u).drewN n).setCell ⟨p,1,ak⟩ (ah aA ((i:Int)+1))).heap[p]?=au (aH #[s,ah aA ((i+1:Nat):Int),u] 96 (0,0)):=by
 have h1:((w.setCell ⟨p,2,ak⟩ u).drewN n).heap[p]?=au (aH #[s,ah aA (i:Int),u] 96 (0,0)):=heap_set (i:=2) (u:=u) hb;have h2:=heap_set (i:=1) (u:=ah aA ((i:Int)+1)) h1;rw[h2];simp
theorem Uh (n:Int):bits .and aA n 255=n%256:=by
 have aH0:(BitVec.ofInt 64 255).toNat=2 ^ 8-1:=by decide
 have key:(BitVec.ofInt 64 n &&& BitVec.ofInt 64 255).toNat=(n%((2 ^ 64:Nat):Int)).toNat%2 ^ 8:=by
  rw[BitVec.toNat_and,BitVec.toNat_ofInt,aH0,Nat.and_two_pow_sub_one_eq_mod]
 show IntKind.i64.wrap ((BitVec.ofInt 64 n &&& BitVec.ofInt 64 255).toNat:Nat)=n%256
 rw[key,IntKind.wrap_i64];omega
theorem Ij (n:Int):0<=bits .and aA n 255/\bits .and aA n 255<=255:=by rw[Uh];omega
theorem xB (p:Nat) (a:Option dH) (len cap:Nat) (bs:Nat->Int) (w:aI) (hcur:jI w p a len cap) (hv:nZ w a len bs) (hp:Eh a len p) (hl:len<=4096) :
  dF dA 59 #[aO (au ⟨p,0,ak⟩)] w fun e w'=>∃ x:Int,e=aK (ah aA x)/\0<=x/\x<=255/\jI w' p a len cap/\w.grownBy w' (au p):=by
 obtain⟨i,h,hi,hb⟩:=hcur;have h0:w.cell? ⟨p,0,ak⟩=au (aj a len cap):=by simp[World.cell?,hb]
 have h1:w.cell? ⟨p,1,ak⟩=au (ah aA (i:Int)):=by simp[World.cell?,hb]
 have h2:w.cell? ⟨p,2,ak⟩=au (ah aA h):=by simp[World.cell?,hb]
 have hf:w.frozen? ⟨p,2,ak⟩=aC:=by simp[World.frozen?,hb]
 have hf1:w.frozen? ⟨p,1,ak⟩=aC:=by simp[World.frozen?,hb]
 have HB:=dP hb;clear hb;by_cases hlt:i<len
 ·obtain⟨hr,hv0|⟨b,off,rfl,hc⟩⟩:=hv
  ·omega
  ·have hne:=hp (by omega) b off rfl
   have hci:=hc i hlt;have yS:=hr i hlt;have hne':p≠b:=fun e=>hne e.symm
   have hi1:(i:Int)<len:=by omega
   have hi0:(0:Int)<=i:=by omega
   clear hc hr hp;go_enter Tryz.func59,Tryz.ntmps59
   go_wp2_with fail
   go_quiet (fail)
   go_wp2_with fail
   go_quiet (fail)
   go_wp2_with fail
   go_quiet (fail)
   go_wp2;go_ret
   refine⟨_,rfl,(Ij _).1,(Ij _).2, ?_, ?_⟩
   ·exact⟨i+1,_,hlt,ak1 HB.out⟩
   ·exact yg (grown_drewN (yg (qZ _ _) _ _) _) _ _
 ·have hil:i=len:=by omega
  subst hil;go_enter Tryz.func59,Tryz.ntmps59
  go_wp2_with fail
  go_quiet (fail)
  go_wp2_with fail
  go_quiet (fail)
  go_wp2;go_ret
  refine⟨_,rfl,(Ij _).1,(Ij _).2, ?_, ?_⟩
  ·exact⟨_,_,cO _,heap_set HB.out⟩
  ·exact grown_drewN (grown_drewN (yg (qZ _ _) _ _) _) _
theorem oO (p:Nat) (a:Option dH) (len cap:Nat) (bs:Nat->Int) (n:Int) (w:aI) (hcur:jI w p a len cap) (hv:nZ w a len bs) (hp:Eh a len p) (hl:len<=4096) (hn:n<=9223372036854775807) :
  dF dA 27 #[aO (au ⟨p,0,ak⟩),ah aA n] w fun e w'=>∃ x:Int,e=aK (ah aA x)/\0<=x/\(0<n->x<n)/\(n<=0->x=0)/\jI w' p a len cap/\w.grownBy w' (au p):=by
 by_cases h0:n<=0
 ·go_enter Tryz.func27,Tryz.ntmps27
  go_wp2;go_ret
  exact⟨0,rfl,by omega,by omega,fun _=>rfl,hcur,qZ _ _⟩
 ·by_cases h1:n<=256
  ·have hne:(n==0)=aC:=by simp;omega
   go_enter Tryz.func27,Tryz.ntmps27
   go_wp2_with fail
   refine (xB p a len cap bs _ hcur hv hp hl).mono ?_;rintro e w1 ⟨x,rfl,hx0,hx1,hc1,hg1⟩;have hlo:0<=x%n:=Int.emod_nonneg _ (by omega)
   have hhi:x%n<n:=Int.emod_lt_of_pos _ (by omega)
   go_wp2;go_ret
   exact⟨x%n,rfl,hlo,fun _=>hhi,fun h=>by omega,hc1,hg1⟩
  ·have hne:(n==0)=aC:=by simp;omega
   go_enter Tryz.func27,Tryz.ntmps27
   go_wp2_with fail
   refine (xB p a len cap bs _ hcur hv hp hl).mono ?_;rintro e w1 ⟨x,rfl,hx0,hx1,hc1,hg1⟩;have hv1:=hv.grown hg1 hp;go_wp2_with fail
   refine (xB p a len cap bs _ hc1 hv1 hp hl).mono ?_;rintro e w2 ⟨y,rfl,hy0,hy1,hc2,hg2⟩;have hv2:=hv1.grown hg2 hp;go_wp2_with fail
   refine (xB p a len cap bs _ hc2 hv2 hp hl).mono ?_;rintro e w3 ⟨z,rfl,hz0,hz1,hc3,hg3⟩;have hv3:=hv2.grown hg3 hp;go_wp2_with fail
   refine (xB p a len cap bs _ hc3 hv3 hp hl).mono ?_;rintro e w4 ⟨u,rfl,hu0,hu1,hc4,hg4⟩;have G:=fP (fP hg1 hg2) (fP hg3 hg4);have hlo:0<=(x*16777216+y*65536+z*256+u)%n:=Int.emod_nonneg _ (by omega)
   have hhi:(x*16777216+y*65536+z*256+u)%n<n:=Int.emod_lt_of_pos _ (by omega)
   clear hc1 hc2 hc3 hg1 hg2 hg3 hg4 hv hv1 hv2 hv3;go_wp2;go_ret
   exact⟨(x*16777216+y*65536+z*256+u)%n,rfl,hlo,fun _=>hhi,fun h=>by omega,hc4,G⟩
theorem Df (p:Nat) (a:Option dH) (len cap:Nat) (bs:Nat->Int) (n:Int) (w:aI) (hcur:jI w p a len cap) (hv:nZ w a len bs) (hp:Eh a len p) (hl:len<=4096) (hn:n<=9223372036854775807) :
  dF dA 28 #[aO (au ⟨p,0,ak⟩),ah aA n] w fun e w'=>∃ x:Bool,e=aK (aF x)/\jI w' p a len cap/\w.grownBy w' (au p):=by
 go_enter Tryz.func28,Tryz.ntmps28
 go_wp2_with fail
 refine (oO p a len cap bs n _ hcur hv hp hl hn).mono ?_;rintro e w1 ⟨x,rfl,hx0,hx1,hx2,hc1,hg1⟩;go_wp2;go_ret
 exact⟨_,rfl,hc1,hg1⟩
theorem new_any (a : Option dH) (len cap : Nat) (bs : Nat -> Int) (w : aI) (hv : nZ w a len bs) (hl : len <= 4096) :
    dF dA 26 #[aj a len cap] w fun e w'=>∃ p, e=aK (aO (au ⟨p, 0, ak⟩))/\w.heap.size<=p/\jI w' p a len cap/\Below w.heap.size w w':=by
  obtain⟨hr, hcs⟩:=hv;rcases hcs with h0|⟨b, off, rfl, hc⟩
  all_goals
    go_enter Tryz.func26, Tryz.ntmps26
    go_wp2
    go_loop [3, 4] (fun h i=>∃ (k:Nat) (x:Int), k<=len/\i=ah aA k/\h=ah aA x) (fun _ i=>len-(dG i).toNat)
    case atStart=>exact⟨0, _, cZ _, rfl, rfl⟩
    case round =>
      obtain⟨k, x, hk, rfl, rfl⟩:=hrel;by_cases hlt:k<len
      · first
          | omega
          | (have hck := hc k hlt
             go_wp2
             go_round
             case rel=>exact⟨k+1, _, by omega, by go_num, rfl⟩
             case measure=>simp[dG]; omega)
      · go_wp2
        go_ret
        exact⟨w.heap.size, rfl, cO _, ⟨0, x, cZ _, heap_alloc_new _ _⟩, (dw _ _).alloc (cO _) _⟩
end
section
open Go.RowKit
def lenOf:aJ->Nat|.slice _ n _=>n|_=>0
def From (a:Option dH) (B:Nat):Prop:=∀ b off,a=au ⟨b,off,ak⟩->B<=b
theorem zh {w w3: aI} (h:w.grownBy w2 r) (hg:w2.grownBy w3 row) (hrow:∀ k,row=au k->w.heap.size<=k):w.grownBy w3 r :=
 ⟨hg.os.trans h.os,hg.tape.trans h.tape,hg.output.trans h.output,bZ h.size hg.size,fun i hi hr=>(hg.block i (Nat.lt_of_lt_of_le hi h.size) (by intro e;have:=hrow i e.symm;omega)).trans (h.block i hi hr)⟩
theorem jI.grown {w: aI} {len cap: Nat} (h:jI w p a len cap) (hg:w.grownBy w' row) (hr:row≠au p):jI w' p a len cap:=by
 have hlt:=h.lt;obtain⟨i,x,hi,hh⟩:=h;exact⟨i,x,hi,(hg.block p hlt (Ne.symm hr)).trans hh⟩
theorem jI.alloc {w: aI} {len cap: Nat} (h:jI w p a len cap) (o:Obj):jI (w.alloc o) p a len cap:=h.grown (World.grownBy_alloc w o ak) (by simp)
theorem OwnAt.grown {w: aI} {cap: Nat} (h:OwnAt w g cap zs) (hg:w.grownBy w' (au p)) (hne:g≠p):OwnAt w' g cap zs :=
 h.of_block (hg.block g h.lt (by simpa using hne))
theorem Vq {w: aI} (h:w.ownsRow base 2 1 v n (zs.map (dB aA))) (hn:n=zs.length) (hf:Fits zs) :
  ∃ a' c,v=aj a' n c/\Vec w a' n zs/\n<=c/\c<=dD/\From a' base:=by
 by_cases h1:1<=n
 ·obtain⟨g,c,hv,hb,ho⟩:=xA h hn h1
  subst hn;exact⟨_,c,hv,ho.vec hf,ho.1,ho.2.1,fun b off e=>by cases e;exact hb⟩
 ·have h0:n=0:=by omega
  subst h0;have hz:zs=[]:=List.length_eq_zero_iff.1 hn.symm;subst hz;rcases h.2 with ⟨hv,_⟩|⟨g,c,cur,hv,hb,_,hle,hm,_⟩
  ·exact⟨ak,0,hv,⟨rfl,hf,.inl rfl⟩,cO _,cZ _,fun b off e=>by cases e⟩
  ·exact⟨_,c,hv,⟨rfl,hf,.inl rfl⟩,hle,hm,fun b off e=>by cases e;exact hb⟩
def Small (zs:List Int):Prop:=∀ z∈zs,0<=z/\z<=6
theorem Small.fits (h:Small zs):Fits zs:=fun x hx=>by have:=h x hx;omega
theorem Small.snoc {x: Int} (h:Small zs) (h0:0<=x) (h1:x<=6):Small (zs++[x]):=by
 intro z hz;rcases List.mem_append.1 hz with hz|hz
 ·exact h z hz
 ·simp at hz;subst hz;exact⟨h0,h1⟩
theorem Ei {w: aI} (h:w.grownBy w1 r) (hg:w.heap.size<=g) (i:Nat) (u:aJ):w.grownBy (w1.setCell ⟨g,i,ak⟩ u) r :=
 ⟨h.os,h.tape,h.output,by simp[World.setCell];exact h.size,fun k hk hr=>(Below.heap_setCell _ _ _ _ (by intro e;simp at e;omega)).trans (h.block k hk hr)⟩
theorem jI.set {w: aI} {len cap: Nat} (h:jI w p a len cap) (hne:g≠p) (i:Nat) (u:aJ):jI (w.setCell ⟨g,i,ak⟩ u) p a len cap:=by
 obtain⟨j,x,hj,hh⟩:=h;exact⟨j,x,hj,(Below.heap_setCell _ _ _ _ (by intro e;exact hne e.symm)).trans hh⟩
theorem Ny (h:Fits zs) (i:Nat) {y: Int} (hy:-9223372036854775808<=y/\y<=9223372036854775807):Fits (zs.set i y):=by
 intro x hx;rcases List.mem_or_eq_of_mem_set hx with hx|rfl
 ·exact h x hx
 ·exact hy
theorem YH {w: aI} {c: Nat} (h:OwnAt w g c zs) (hf:Fits zs) (h1:1<=zs.length):Vec w (au ⟨g,1,ak⟩) (zs.length-1) zs.tail :=
 ⟨by simp,fun x hx=>hf x (List.mem_of_mem_tail hx),.inr ⟨g,1,rfl,fun i hi=>by rw[Nat.add_comm,h.cell (i:=i+1) (by omega)];simp[el]⟩⟩
end
section
open Go.RowKit
def Ik (xs ys:List Int):Bool:=decide (xs=ys)
theorem Dh (xs:List Int):Ik xs xs=aB:=by simp[Ik]
theorem Q9 (a:Option dH) (len cap:Nat) (w:aI) :
  dF dA 6 #[aj a len cap] w fun e w'=>e=aK (aF (decide ((4096:Int)<len)))/\w'=w:=by
 go_enter Tryz.func6,Tryz.ntmps6
 go_wp2;go_ret
 exact⟨rfl,rfl⟩
theorem pick_any (a : Option dH) (len cap : Nat) (bs : Nat -> Int) (seed n : Int) (w : aI) (hv : nZ w a len bs) (hl : len <= 4096) (hs0 : 0 <= seed) (hs1 : seed <= 1000000) (hn0 : 0 < n) (hn1 : n <= 1000000) :
    dF dA 20 #[aj a len cap, ah aA seed, ah aA n] w fun e w'=>∃ x:Int, e=aK (ah aA x)/\0<=x/\x<n/\w'=w:=by
  obtain⟨hr, hcs⟩:=hv;have hne:(n==0)=aC:=by simp; omega
  rcases hcs with h0|⟨b, off, rfl, hc⟩
  all_goals
    go_enter Tryz.func20, Tryz.ntmps20
    go_wp2
    go_loop [7, 8] (fun h i=>∃ (k:Nat) (x:Int), k<=len/\i=ah aA k/\h=ah aA x/\0<=x/\x<=10000000000) (fun _ i=>len-(dG i).toNat)
    case atStart=>exact⟨0, _, cZ _, rfl, rfl, by omega, by omega⟩
    case round =>
      obtain⟨k, x, hk, rfl, rfl, hx0, hx1⟩:=hrel;by_cases hlt:k<len
      · first
          | omega
          | (have hck := hc k hlt
             have hrk:=hr k hlt;have hlo:0<=(x*157+bs k+seed)%1000003:=Int.emod_nonneg _ (by omega)
             have hhi:(x*157+bs k+seed)%1000003<1000003:=Int.emod_lt_of_pos _ (by omega)
             go_wp2
             go_round
             case rel=>exact⟨k+1, _, by omega, by go_num, rfl, by omega, by omega⟩
             case measure=>simp[dG]; omega)
      · have hlo:0<=x%n:=Int.emod_nonneg _ (by omega)
        have hhi:x%n<n:=Int.emod_lt_of_pos _ hn0;go_wp2;go_ret
        exact⟨_, rfl, hlo, hhi, rfl⟩
theorem Di (a a':Option dH) (len cap len' cap':Nat) (xs ys:List Int) (w:aI) (hv:Vec w a len xs) (hv':Vec w a' len' ys) (hm:len<=dD) :
  dF dA 24 #[aj a len cap,aj a' len' cap'] w fun e w'=>e=aK (aF (Ik xs ys))/\∃ n,w'=w.drewN n:=by
 unfold dD at hm;unfold Ik;obtain⟨hlen,_,hcs⟩:=hv;obtain⟨hlen',_,hcs'⟩:=hv';by_cases hl:len=len'
 ·have hne:((len:Int) != (len':Int))=aC:=by simp[hl]
  have HL:=dP hlen;have BM:=dP hlen';have wz:=dP hl;have hle:(len:Int)<=len':=by omega
  clear hlen hlen' hl;by_cases h0:len=0
  ·have hx:xs=[]:=List.length_eq_zero_iff.1 (by rw[HL.out];exact h0)
   have hy:ys=[]:=List.length_eq_zero_iff.1 (by rw[BM.out,<- wz.out];exact h0)
   subst h0 hx hy;clear hcs hcs';go_enter Tryz.func24,Tryz.ntmps24
   go_wp2
   go_loop [5] (fun i=>i=ah aA 0) (fun _=>0)
   case atStart=>rfl
   case round =>
    subst hrel;go_wp2;go_ret
    exact⟨rfl,0,rfl⟩
  ·rcases hcs with h|⟨b,off,rfl,hc⟩
   ·omega
   rcases hcs' with h|⟨b',off',rfl,hc'⟩
   ·have:=wz.out;omega
   go_enter Tryz.func24,Tryz.ntmps24
   go_wp2
   go_loopw [5] (fun i wr=>∃ k:Nat,k<=len/\i=ah aA k/\(∀ j,j<k->el xs j=el ys j)/\∃ n,wr=w.drewN n) (fun i _=>len-(dG i).toNat)
   case atStart=>exact⟨0,cZ _,rfl,fun j hj=>by omega,0,rfl⟩
   case round =>
    obtain⟨k,hk,rfl,hall,n,rfl⟩:=hrel;have HA:=dP hall;clear hall;by_cases hlt:k<len
    ·have hck:=hc k hlt
     have au0:=hc' k (by have:=wz.out;omega)
     have hi1:(k:Int)<len:=by omega
     have hi2:(k:Int)<len':=by omega
     by_cases he:el xs k=el ys k
     ·have hd:(el xs k != el ys k)=aC:=by simp[he]
      have HX:=dP he;clear he;go_wp2_with fail
      go_quiet (fail)
      go_wp2;go_roundw
      case rel => exact ⟨k + 1,by omega,by go_num,fun j hj => by
       rcases aW.1 hj with h|h
       ·exact HA.out j h
       ·rw[h];exact HX.out,_,rfl⟩
      case measure=>simp[dG];omega
     ·have hd:(el xs k != el ys k)=aB:=by simp[he]
      go_wp2_with fail
      go_quiet (fail)
      go_wp2;go_ret
      exact⟨dZ (by symm;rw[decide_eq_false_iff_not];intro h;exact he (by rw[h])),_,World.drewN_drewN _ _ _⟩
    ·go_wp2
     go_ret
     exact⟨dZ (by symm;rw[decide_eq_true_iff];exact Ed (by rw[HL.out,BM.out,wz.out]) (fun j hj=>HA.out j (by rw[HL.out] at hj;omega))),_,rfl⟩
 ·have hne:((len:Int) != (len':Int))=aB:=by simp;omega
  go_enter Tryz.func24,Tryz.ntmps24
  go_wp2;go_ret
  exact⟨dZ (by symm;rw[decide_eq_false_iff_not];intro h;rw[h] at hlen;omega),0,rfl⟩
end
structure jE (w:aI) (s g off n cap:Nat) (xs:List aJ):Prop where
 len:xs.length=n*s
 le:n<=cap
 max:cap<=dD
 blk:g<w.heap.size
 cell:∀ i,i<n*s->w.cell? ⟨g,off+i,ak⟩=xs[i]?
 some:∀ i,i<cap*s->(w.cell? ⟨g,off+i,ak⟩).isSome=aB
 free:∀ i,i<cap*s->w.frozen? ⟨g,off+i,ak⟩=aC
theorem jE.of_block {w: aI} {cap: Nat} {xs: List aJ} (h:jE w s g off n cap xs) (e:w'.heap[g]?=w.heap[g]?) (hs:g<w'.heap.size):jE w' s g off n cap xs :=
 ⟨h.len,h.le,h.max,hs,fun i hi => by rw [bf (w := w) e];exact h.cell i hi,fun i hi => by rw [bf (w := w) e];exact h.some i hi,
  fun i hi=>by rw[show w'.frozen? ⟨g,off+i,ak⟩=w.frozen? ⟨g,off+i,ak⟩ from by simp only[World.frozen?,e]];exact h.free i hi⟩
theorem jE.below {w: aI} {cap: Nat} {xs: List aJ} (h:jE w s g off n cap xs) (hb:Below B w w') (hg:g<B):jE w' s g off n cap xs :=
 h.of_block (hb.block g hg) (Nat.lt_of_lt_of_le h.blk hb.size)
theorem jE.grown {w: aI} {cap: Nat} {xs: List aJ} (h:jE w s g off n cap xs) (hg:w.grownBy w' r) (hr:r≠.some g):jE w' s g off n cap xs :=
 h.of_block (hg.block g h.blk (Ne.symm hr)) (Nat.lt_of_lt_of_le h.blk hg.size)
theorem zD (g off j:Nat):(⟨g,off,ak⟩:dH).add j=⟨g,off+j,ak⟩:=by unfold Addr.add;split<;>simp_all
theorem jE.uj {w: aI} {e: Nat} {xs: List aJ} (h:w.ownsRow base e s v n xs) (hv:v≠aj ak 0 0) :
  ∃ g cap,v=aj (.some ⟨g,0,ak⟩) n cap/\base<=g/\jE w s g 0 n cap xs:=by
 rcases h with ⟨hl,⟨h0,_⟩|⟨g,cap,cur,hv',hb,hg,hle,hm,hs,ht⟩⟩
 ·exact absurd h0 hv
 ·refine⟨g,cap,hv',hb,hl,hle,hm,(Array.getElem?_eq_some_iff.1 hg).1,fun i hi=>?_,fun i hi=>?_,fun i hi=>?_⟩
  ·simp only[World.cell?,hg,Nat.zero_add]
   rw[<- ht,List.getElem?_take,if_pos hi];simp
  ·simp only[World.cell?,hg,Nat.zero_add]
   have:i<cur.size:=by omega
   simp[this]
  ·simp[World.frozen?,hg]
theorem size_setCells (b:Nat):∀ (vs:List aJ) (o:Nat) (w:aI),(w.setCells b o vs).heap.size=w.heap.size
 | [],_,_=>rfl
 | v::vs,o,w=>by
  have:=size_setCells b vs (o+1) (w.setCell ⟨b,o,ak⟩ v);simp only[World.setCells] at this ⊢;rw[this];simp[World.setCell]
theorem BN (b:Nat):∀ (vs:List aJ) (o:Nat) (w:aI),w.grownBy (w.setCells b o vs) (au b)
 | [],_,w=>qZ w _
 | v::vs,o,w=>by
  have:=BN b vs (o+1) (w.setCell ⟨b,o,ak⟩ v);simp only[World.setCells] at this ⊢;exact fP (yg (qZ w _) o v) this
section
variable {P:Program} (w:aI)
theorem DR (t ty e:TypeId) (i:TypeInfo) (z:aJ) (s bytes:Nat) (ht:P.underlying t=au (.slice e)) (hi:P.info? e=au i) (hz:i.zero=au z)
  (hsize:i.size=s) (hby:i.bytes=bytes) (hzs:z.cells.size=s) (hsz:0<s)
  (g off n cap:Nat) (xs:List aJ) (ho:jE w s g off n cap xs)
  (ad:dH) (m c:Nat) (news:List aJ) (hl:news.length=m*s) (hnews:∀ j u,news[j]?=au u->w.cell? (ad.add j)=au u) (h1:∀ u∈news,u.oneCell'=aB)
  (h63:n+m<=dD) (hbytes:(n+m)*bytes<=140737488355328) :
  ∃ g' off' cap' w',(bU #[t,t] ty #[aj (au ⟨g,off,ak⟩) n cap,aj (au ad) m c]).run P w=.ok (aj (au ⟨g',off',ak⟩) (n+m) cap') w' /\
   jE w' s g' off' (n+m) cap' (xs++news)/\w.grownBy w' (au g)/\(g'=g\/g'=w.heap.size):=by
 have hms:∀ j,j<m*s->n+m<=cap->n*s+j<cap*s:=by
  intro j hj hr;have:(n+m)*s<=cap*s:=Nat.mul_le_mul_right _ hr;rw[Nat.add_mul] at this;omega
 have hns:n*s<=cap*s:=Nat.mul_le_mul_right _ ho.le;by_cases hroom:n+m<=cap
 ·have hr:=run_append_room_cells (P:=P) w t ty e i ht hi g off n cap ad m c news (by rw[hl,hsize]) hnews h1 hroom
   (fun j hj=>by rw[hsize,Nat.add_assoc];exact ho.some _ (hms j (by omega) hroom)) (fun j hj=>by rw[hsize,Nat.add_assoc];exact ho.free _ (hms j (by omega) hroom))
  rw[hsize] at hr;have hcs:∀ j,j<news.length->(w.cell? ⟨g,off+n*s+j,ak⟩).isSome=aB:=fun j hj=>by rw[Nat.add_assoc];exact ho.some _ (hms j (by omega) hroom)
  have hin:=World.cell?_setCells_in g news (off+n*s) w hcs;refine⟨g,off,cap,_,hr,⟨by rw[bD,ho.len,hl,Nat.add_mul],hroom,ho.max,by rw[size_setCells];exact ho.blk,fun k hk=>?_,fun k hk=>?_,fun k hk=>?_⟩,BN _ _ _ _,.inl rfl⟩
  ·by_cases hlt:k<n*s
   ·rw[World.cell?_setCells_out _ _ _ _ _ (fun _ _=>.inl (by simp;omega)),ho.cell k hlt,aU (by rw[ho.len];exact hlt)]
   ·have e1:off+k=off+n*s+(k-n*s):=by omega
    rw[Nat.add_mul] at hk;rw[e1,hin (k-n*s) (by omega),aT (by rw[ho.len];omega),ho.len]
    simp
  ·by_cases hin':n*s<=k/\k<n*s+m*s
   ·have e1:off+k=off+n*s+(k-n*s):=by omega
    rw[e1,hin (k-n*s) (by omega)];simp
   ·rw[World.cell?_setCells_out _ _ _ _ _ (fun _ _=>by simp;omega)];exact ho.some k hk
  ·rw[World.frozen?_setCells];exact ho.free k hk
 ·have hg := run_append_arg_grows (P := P) w t ty e i z s bytes ht hi hz hsize hby hzs hsz ⟨g,off,ak⟩ n cap xs ho.len (fun j u hu => by
   rw[zD]
   have hj:j<xs.length:=by
    rcases Nat.lt_or_ge j xs.length with h|h
    ·exact h
    ·rw[aZ h] at hu;cases hu
   rw[ho.cell j (by rw[<- ho.len];exact hj)];exact hu) ad m c news hl hnews (by omega) h63 hbytes
  obtain⟨v',w',hr,hown,hgr⟩:=hg;have hm:0<n+m:=by omega
  obtain⟨g',cap',rfl,hb,hlt⟩:=hown.form hm;obtain⟨g2,cap2,hv2,_,hO⟩:=jE.uj hown (by intro h;cases h)
  cases hv2
  rcases hown.2 with ⟨h0,_⟩|⟨g3,cap3,cur,hv3,hb3,hg3,_⟩
  ·cases h0
  ·cases hv3
   refine⟨g',0,cap',w',hr,hO,⟨hgr.os,hgr.tape,hgr.output,hgr.size,fun k hk _=>hgr.block k hk (by simp)⟩, ?_⟩
   right
   have hr2 := run_append_grow (P := P) w t ty e i z ht hi hz ⟨g,off,ak⟩ n cap xs (by rw [hsize];exact ho.len) (fun j u hu => by
    rw[zD]
    have hj:j<xs.length:=by
     rcases Nat.lt_or_ge j xs.length with h|h
     ·exact h
     ·rw[aZ h] at hu;cases hu
    rw[ho.cell j (by rw[<- ho.len];exact hj)];exact hu) ad m c news (by rw[hsize];exact hl) hnews (by omega) (by simp only[dD] at h63;omega) (growslice_fits (by omega) (by rw[hby];exact hbytes))
   rw[hr2] at hr;simp only[Result.ok.injEq,Value.slice.injEq,Option.some.injEq,Addr.mk.injEq] at hr;exact hr.1.1.1.symm
theorem Nz {o:Oper} {a:Act} {K:Act->aI->Prop} {Q:Exit->Act->aI->Prop} (sl x:Operand) (t:TypeId)
  (hop:o.op=.call { callee:=.builtin .append,args:=#[sl,x],argTypes:=#[t,t] })
  (e:TypeId) (i:TypeInfo) (z:aJ) (s bytes:Nat) (ht:P.underlying t=au (.slice e)) (hi:P.info? e=au i) (hz:i.zero=au z)
  (hsize:i.size=s) (hby:i.bytes=bytes) (hzs:z.cells.size=s) (hsz:0<s)
  (g off n cap:Nat) (xs:List aJ) (hs:a.eval sl=aj (au ⟨g,off,ak⟩) n cap) (ho:jE w s g off n cap xs)
  (ad:dH) (m c:Nat) (news:List aJ) (hx:a.eval x=aj (au ad) m c) (hl:news.length=m*s) (hnews:∀ j u,news[j]?=au u->w.cell? (ad.add j)=au u) (h1:∀ u∈news,u.oneCell'=aB)
  (h63:n+m<=dD) (hbytes:(n+m)*bytes<=140737488355328)
  (h:∀ g' off' cap' w',jE w' s g' off' (n+m) cap' (xs++news)->w.grownBy w' (au g)->(g'=g\/g'=w.heap.size)->K (a.put o.dst (aj (au ⟨g',off',ak⟩) (n+m) cap')) w'):o.wp P a w K Q:=by
 obtain⟨g',off',cap',w',hr,h2,h3,h4⟩:=DR (P:=P) w t o.type e i z s bytes ht hi hz hsize hby hzs hsz g off n cap xs ho ad m c news hl hnews h1 h63 hbytes;unfold Oper.wp execOp;simp only[hop,resolve,invoke,builtin,Sem.run_bind,Sem.run_pure,Result.andThen_ok,List.map_toArray,List.map_cons,List.map_nil,hs,hx,hr]
 exact h g' off' cap' w' h2 h3 h4
theorem iI {ops:Array Oper} {rest:List Oper} {o:Oper} {a:Act} {Q:Exit->Act->aI->Prop} (hgd:o.guard=ak) (sl x:Operand) (t:TypeId)
  (hop:o.op=.call { callee:=.builtin .append,args:=#[sl,x],argTypes:=#[t,t] })
  (e:TypeId) (i:TypeInfo) (z:aJ) (s bytes:Nat) (ht:P.underlying t=au (.slice e)) (hi:P.info? e=au i) (hz:i.zero=au z)
  (hsize:i.size=s) (hby:i.bytes=bytes) (hzs:z.cells.size=s) (hsz:0<s)
  (g off n cap:Nat) (xs:List aJ) (hs:a.eval sl=aj (au ⟨g,off,ak⟩) n cap) (ho:jE w s g off n cap xs)
  (ad:dH) (m c:Nat) (news:List aJ) (hx:a.eval x=aj (au ad) m c) (hl:news.length=m*s) (hnews:∀ j u,news[j]?=au u->w.cell? (ad.add j)=au u) (h1:∀ u∈news,u.oneCell'=aB)
  (h63:n+m<=dD) (hbytes:(n+m)*bytes<=140737488355328)
  (h:∀ g' off' cap' w',jE w' s g' off' (n+m) cap' (xs++news)->w.grownBy w' (au g)->(g'=g\/g'=w.heap.size)->wpList P ops Q rest (a.put o.dst (aj (au ⟨g',off',ak⟩) (n+m) cap')) w'):wpList P ops Q (o::rest) a w :=
 wpList_plain hgd fun _ hK=>Nz w sl x t hop e i z s bytes ht hi hz hsize hby hzs hsz g off n cap xs hs ho ad m c news hx hl hnews h1 h63 hbytes fun g' off' cap' w' h2 h3 h4=>hK _ _ (h g' off' cap' w' h2 h3 h4)
end
def OI (w:aI) (g off n cap:Nat) (zs:List Int):Prop:=jE w 1 g off n cap (zs.map (dB aA))
theorem OI.length {w: aI} {cap: Nat} (h:OI w g off n cap zs):zs.length=n:=by have:=h.len;simpa using this
theorem OI.cellAt {w: aI} {cap: Nat} (h:OI w g off n cap zs) (hi:i<n):w.cell? ⟨g,off+i,ak⟩=au (ah aA (el zs i)):=by
 have hl:=h.length;rw[h.cell i (by omega)]
 simp[el,show i<zs.length by omega]
theorem OI.vec {w: aI} {cap: Nat} (h:OI w g off n cap zs) (hf:Fits zs):Vec w (au ⟨g,off,ak⟩) n zs :=
 ⟨h.length,hf,.inr ⟨g,off,rfl,fun _ hi=>h.cellAt hi⟩⟩
theorem OI.own {w: aI} {cap: Nat} (h:OwnAt w g cap zs):OI w g 0 zs.length cap zs:=by
 have hlt:=h.lt;obtain⟨h1,h2,cur,hb,hs,hc⟩:=h;refine⟨by simp,h1,h2,hlt,fun i hi=>?_,fun i hi=>?_,fun i hi=>?_⟩
 ·simp only[World.cell?,hb,Nat.zero_add]
  have:i<zs.length:=by omega
  simp[hc i this,el,this]
 ·simp only[World.cell?,hb,Nat.zero_add]
  have:i<cur.size:=by omega
  simp[this]
 ·simp[World.frozen?,hb]
def Grew (w w':aI):Prop:=Below w.heap.size w w'/\w.drawn<=w'.drawn
theorem Grew.refl (w:aI):Grew w w:=⟨dw _ _,cO _⟩
theorem Grew.trans {a b c: aI} (h:Grew a b) (k:Grew b c):Grew a c:=⟨eU h.1 k.1,bZ h.2 k.2⟩
theorem Grew.alloc {a b: aI} (h:Grew a b) (o:Obj):Grew a (b.alloc o):=⟨h.1.alloc h.1.size o,h.2⟩
theorem Grew.drewN {a b: aI} (h:Grew a b) (n:Nat):Grew a (b.drewN n):=⟨⟨h.1.os,h.1.tape,h.1.output,h.1.size,h.1.block⟩,bZ h.2 (Nat.le_add_right _ _)⟩
theorem ak2 {w: aI} {cap: Nat} (h:OI w g off n cap zs) (hi:i<n) (y:Int):OI (w.setCell ⟨g,off+i,ak⟩ (ah aA y)) g off n cap (zs.set i y):=by
 have hl:=h.length;have hc:=h.cellAt hi;refine⟨by simp[hl],h.le,h.max,by simp[World.setCell];exact h.blk,fun j hj=>?_,fun j hj=>?_,fun j hj=>by rw[World.frozen?_setCell];exact h.free j hj⟩
 ·by_cases e:i=j
  ·subst e
   rw[World.cell?_setCell_same _ _ _ hc];simp[show i<zs.length by omega]
  ·rw[World.cell?_setCell_other _ _ _ _ (by simp[e]),h.cell j hj]
   simp[e]
 ·by_cases e:i=j
  ·subst e;rw[World.cell?_setCell_same _ _ _ hc];rfl
  ·rw[World.cell?_setCell_other _ _ _ _ (by simp[e])];exact h.some j hj
theorem nS (w:aI) (T:TypeId):OI (w.alloc (aH #[] T)) w.heap.size 0 0 0 [] :=
 ⟨rfl,cO _,cZ _,by simp,fun i hi=>by omega,fun i hi=>by omega,fun i hi=>by omega⟩
theorem pF {w: aI} {xs: List Int} (h:∀ i,i<xs.length->w.cell? ⟨b,off+i,ak⟩=au (ah aA (el xs i))) (j:Nat) (u:aJ) (hu:(xs.map (dB aA))[j]?=au u):w.cell? ((⟨b,off,ak⟩:dH).add j)=au u:=by
 have hj:j<xs.length:=by
  have:=(List.getElem?_eq_some_iff.1 hu).1;simpa using this
 rw[zD,h j hj];simp only[List.getElem?_map,aV hj,Option.map_some,Option.some.injEq] at hu;rw[qX hj,<- hu]
theorem oq {w: aI} (h:Below B w w1) (hg:w1.grownBy w2 (au g)) (hB:B<=g) (hs:B<=w1.heap.size):Below B w w2 :=
 ⟨hg.os.trans h.os,hg.tape.trans h.tape,hg.output.trans h.output,bZ h.size hg.size,fun k hk=>(hg.block k (by omega) (by simp;omega)).trans (h.block k hk)⟩
def Dj (w w':aI) (e:Ending) (Z:List Int):Prop:=∃ g off c,e=aK (aj (au ⟨g,off,ak⟩) Z.length c)/\w.heap.size<=g/\OI w' g off Z.length c Z/\Below w.heap.size w w'
theorem Tryz.info2n:(Tryz.prog.info? 2).map (fun i=>(i.zero,i.size,i.bytes))=au (au (ah aA 0),1,8):=by kernel_rfl
theorem jX {T: Nat} {z: aJ} (h:(Tryz.prog.info? T).map (fun i=>(i.zero,i.size,i.bytes))=au (au z,s,b)):∃ i,Tryz.prog.info? T=au i/\i.zero=au z/\i.size=s/\i.bytes=b:=by
 obtain⟨i,hi,hh⟩:=Option.map_eq_some_iff.1 h;simp only[Prod.mk.injEq] at hh;exact⟨i,hi,hh.1,hh.2.1,hh.2.2⟩
def Bx (w:aI) (B:Nat) (T:TypeId) (cs:Array aJ):Prop:=w.heap[B]?=au (aH cs T (0,0))
theorem Bx.lt {w: aI} (h:Bx w B T cs):B<w.heap.size:=(Array.getElem?_eq_some_iff.1 h).1
theorem Bx.cell {w: aI} (h:Bx w B T cs) (i:Nat):w.cell? ⟨B,i,ak⟩=cs[i]?:=by simp[World.cell?,show w.heap[B]?=_ from h]
theorem Bx.at {w: aI} (h:Bx w B T cs) (i:Nat) (hi:cs[i]?=au v):w.cell? ⟨B,i,ak⟩=au v:=(h.cell i).trans hi
theorem Bx.f {w: aI} (h:Bx w B T cs) (i:Nat):w.frozen? ⟨B,i,ak⟩=aC:=by simp[World.frozen?,show w.heap[B]?=_ from h]
theorem Bx.new (w:aI) (T:TypeId) (cs:Array aJ):Bx (w.alloc (aH cs T)) w.heap.size T cs:=heap_alloc_new w _
theorem Bx.grown {w: aI} (h:Bx w B T cs) (hg:w.grownBy w' r) (hne:au B≠r):Bx w' B T cs:=(hg.block B h.lt hne).trans h
theorem Bx.alloc {w: aI} (h:Bx w B T cs) (o:Obj):Bx (w.alloc o) B T cs:=h.grown (World.grownBy_alloc w o ak) (by simp)
theorem Bx.below {w: aI} (h:Bx w B T cs) (hb:Below w.heap.size w w'):Bx w' B T cs:=(hb.block B h.lt).trans h
theorem below_of_grown {w: aI} {v: aI} (h:Below B v w) (hg:w.grownBy w' r) (hr:∀ k,r=au k->B<=k) (hs:B<=w.heap.size):Below B v w' :=
 ⟨hg.os.trans h.os,hg.tape.trans h.tape,hg.output.trans h.output,bZ h.size hg.size,fun k hk=>(hg.block k (by omega) (fun e=>by have:=hr k e.symm;omega)).trans (h.block k hk)⟩
end Go.Proofs.YtafimeakbdmkjaaGreat