/-
  Texts in one.
-/
import Derived.Test.YtafimeakbdmkjaaGreatRows
import Derived.WalkKit
import Derived.ProofKit
import Derived.Below
import Derived.Lib.MinMax
import Derived.Deep.QuietTactic
import Derived.BigQuiet
import Derived.WalkLawsBesides
import Derived.Deep.OwnRows
import Derived.OpenShut
import Derived.Deep.AppendLies
import Derived.Deep.RegionHeld3
import Derived.Deep.DrawnRows
import Derived.ArgAppend
import Derived.Laws.IdiomCopy
import Derived.Shelf.SlSortCmp.QuietGrown
import Derived.Lib.AppendZeros
import Derived.Deep.LoopGhost
import Derived.Laws.IdiomStrings
namespace Go.Proofs.YtafimeakbdmkjaaGreat
open _root_.Array renaming getElem?_eq_some_iff->aX
open Bool renaming and_eq_true->aU2,false->aC,true->aB
open Go renaming Addr->ba5,Calls->ba3,Value->aJ,World->aI,maxLen->ba2
open Go.Addr.mk renaming injEq->aX6
open Go.Builtin renaming append_->aV5
open Go.Ending renaming returned->aK
open Go.IntKind renaming i64->aA
open Go.Obj renaming cells->aH
open Go.Proofs.Tryz renaming prog->aZ8,underlying41->dK
open Go.Region renaming wanted->aY0
open Go.RowKit renaming Hid->aG,intOf->ba4
open Go.RowKit.Below renaming refl->aZ5
open Go.Value renaming bool->aF,int->aZ9,int->ah,oneCell'->aX4,pointer->aO,slice->aj,string->aN
open Go.Value.slice renaming injEq->aU0
open Go.World renaming block_lt_of_cell?->bG,cell?_of_block->bT,cell?_setCell_other->bg
open Iff renaming rfl->ba1
open Int renaming mul_nonneg->aW9
open List renaming all_eq_true->aU3,append_assoc->aT5,drop_zero->aX0,eq_nil_of_length_eq_zero->aT,flatMap_cons->aT6,foldl_cons->aV6,getElem?_append_left->aY,getElem?_append_right->aW,getElem?_eq_getElem->bC,getElem?_eq_none->bK,getElem?_take->dG,length_append->dB,length_cons->aU6,length_eq_zero_iff->bI,length_set->aV3,length_take->aU5,map_cons->aX8,mem_cons->aX5,mem_cons_of_mem->bV,nil_append->aW1,pairwise_cons->dI,range->aZ6,range_succ->aW2,replicate->aW5,take_append_drop->bQ,take_of_length_le->bJ,take_succ_eq_append_getElem->aS
open Nat renaming add_assoc->aX9,add_mul->aZ4,add_zero->aY5,le_refl->aZ0,le_trans->aY2,lt_of_lt_of_le->dJ,lt_or_ge->aY6,lt_succ_iff_lt_or_eq->bD,mod_lt->aZ7,mul_le_mul_right->cO,zero_add->aY7,zero_le->aZ1
open Option renaming none->ak,some->au
set_option linter.unusedVariables false
set_option linter.unusedSimpArgs false
open Go.RowKit Go.Sort
set_option maxRecDepth 100000
set_option maxHeartbeats 12800000
variable {P:Program} {q x:Int} {E:Ending} {u v z:aJ} {B b base c g hi i j k lo off p s:Nat} {h ys zs:List Int} {X w1 w2:aI} {G r:Option Nat} {T:TypeId} {us:List aJ} {α:Type}
theorem dP {p: Prop} (h:p):Go.RowKit.Hid p:=h
theorem fV {f: FuncId} {x: Array aJ} {w V: aI} {Q: Ending->aI->Prop} (h:ba3 P f x w fun e w'=>e=E/\w'=V) (k:Q E V):ba3 P f x w Q:=h.mono (by rintro e w' ⟨rfl, rfl⟩; exact k)
theorem fM {w w': aI} {a: ba5} (h:Go.RowKit.Below w.heap.size w w') (k:w.cell? a=au v):w'.cell? a=au v:=(h.cell (bG _ _ k)).trans k
theorem zzg {f: FuncId} {x: Array aJ} {w: aI} {R: aI->Prop} {Q: Ending->aI->Prop} (h:ba3 P f x w fun e w'=>e=E/\R w') (k:∀ w', R w'->Q E w'):ba3 P f x w Q:=h.mono (by rintro e w' ⟨rfl, hr⟩; exact k w' hr)
theorem eP {v w w': aI} (h:Go.RowKit.Below v.heap.size v w) (k:Go.RowKit.Below w.heap.size w w'):Go.RowKit.Below v.heap.size v w':=h.trans (k.mono h.size)
section
open Go.RowKit
def el (xs:List Int) (i:Nat):Int:=xs.getD i 0
def Vec (w:aI) (a:Option ba5) (len:Nat) (xs:List Int):Prop :=
 xs.length=len/\(∀ x∈xs,-9223372036854775808<=x/\x<=9223372036854775807) /\
  (len=0\/∃ b off,a=au ⟨b,off,ak⟩/\∀ i,i<len->w.cell? ⟨b,off+i,ak⟩=au (ah aA (el xs i)))
theorem dZ {a b: Bool} (h:a=b):Ending.returned (aF a)=aK (aF b):=by rw[h]
theorem lJ {k: IntKind} {a b: Int} (h:a=b):Ending.returned (.int k a)=aK (.int k b):=by rw[h]
def inB (x lo hi:Int):Bool:=decide (lo<=x)&&decide (x<=hi)
def okB (xs:List Int):Bool:=decide (1<=xs.length)&&decide (xs.length<=8)&&xs.all (fun x=>inB x 0 1000000)
def zQ (x:Int) (xs:List Int):Int:=xs.foldl min x
def hiL (x:Int) (xs:List Int):Int:=xs.foldl max x
theorem uq {xs: List Int} (h:i<xs.length):el xs i=xs[i]:=by simp[el,h]
theorem kM {xs: List Int} (h:i<xs.length):el xs i∈xs:=by
 rw[uq h];exact List.getElem_mem h
theorem take_snoc {xs: List Int} (h:k<xs.length):xs.take (k+1)=xs.take k++[el xs k]:=by
 rw[aS h,uq h]
theorem Zg (x:Int) (xs:List Int) (y:Int):zQ x (xs++[y])=min (zQ x xs) y:=by simp[zQ]
theorem NT (x:Int) (xs:List Int) (y:Int):hiL x (xs++[y])=max (hiL x xs) y:=by simp[hiL]
theorem uZ {xs: List Int} (h:xs.length<1\/8<xs.length):okB xs=aC:=by
 unfold okB;rcases h with h|h<;>simp<;>omega
theorem NU {xs: List Int} (hk:k<xs.length) (h:inB (el xs k) 0 1000000=aC):okB xs=aC:=by
 unfold okB
 have:(xs.all fun x=>inB x 0 1000000)=aC:=by
  rw[List.all_eq_false];exact⟨_,kM hk,by simp[h]⟩
 simp[this]
theorem xY {xs: List Int} (h1:1<=xs.length) (h8:xs.length<=8) (h:∀ j,j<xs.length->inB (el xs j) 0 1000000=aB):okB xs=aB:=by
 unfold okB
 have:(xs.all fun x=>inB x 0 1000000)=aB:=by
  rw[aU3];intro x hx;obtain⟨i,hi,rfl⟩:=List.getElem_of_mem hx;have:=h i hi
  rwa [uq hi] at this
 simp[this,h1,h8]
theorem gG (x lo hi:Int) (w:aI) :
  ba3 aZ8 40 #[ah aA x,ah aA lo,ah aA hi] w fun e w'=>e=aK (aF (inB x lo hi))/\w'=w:=by
 unfold inB;by_cases h:lo<=x
 ·go_enter Tryz.func40,Tryz.ntmps40
  go_wp2;go_ret
  exact⟨dZ (by simp[h]),rfl⟩
 ·have h':decide (lo<=x)=aC:=by simpa using h
  go_enter Tryz.func40,Tryz.ntmps40
  go_wp2;go_ret
  exact⟨dZ (by simp),rfl⟩
end
section
open Go.RowKit
theorem pG (a:Option ba5) (len cap:Nat) (xs:List Int) (w:aI) (hv:Vec w a len xs) (hm:len<=ba2) :
  ba3 aZ8 84 #[aj a len cap] w fun e w'=>e=aK (aF (okB xs))/\w'=w:=by
 unfold ba2 at hm;obtain⟨hlen,hb,hcs⟩:=hv;by_cases h1:(len:Int)<1
 ·go_enter Tryz.func84,Tryz.ntmps84
  go_wp2;go_ret
  exact⟨dZ (by rw[uZ (by omega)]),rfl⟩
 ·have h1':decide ((len:Int)<1)=aC:=by simpa using h1
  by_cases h8:(8:Int)<len
  ·go_enter Tryz.func84,Tryz.ntmps84
   go_wp2;go_ret
   exact⟨dZ (by rw[uZ (by omega)]),rfl⟩
  ·have h8':decide ((8:Int)<len)=aC:=by simpa using h8
   rcases hcs with h0|⟨b,off,rfl,hc⟩
   ·omega
   ·have HL:aG (xs.length=len):=hlen
    clear hlen;go_enter Tryz.func84,Tryz.ntmps84
    go_wp2
    go_loop [3] (fun i=>∃ k:Nat,k<=len/\i=ah aA k/\∀ j,j<k->inB (el xs j) 0 1000000=aB) (fun i=>len-(ba4 i).toNat)
    case atStart=>exact⟨0,aZ1 _,rfl,fun j hj=>by omega⟩
    case round =>
     obtain⟨k,hk,rfl,hall⟩:=hrel;have HA:=dP hall;clear hall;by_cases hlt:k<len
     ·have hck:=hc k hlt
      cases hin:inB (el xs k) 0 1000000
      ·go_wp2_with (go_at_call 40;refine (gG _ _ _ _).mono ?_;rintro e w' ⟨rfl,rfl⟩)
       go_ret
       exact⟨dZ (by rw[NU (by rw[HL.out];exact hlt) hin]),rfl⟩
      ·go_wp2_with (go_at_call 40;refine (gG _ _ _ _).mono ?_;rintro e w' ⟨rfl,rfl⟩)
       go_round
       case rel => exact ⟨k + 1,by omega,by go_num,fun j hj => by
        rcases bD.1 hj with h|h
        ·exact HA.out j h
        ·rw[h];exact hin⟩
       case measure=>simp[ba4];omega
     ·go_wp2
      go_ret
      exact⟨dZ (by rw[xY (by rw[HL.out];omega) (by rw[HL.out];omega) (fun j hj=>HA.out j (by rw[HL.out] at hj;omega))]),rfl⟩
theorem KX (x : Int) (a : Option ba5) (len cap : Nat) (xs : List Int) (w : aI) (hv : Vec w a len xs) (hm : len <= ba2) :
    ba3 aZ8 180 #[ah aA x, aj a len cap] w fun e w'=>e=aK (ah aA (zQ x xs))/\w'=w:=by
  unfold ba2 at hm;obtain⟨hlen, hb, hcs⟩:=hv;have HL:=dP hlen;clear hlen hb;rcases hcs with h0|⟨b, off, rfl, hc⟩
  all_goals
    go_enter Tryz.func180, Tryz.ntmps180
    go_wp2
    go_loop [5, 7, 11] (fun m n i=>∃ k:Nat, k<=len/\i=ah aA k/\m=ah aA (zQ x (xs.take k))) (fun _ _ i=>len-(ba4 i).toNat)
    case atStart=>exact⟨0, aZ1 _, rfl, rfl⟩
    case round =>
      obtain⟨k, hk, rfl, rfl⟩:=hrel;by_cases hlt:k<len
      · first
          | omega
          | (have hck := hc k hlt
             have HS:aG (zQ x (xs.take (k+1))=min (zQ x (xs.take k)) (el xs k)):=by
               rw[aG, take_snoc (by rw[HL.out]; exact hlt), Zg]
             go_wp2
             go_round
             case rel=>exact⟨k+1, by omega, by go_num, by rw[HS.out]⟩
             case measure=>simp[ba4]; omega)
      · go_wp2
        go_ret
        exact⟨lJ (by rw[bJ (by rw[HL.out]; omega)]), rfl⟩
theorem NV (x : Int) (a : Option ba5) (len cap : Nat) (xs : List Int) (w : aI) (hv : Vec w a len xs) (hm : len <= ba2) :
    ba3 aZ8 164 #[ah aA x, aj a len cap] w fun e w'=>e=aK (ah aA (hiL x xs))/\w'=w:=by
  unfold ba2 at hm;obtain⟨hlen, hb, hcs⟩:=hv;have HL:=dP hlen;clear hlen hb;rcases hcs with h0|⟨b, off, rfl, hc⟩
  all_goals
    go_enter Tryz.func164, Tryz.ntmps164
    go_wp2
    go_loop [5, 7, 11] (fun m n i=>∃ k:Nat, k<=len/\i=ah aA k/\m=ah aA (hiL x (xs.take k))) (fun _ _ i=>len-(ba4 i).toNat)
    case atStart=>exact⟨0, aZ1 _, rfl, rfl⟩
    case round =>
      obtain⟨k, hk, rfl, rfl⟩:=hrel;by_cases hlt:k<len
      · first
          | omega
          | (have hck := hc k hlt
             have HS:aG (hiL x (xs.take (k+1))=max (hiL x (xs.take k)) (el xs k)):=by
               rw[aG, take_snoc (by rw[HL.out]; exact hlt), NT]
             go_wp2
             go_round
             case rel=>exact⟨k+1, by omega, by go_num, by rw[HS.out]⟩
             case measure=>simp[ba4]; omega)
      · go_wp2
        go_ret
        exact⟨lJ (by rw[bJ (by rw[HL.out]; omega)]), rfl⟩
theorem Vec.tail {w:aI} {b off len cap:Nat} {xs:List Int} (hlen:xs.length=len) (hb:∀ x∈xs,-9223372036854775808<=x/\x<=9223372036854775807)
  (hc:∀ i,i<len->w.cell? ⟨b,off+i,ak⟩=au (ah aA (el xs i))) (hcap:len<=cap) (n:Nat) :
  Vec (w.drewN n) (if cap=1 then au ⟨b,off,ak⟩ else au ⟨b,off+1,ak⟩) (len-1) xs.tail:=by
 refine⟨by simp[hlen],fun x hx=>hb x (List.mem_of_mem_tail hx), ?_⟩
 by_cases h:cap=1
 ·left;omega
 ·right
  refine⟨b,off+1,by simp[h],fun i hi=>?_⟩
  have:=hc (i+1) (by omega)
  rw[show off+(i+1)=off+1+i from by omega] at this
  simp only[World.cell?_drewN]
  rw[this];simp[el]
theorem IC (b off len cap:Nat) (xs:List Int) (w:aI) (hlen:xs.length=len) (hb:∀ x∈xs,-9223372036854775808<=x/\x<=9223372036854775807)
  (hc:∀ i,i<len->w.cell? ⟨b,off+i,ak⟩=au (ah aA (el xs i))) (h1:1<=len) (hcap:len<=cap) (hm:cap<=ba2) :
  ba3 aZ8 163 #[aj (au ⟨b,off,ak⟩) len cap] w fun e w'=>e=aK (ah aA (zQ (el xs 0) xs.tail))/\∃ n,w'=w.drewN n:=by
 have hT:=Vec.tail hlen hb hc hcap;unfold ba2 at hm;have hc0:=hc 0 (by omega)
 simp only[aY5] at hc0;have hp:(0:Int)<len:=by omega
 have hp1:(1:Int)<=len:=by omega
 have hp2:(len:Int)<=cap:=by omega
 go_enter Tryz.func163,Tryz.ntmps163
 go_wp2_with fail
 go_quiet ((go_at_call 180;exact (KX _ _ _ _ _ _ (hT _) (by unfold ba2;omega)).mono (fun e w' h=>⟨h.1,_,h.2⟩)))
 go_wp2
 all_goals
  go_ret
  exact⟨rfl,_,rfl⟩
theorem rO (b off len cap:Nat) (xs:List Int) (w:aI) (hlen:xs.length=len) (hb:∀ x∈xs,-9223372036854775808<=x/\x<=9223372036854775807)
  (hc:∀ i,i<len->w.cell? ⟨b,off+i,ak⟩=au (ah aA (el xs i))) (h1:1<=len) (hcap:len<=cap) (hm:cap<=ba2) :
  ba3 aZ8 131 #[aj (au ⟨b,off,ak⟩) len cap] w fun e w'=>e=aK (ah aA (hiL (el xs 0) xs.tail))/\∃ n,w'=w.drewN n:=by
 have hT:=Vec.tail hlen hb hc hcap;unfold ba2 at hm;have hc0:=hc 0 (by omega)
 simp only[aY5] at hc0;have hp:(0:Int)<len:=by omega
 have hp1:(1:Int)<=len:=by omega
 have hp2:(len:Int)<=cap:=by omega
 go_enter Tryz.func131,Tryz.ntmps131
 go_wp2_with fail
 go_quiet ((go_at_call 164;exact (NV _ _ _ _ _ _ (hT _) (by unfold ba2;omega)).mono (fun e w' h=>⟨h.1,_,h.2⟩)))
 go_wp2
 all_goals
  go_ret
  exact⟨rfl,_,rfl⟩
theorem Zh {xs: List Int} (h1:1<=xs.length) (h8:xs.length<=8) :
  okB xs=(decide (0<=zQ (el xs 0) xs.tail)&&decide (hiL (el xs 0) xs.tail<=1000000)):=by
 have lo:∀ (l:List Int) (x m:Int),m<=zQ x l↔m<=x/\∀ y∈l,m<=y:=by
  intro l;induction l with
  | nil=>intro x m;simp[zQ]
  | cons y l ih=>intro x m;have:=ih (min x y) m;unfold zQ at this ⊢;simp only[aV6,aX5,forall_eq_or_imp];rw[this,Int.le_min];exact⟨fun h=>⟨h.1.1,h.1.2,h.2⟩,fun h=>⟨⟨h.1,h.2.1⟩,h.2.2⟩⟩
 have hi:∀ (l:List Int) (x m:Int),hiL x l<=m↔x<=m/\∀ y∈l,y<=m:=by
  intro l;induction l with
  | nil=>intro x m;simp[hiL]
  | cons y l ih=>intro x m;have:=ih (max x y) m;unfold hiL at this ⊢;simp only[aV6,aX5,forall_eq_or_imp];rw[this,Int.max_le];exact⟨fun h=>⟨h.1.1,h.1.2,h.2⟩,fun h=>⟨⟨h.1,h.2.1⟩,h.2.2⟩⟩
 match xs,h1,h8 with
 | x::l,h1,h8 =>
  rw[Bool.eq_iff_iff];simp only[aU2,decide_eq_true_eq,List.tail_cons,lo,hi]
  unfold okB inB;simp only[aU2,decide_eq_true_eq,List.all_cons,aU3]
  have e:el (x::l) 0=x:=rfl;rw[e]
  constructor
  ·rintro⟨_,⟨a,b⟩,c⟩;exact⟨⟨a,fun y hy=>(c y hy).1⟩,b,fun y hy=>(c y hy).2⟩
  ·rintro⟨⟨a,c⟩,b,d⟩;exact⟨⟨h1,h8⟩,⟨a,b⟩,fun y hy=>⟨c y hy,d y hy⟩⟩
theorem xE (a:Option ba5) (len cap:Nat) (xs:List Int) (w:aI) (hv:Vec w a len xs) (hcap:len<=cap) (hm:cap<=ba2) :
  ba3 aZ8 130 #[aj a len cap] w fun e w'=>e=aK (aF (okB xs))/\∃ n,w'=w.drewN n:=by
 obtain⟨hlen,hb,hcs⟩:=hv;by_cases h1:(len:Int)<1
 ·go_enter Tryz.func130,Tryz.ntmps130
  go_wp2;go_ret
  exact⟨dZ (by rw[uZ (by omega)]),0,rfl⟩
 ·have h1':decide ((len:Int)<1)=aC:=by simpa using h1
  by_cases h8:(8:Int)<len
  ·go_enter Tryz.func130,Tryz.ntmps130
   go_wp2;go_ret
   exact⟨dZ (by rw[uZ (by omega)]),0,rfl⟩
  ·have h8':decide ((8:Int)<len)=aC:=by simpa using h8
   rcases hcs with h0|⟨b,off,rfl,hc⟩
   ·omega
   ·have HE:aG (okB xs=(decide (0<=zQ (el xs 0) xs.tail)&&decide (hiL (el xs 0) xs.tail<=1000000))):=Zh (by omega) (by omega)
    have HL:=dP hlen;clear hlen;by_cases hl:0<=zQ (el xs 0) xs.tail
    ·go_enter Tryz.func130,Tryz.ntmps130
     go_wp2_with (first|(go_at_call 163;refine (IC b off len cap xs _ HL.out hb (by exact hc) (by omega) hcap hm).mono ?_;rintro e w' ⟨rfl,n1,rfl⟩)|(go_at_call 131;refine (rO b off len cap xs _ HL.out hb (by exact hc) (by omega) hcap hm).mono ?_;rintro e w' ⟨rfl,n2,rfl⟩))
     go_ret
     exact⟨dZ (by rw[HE.out];simp[hl]),_,rfl⟩
    ·have hl':decide (0<=zQ (el xs 0) xs.tail)=aC:=by simpa using hl
     go_enter Tryz.func130,Tryz.ntmps130
     go_wp2_with (first|(go_at_call 163;refine (IC b off len cap xs _ HL.out hb (by exact hc) (by omega) hcap hm).mono ?_;rintro e w' ⟨rfl,n1,rfl⟩)|(go_at_call 131;refine (rO b off len cap xs _ HL.out hb (by exact hc) (by omega) hcap hm).mono ?_;rintro e w' ⟨rfl,n2,rfl⟩))
     go_ret
     exact⟨dZ (by rw[HE.out];simp[hl']),_,rfl⟩
theorem Ux (a:Option ba5) (len cap:Nat) (xs:List Int) (w:aI) (hv:Vec w a len xs) (hcap:len<=cap) (hm:cap<=ba2) :
  ba3 aZ8 132 #[aj a len cap] w fun e w'=>e=aK (aF (okB xs))/\∃ n,w'=w.drewN n:=by
 go_enter Tryz.func132,Tryz.ntmps132
 go_wp2_with (go_at_call 130;refine (xE a len cap xs _ hv hcap hm).mono ?_;rintro e w' ⟨rfl,n,rfl⟩)
 go_ret
 exact⟨rfl,_,rfl⟩
end
section
open Go.RowKit
theorem Tryz.info2:(Tryz.prog.info? 2).map (fun i=>(i.zero,i.size,i.bytes))=au (au (ah aA 0),1,8):=by kernel_rfl
def RowOf (w:aI) (b:Nat) (xs:List Int):Prop:=w.rowIs b 2 xs.length (fun i=>ah aA (el xs i))
def Fits (xs:List Int):Prop:=∀ x∈xs,-9223372036854775808<=x/\x<=9223372036854775807
theorem Vec.below {w w': aI} {a: Option ba5} {len: Nat} {xs: List Int} (h:Vec w a len xs) (hb:Below B w w') (hB:w.heap.size<=B):Vec w' a len xs:=by
 obtain⟨h1,h2,h3⟩:=h;refine⟨h1,h2, ?_⟩;rcases h3 with h0|⟨b,off,rfl,hc⟩
 ·exact .inl h0
 ·refine .inr ⟨b,off,rfl,fun i hi=>?_⟩
  have hlt:=bG _ _ (hc i hi);rw[hb.cell (p:=⟨b,off+i,ak⟩) (dJ hlt hB)];exact hc i hi
theorem Vec.drewN {w: aI} {a: Option ba5} {len: Nat} {xs: List Int} (h:Vec w a len xs) (n:Nat):Vec (w.drewN n) a len xs:=h
def part (xs:List Int) (k:Nat):Nat->aJ:=fun j=>if j<k then ah aA (el xs j) else ah aA 0
theorem Uy {w: aI} {xs: List Int}:(w.alloc (aH (madeCells #[ah aA 0] xs.length) 2)).rowIs w.heap.size 2 xs.length (part xs 0) :=
 (World.rowIs_made w (ah aA 0) xs.length 2).congr (fun j _=>by simp[part])
theorem VO {w: aI} {xs: List Int} (h:w.rowIs b 2 xs.length (part xs k)):(w.setCell ⟨b,k,ak⟩ (ah aA (el xs k))).rowIs b 2 xs.length (part xs (k+1)):=by
 refine (h.set k _).congr (fun j _=>?_)
 simp only[part]
 by_cases e:j=k
 ·subst e;simp
 ·rw[if_neg e]
  by_cases hlt:j<k
  ·rw[if_pos hlt,if_pos (by omega)]
  ·rw[if_neg hlt,if_neg (by omega)]
theorem VP {w: aI} {xs: List Int} (h:w.rowIs b 2 xs.length (part xs k)) (hk:xs.length<=k):RowOf w b xs :=
 World.rowIs.congr h (fun j hj=>by simp only[part];rw[if_pos (by omega)])
def Uz (k:IntKind) (w:aI) (a:Option ba5) (len cap:Nat) (zs:List Int):Prop :=
 (a=ak/\len=0/\cap=0/\zs=[]) \/
 ∃ x,a=au x/\len<=cap/\cap<=ba2/\zs.length=cap/\(∀ i,i<zs.length->w.cell? (x.add i)=au (.int k (zs.getD i 0)))/\∀ n∈zs,(Lit.int k n).wf=aB
theorem Eu {xs: List Int} (h:xs.length=ys.length) (he:∀ j,j<xs.length->el xs j=el ys j):xs=ys:=by
 refine List.ext_getElem h (fun i h1 h2=>?_)
 have:=he i h1
 rwa [uq h1,uq h2] at this
end
section
open Go.RowKit
theorem fO {n: Nat} {a w: aI} (h:Below B a w):Below B a (w.drewN n):=⟨h.os,h.tape,h.output,h.size,h.block⟩
end
section
open Go.RowKit
def vG (xs ys:List Int):Bool:=okB xs&&okB ys&&decide (xs.length=ys.length)
theorem mJ {xs: List Int} (h:okB xs=aB):1<=xs.length/\xs.length<=8:=by
 unfold okB at h;simp only[aU2,decide_eq_true_eq] at h;exact h.1
theorem Bg {xs: List Int} (h:vG xs ys=aB):okB xs=aB/\okB ys=aB/\xs.length=ys.length:=by
 unfold vG at h;simp only[aU2,decide_eq_true_eq] at h;exact⟨h.1.1,h.1.2,h.2⟩
theorem Vec.cells {w: aI} {a: Option ba5} {len: Nat} {xs: List Int} (h:Vec w a len xs) (h1:1<=len) :
  ∃ b off,a=au ⟨b,off,ak⟩/\∀ i,i<len->w.cell? ⟨b,off+i,ak⟩=au (ah aA (el xs i)):=by
 obtain⟨_,_,h0|h⟩:=h
 ·omega
 ·exact h
theorem KY (a a':Option ba5) (len cap len' cap':Nat) (xs ys:List Int) (w:aI) (hv:Vec w a len xs) (hv':Vec w a' len' ys) (hm:len<=ba2) (hm':len'<=ba2) :
  ba3 aZ8 179 #[aj a len cap,aj a' len' cap'] w fun e w'=>e=aK (aF (vG xs ys))/\w'=w:=by
 have HL:=dP hv.1;have BZ:=dP hv'.1;unfold vG
 cases hx:okB xs
 ·go_enter Tryz.func179,Tryz.ntmps179
  go_wp2_with fail
  refine (pG _ _ _ xs _ hv hm).mono ?_;rintro e w1' ⟨rfl,rfl⟩;go_wp2_with fail
  go_ret
  exact⟨dZ (by simp),rfl⟩
 ·cases hy:okB ys
  ·go_enter Tryz.func179,Tryz.ntmps179
   go_wp2_with fail
   refine (pG _ _ _ xs _ hv hm).mono ?_;rintro e w1' ⟨rfl,rfl⟩;go_wp2_with fail
   refine (pG _ _ _ ys _ hv' hm').mono ?_;rintro e w1' ⟨rfl,rfl⟩;go_wp2_with fail
   go_ret
   exact⟨dZ (by simp),rfl⟩
  ·go_enter Tryz.func179,Tryz.ntmps179
   go_wp2_with fail
   refine (pG _ _ _ xs _ hv hm).mono ?_;rintro e w1' ⟨rfl,rfl⟩;go_wp2_with fail
   refine (pG _ _ _ ys _ hv' hm').mono ?_;rintro e w1' ⟨rfl,rfl⟩;go_wp2_with fail
   go_ret
   exact⟨dZ (by rw[HL.out,BZ.out,Bool.eq_iff_iff];simp;omega),rfl⟩
theorem fits_any (a a':Option ba5) (len cap len' cap':Nat) (xs ys:List Int) (w:aI) (hv:Vec w a len xs) (hv':Vec w a' len' ys) (hc:len<=cap) (hc':len'<=cap') (hm:cap<=ba2) (hm':cap'<=ba2) :
  ba3 aZ8 200 #[aj a len cap,aj a' len' cap'] w fun e w'=>e=aK (aF (vG xs ys))/\∃ n,w'=w.drewN n:=by
 have HL:=dP hv.1;have BZ:=dP hv'.1;unfold vG;by_cases hl:len=len'
 ·have hd:((len:Int)==(len':Int))=aB:=by simp[hl]
  have HD:=dP hl;clear hl
  cases hx:okB xs
  ·go_enter Tryz.func200,Tryz.ntmps200
   go_wp2_with fail
   refine (xE _ _ _ xs _ hv hc hm).mono ?_;rintro e w1' ⟨rfl,n1,rfl⟩;go_wp2_with fail
   go_ret
   exact⟨dZ (by simp),_,rfl⟩
  ·go_enter Tryz.func200,Tryz.ntmps200
   go_wp2_with fail
   refine (xE _ _ _ xs _ hv hc hm).mono ?_;rintro e w1' ⟨rfl,n1,rfl⟩;go_wp2_with fail
   refine (xE _ _ _ ys _ (hv'.drewN n1) hc' hm').mono ?_;rintro e w1' ⟨rfl,n2,rfl⟩;go_wp2_with fail
   go_ret
   exact⟨dZ (by rw[HL.out,BZ.out,HD.out];simp),_,rfl⟩
 ·have hd:((len:Int)==(len':Int))=aC:=by simp;omega
  go_enter Tryz.func200,Tryz.ntmps200
  go_wp2_with fail
  go_ret
  exact⟨dZ (by rw[HL.out,BZ.out];simp[hl]),0,rfl⟩
end
section
open Go.RowKit
def pX (xs:List Int):Int:=xs.foldl (·+·) 0
def NW (xs:List Int):Int:=if okB xs=aB then pX xs else -1
theorem Ew (xs:List Int) (y:Int):pX (xs++[y])=pX xs+y:=by simp[pX]
theorem wF {xs: List Int} (h:okB xs=aB) (hi:i<xs.length):0<=el xs i/\el xs i<=1000000:=by
 unfold okB inB at h;simp only[aU2,decide_eq_true_eq,aU3] at h;exact h.2 _ (kM hi)
theorem VQ {xs: List Int} (h:okB xs=aB) (k:Nat) (hk:k<=xs.length):0<=pX (xs.take k)/\pX (xs.take k)<=1000000*k:=by
 induction k with
 | zero=>simp[pX]
 | succ k ih =>
  have:=ih (by omega)
  have hb:=wF h (i:=k) (by omega)
  rw[take_snoc (by omega),Ew]
  omega
theorem KZ (x y:Int) (w:aI):ba3 aZ8 45 #[ah aA x,ah aA y] w fun e w'=>e=aK (ah aA (min x y))/\w'=w:=by
 by_cases h:x<y
 all_goals
  go_enter Tryz.func45,Tryz.ntmps45
  go_wp2;go_ret
  exact⟨lJ (by omega),rfl⟩
theorem Ey (x y:Int) (w:aI):ba3 aZ8 30 #[ah aA x,ah aA y] w fun e w'=>e=aK (ah aA (max x y))/\w'=w:=by
 by_cases h:y<x
 all_goals
  go_enter Tryz.func30,Tryz.ntmps30
  go_wp2;go_ret
  exact⟨lJ (by omega),rfl⟩
theorem Zi (b off len cap:Nat) (xs:List Int) (w:aI) (hlen:xs.length=len) (hx:okB xs=aB)
  (hc:∀ i,i<len->w.cell? ⟨b,off+i,ak⟩=au (ah aA (el xs i))) :
  ba3 aZ8 134 #[aj (au ⟨b,off,ak⟩) len cap] w fun e w'=>e=aK (ah aA (pX xs))/\w'=w:=by
 have kx:=mJ hx;have HX:=dP hlen;have h1:1<=len:=by omega
 have h8:len<=8:=by omega
 have HO:=dP hx;clear kx hlen hx;go_enter Tryz.func134,Tryz.ntmps134
 go_wp2
 go_loop [3,5,8] (fun m _ i=>∃ k:Nat,k<=len/\i=ah aA k/\m=ah aA (pX (xs.take k))) (fun _ _ i=>len-(ba4 i).toNat)
 case atStart=>exact⟨0,aZ1 _,rfl,rfl⟩
 case round =>
  obtain⟨k,hk,rfl,rfl⟩:=hrel;by_cases hlt:k<len
  ·have hck:=hc k hlt
   have HT:aG (pX (xs.take (k+1))=pX (xs.take k)+el xs k):=by
    rw[aG,take_snoc (by rw[HX.out];exact hlt),Ew]
   have s1:=VQ HO.out k (by rw[HX.out];exact hk)
   have s2:=wF HO.out (i:=k) (by rw[HX.out];exact hlt)
   go_wp2
   go_round
   case rel=>exact⟨k+1,by omega,by go_num,by rw[HT.out]⟩
   case measure=>simp[ba4];omega
  ·go_wp2
   go_ret
   exact⟨lJ (by rw[bJ (by rw[HX.out];omega)]),rfl⟩
theorem QZ (a:Option ba5) (len cap:Nat) (xs:List Int) (w:aI) (hv:Vec w a len xs) (hcap:len<=cap) (hm:cap<=ba2) :
  ba3 aZ8 102 #[aj a len cap] w fun e w'=>e=aK (ah aA (NW xs))/\∃ n,w'=w.drewN n:=by
 have hmf:∀ (fn:Fn) (first cap:Array aJ) (w:aI),(Instr.makeFunc fn first cap).run aZ8 w=.ok (.func fn first cap) w:=fun _ _ _ _=>rfl
 unfold NW
 cases hx:okB xs
 ·go_enter Tryz.func102,Tryz.ntmps102
  go_wp2_with (first|(go_at_call 130;refine (xE a len cap xs _ hv hcap hm).mono ?_;rintro e w' ⟨rfl,n,rfl⟩)|go_in)
  go_ret
  exact⟨lJ (by simp),_,rfl⟩
 ·have kx:=mJ hx
  have HX:=dP hv.1;have h1:1<=len:=by have:=HX.out;omega
  obtain⟨b,off,rfl,hc⟩:=hv.cells h1;go_enter Tryz.func102,Tryz.ntmps102
  go_wp2_with (first|(go_at_call 130;refine (xE _ len cap xs _ hv hcap hm).mono ?_;rintro e w' ⟨rfl,n,rfl⟩)|(go_at_call 134;refine (Zi b off len cap xs _ HX.out hx (by exact hc)).mono ?_;rintro e w' ⟨rfl,rfl⟩)|go_in)
  go_ret
  exact⟨lJ (by simp),_,rfl⟩
end
section
open Go.RowKit
def jn (f:Int->Int->Int) (xs ys:List Int) (k:Nat):List Int:=(aZ6 k).map (fun i=>f (el xs i) (el ys i))
def je (f:Int->Int->Int) (xs ys:List Int):List Int:=if vG xs ys=aB then jn f xs ys xs.length else []
theorem an2 (f:Int->Int->Int) (xs ys:List Int) (k:Nat):jn f xs ys (k+1)=jn f xs ys k++[f (el xs k) (el ys k)]:=by simp[jn,aW2]
theorem mM (f:Int->Int->Int) (xs ys:List Int) (k:Nat):(jn f xs ys k).length=k:=by simp[jn]
theorem UA (f:Int->Int->Int) (xs ys:List Int) {n: Nat} (h:k<n):el (jn f xs ys n) k=f (el xs k) (el ys k):=by simp[jn,el,h]
theorem VR (f:Int->Int->Int) (xs ys:List Int):(je f xs ys).length<=8:=by
 unfold je;by_cases h:vG xs ys=aB
 ·rw[if_pos h,mM];exact (mJ (Bg h).1).2
 ·rw[if_neg h];simp
def OwnAt (w:aI) (g cap:Nat) (zs:List Int):Prop :=
 zs.length<=cap/\cap<=ba2/\∃ cur,w.heap[g]?=au (aH cur 2 (0,0))/\cur.size=cap/\∀ i,i<zs.length->cur[i]?=au (ah aA (el zs i))
theorem OwnAt.lt {w: aI} {cap: Nat} (h:OwnAt w g cap zs):g<w.heap.size:=by
 obtain⟨_,_,c,hb,_⟩:=h;obtain⟨hlt,_⟩:=aX.1 hb;exact hlt
theorem OwnAt.of_block {w w': aI} {cap: Nat} (h:OwnAt w g cap zs) (e:w'.heap[g]?=w.heap[g]?):OwnAt w' g cap zs:=by
 obtain⟨h1,h2,c,hb,h3⟩:=h;exact⟨h1,h2,c,e.trans hb,h3⟩
theorem OwnAt.drewN {w: aI} {cap: Nat} (h:OwnAt w g cap zs) (n:Nat):OwnAt (w.drewN n) g cap zs:=h
theorem OwnAt.cell {w:aI} {g cap:Nat} {zs:List Int} (h:OwnAt w g cap zs) {i:Nat} (hi:i<zs.length):w.cell? ⟨g,i,ak⟩=au (ah aA (el zs i)):=by
 obtain⟨_,_,c,hb,_,hc⟩:=h;simp[World.cell?,hb,hc i hi]
theorem OwnAt.frozen {w:aI} {g cap:Nat} {zs:List Int} (h:OwnAt w g cap zs) (i:Nat):w.frozen? ⟨g,i,ak⟩=aC:=by
 obtain⟨_,_,c,hb,_⟩:=h;simp[World.frozen?,hb]
theorem OwnAt.vec {w: aI} {cap: Nat} (h:OwnAt w g cap zs) (hf:Fits zs):Vec w (au ⟨g,0,ak⟩) zs.length zs :=
 ⟨rfl,hf,.inr ⟨g,0,rfl,fun i hi=>by rw[aY7];exact h.cell hi⟩⟩
theorem OwnAt.set {w: aI} {cap: Nat} (h:OwnAt w g cap zs) (i:Nat) (y:Int):OwnAt (w.setCell ⟨g,i,ak⟩ (ah aA y)) g cap (zs.set i y):=by
 obtain⟨h1,h2,c,hb,hs,hc⟩:=h;refine⟨by simpa using h1,h2,c.setIfInBounds i (ah aA y), ?_,by simpa using hs,fun j hj=>?_⟩
 ·simp[World.setCell,Array.getElem?_modify,hb]
 ·rw[aV3] at hj
  rw[Array.getElem?_setIfInBounds];by_cases e:i=j
  ·subst e;simp[el,hj];omega
  ·rw[if_neg e,hc j hj];simp[el,e]
theorem RowOf.own {w: aI} {xs: List Int} (h:RowOf w b xs) (hm:xs.length<=ba2):OwnAt w b xs.length xs:=by
 obtain⟨c,hb,hn,hc⟩:=h;exact⟨aZ0 _,hm,c,hb,hn,hc⟩
theorem xG {w: aI} {n: Nat} (h:w.ownsRow base 2 1 v n (zs.map (aZ9 aA))) (hn:n=zs.length) (h1:1<=n) :
  ∃ g cap,v=aj (au ⟨g,0,ak⟩) zs.length cap/\base<=g/\OwnAt w g cap zs:=by
 subst hn;rcases h.2 with ⟨_,h0⟩|⟨g,cap,cur,hv,hb,hg,hle,hm,hs,ht⟩
 ·omega
 ·refine⟨g,cap,hv,hb,hle,hm,cur,hg,by omega,fun i hi=>?_⟩
  have hi':i<cur.toList.length:=by simp;omega
  have e:(cur.toList.take (zs.length*1))[i]?=(zs.map (aZ9 aA))[i]?:=by rw[ht]
  rw[dG] at e;rw[if_pos (by omega)] at e
  simp at e
  rw[e];simp[el,hi]
theorem La (w:aI):OwnAt (w.alloc (aH #[] 2)) w.heap.size 0 [] :=
 ⟨aZ0 _,aZ1 _,#[],heap_alloc_new w _,rfl,fun _ hi=>absurd hi (Nat.not_lt_zero _)⟩
theorem IE (w:aI):(w.alloc (aH #[] 2)).ownsRow w.heap.size 2 1 (aj (au ⟨w.heap.size,0,ak⟩) 0 0) 0 [] :=
 ⟨rfl,.inr ⟨w.heap.size,0,#[],rfl,aZ0 _,heap_alloc_new w _,aZ0 _,aZ1 _,rfl,rfl⟩⟩
theorem vN {w: aI} {n: Nat} {l: List aJ} (h:w.ownsRow base 2 1 v n l) (hb:b<base):v.ownBlock≠au b:=by
 intro e;have:=(h.lt b e).1;omega
attribute [local go_sem ↓] Go.wp_at_zero Go.wp_at_succ
theorem NY (a a' : Option ba5) (len cap len' cap' : Nat) (xs ys : List Int) (w : aI) (hv : Vec w a len xs) (hv' : Vec w a' len' ys) (hm : len <= ba2) (hm' : len' <= ba2) :
    ba3 aZ8 152 #[aj a len cap, aj a' len' cap'] w fun e w'=>∃ g c, e=aK (aj (au ⟨g, 0, ak⟩) (je min xs ys).length c)/\w.heap.size<=g/\OwnAt w' g c (je min xs ys)/\Below w.heap.size w w':=by
  have hb0:Below w.heap.size w (w.alloc (aH #[] 2)):=(aZ5 _ _).alloc (aZ0 _) _;have hv0:=hv.below hb0 (aZ0 _);have hv0':=hv'.below hb0 (aZ0 _)
  cases h2:vG xs ys
  · have HP:aG (je min xs ys=[]):=by rw[aG, je, h2]; rfl
    go_enter Tryz.func152, Tryz.ntmps152
    go_wp2_with fail
    refine (KY _ _ _ _ _ _ xs ys _ hv0 hv0' hm hm').mono ?_;rintro e w1 ⟨rfl, hw1⟩;have HW:=dP hw1;clear hw1;go_wp2;go_ret
    refine⟨w.heap.size, 0, by rw[HP.out]; rfl, aZ0 _, ?_, ?_⟩
    · rw[HW.out, HP.out]; exact La w
    · rw[HW.out]; exact hb0
  · obtain⟨ox, oy, hl⟩:=Bg h2
    have kx:=mJ ox;have hlx:=hv.1;have hly:=hv'.1;obtain⟨b, off, rfl, hcx⟩:=hv.cells (by omega)
    obtain⟨b', off', rfl, hcy⟩:=hv'.cells (by omega)
    have HP:aG (je min xs ys=jn min xs ys len):=by rw[aG, je, h2, hlx]; rfl
    have h1:1<=len:=by omega
    have h8:len<=8:=by omega
    have hll:len<=len':=by omega
    obtain⟨i0, hi0, hz0, hz1, hz2⟩:=info_parts Tryz.info2;clear ox oy hl hlx hly kx;go_enter Tryz.func152, Tryz.ntmps152
    go_wp2_with fail
    refine (KY _ _ _ _ _ _ xs ys _ hv0 hv0' hm hm').mono ?_;rintro e w1 ⟨rfl, hw1⟩;have HW:=dP hw1;clear hw1 hv hv' hv0 hv0' hm hm';go_wp2
    go_loopw [5, 6] (fun v i wr=>∃ k:Nat, k<=len/\i=ah aA k/\wr.ownsRow w.heap.size 2 1 v k ((jn min xs ys k).map (aZ9 aA))/\Below w.heap.size w wr) (fun _ i _=>len-(ba4 i).toNat)
    case atStart=>exact⟨0, aZ1 _, rfl, by rw[HW.out]; exact IE w, by rw[HW.out]; exact hb0⟩
    case round =>
      obtain⟨k, hk, rfl, hown, hbel⟩:=hrel;have HB:=dP hbel;have hsz:=hbel.size;clear hbel;by_cases hlt:k<len
      · have lx:=bG _ _ (hcx k hlt)
        have ly:=bG _ _ (hcy k (by omega))
        have ex:wr.cell? ⟨b, off+k, ak⟩=au (ah aA (el xs k)):=(HB.out.cell (p:=⟨b, off+k, ak⟩) lx).trans (hcx k hlt);have ey:wr.cell? ⟨b', off'+k, ak⟩=au (ah aA (el ys k)):=(HB.out.cell (p:=⟨b', off'+k, ak⟩) ly).trans (hcy k (by omega))
        have ax:=vN hown lx;have ay:=vN hown ly;have hi1:(k:Int)<len:=by omega
        have hi2:(k:Int)<len':=by omega
        have aR4:(0:Int)<=k:=by omega
        clear hcx hcy;go_wp2_with fail
        go_region_held3 (fun w'=>w'.cell? ⟨b, off+k, ak⟩=au (ah aA (el xs k))/\w'.cell? ⟨b', off'+k, ak⟩=au (ah aA (el ys k)))
          (first
            | go_keep
            | (go_split_ands
               refine⟨?_, ?_⟩
               · (rw[hgrow.cell_far _ (by simp; omega) (Ne.symm ax)]; assumption)
               · (rw[hgrow.cell_far _ (by simp; omega) (Ne.symm ay)]; assumption)))
          (first
            | (go_at_call 45; refine (KZ _ _ _).mono ?_; rintro e w' ⟨rfl, rfl⟩)
            | (refine step_append_lies _ (by rfl) _ _ _ (by rfl) w.heap.size 2 i0 _ 1 8 dK hi0 hz0 hz1 hz2 rfl (by omega) u5 k _ (by rfl) ((hown.alloc _).drew) ⟨wr.heap.size, 0, ak⟩ 1 1 [ah aA (min (el xs k) (el ys k))] (by rfl) (by rfl) (World.news_of_block (cs:=#[ah aA (min (el xs k) (el ys k))]) (t:=2) (fr:=(0, 0)) (heap_alloc_new wr _)) (by simp[aX4]) (by omega) (by unfold ba2; omega) (by omega) (by simp; omega) (wr.heap.size+1) (by simp) ?_; intro g cap w1 hown1 hgrow hat hlt))
        have R:aG (w1.ownsRow w.heap.size 2 1 (aj (au ⟨g, 0, ak⟩) (k+1) cap) (k+1) ((jn min xs ys (k+1)).map (aZ9 aA))):=by
          rw[aG, an2, List.map_append]; exact hown1
        have RB:aG (Below w.heap.size w w1):=Below.grown ((HB.out.alloc hsz _).drew) hgrow (by simp; omega) (fun r hr=>(hown.lt r hr).1)
        clear hown1 hgrow hat hlt hown ex ey ax ay;go_wp2;go_roundw
        case rel=>exact⟨k+1, by omega, by go_num, R.out, RB.out⟩
        case measure=>simp[ba4]; omega
      · have hkl:k=len:=by omega
        subst hkl;go_wp2;go_ret
        obtain⟨g, c, hvv, hg, ho⟩:=xG hown (mM _ _ _ _).symm h1;exact⟨g, c, by rw[HP.out, <- hvv]; rfl, hg, by rw[HP.out]; exact ho, HB.out⟩
end
section
open Go.RowKit
theorem an3 (w:aI) (y:Int) (hy:-9223372036854775808<=y/\y<=9223372036854775807):Vec (w.alloc (aH #[ah aA y] 2)) (au ⟨w.heap.size,0,ak⟩) 1 [y]:=by
 refine⟨rfl,by simpa using hy,.inr ⟨w.heap.size,0,rfl,fun i hi=>?_⟩⟩
 have:i=0:=by omega
 subst this;simp[el]
theorem JZ (a a':Option ba5) (len cap len' cap':Nat) (xs ys:List Int) (w:aI) (hv:Vec w a len xs) (hv':Vec w a' len' ys) (hc:len<=cap) (hc':len'<=cap') (hm:cap<=ba2) (hm':cap'<=ba2) :
  ba3 aZ8 198 #[aj a len cap,aj a' len' cap',.func (.func 180) #[] #[]] w fun e w'=>∃ g c,e=aK (aj (au ⟨g,0,ak⟩) (je min xs ys).length c)/\w.heap.size<=g/\OwnAt w' g c (je min xs ys)/\Below w.heap.size w w':=by
 cases h2:vG xs ys
 ·have HP:aG (je min xs ys=[]):=by rw[aG,je,h2];rfl
  go_enter Tryz.func198,Tryz.ntmps198
  go_wp2_with fail
  refine (fits_any _ _ _ _ _ _ xs ys _ hv hv' hc hc' hm hm').mono ?_;rintro e w1 ⟨rfl,n1,rfl⟩;go_wp2;go_ret
  refine⟨w.heap.size,0,by rw[HP.out];rfl,aZ0 _, ?_,fO ((aZ5 _ _).alloc (aZ0 _) _)⟩
  rw[HP.out];exact (La w).drewN n1
 ·obtain⟨ox,oy,hl⟩:=Bg h2
  have kx:=mJ ox;have hlx:=hv.1;have hly:=hv'.1;have hfy:=hv'.2.1;obtain⟨b,off,rfl,hcx⟩:=hv.cells (by omega)
  obtain⟨b',off',rfl,hcy⟩:=hv'.cells (by omega)
  have HP:aG (je min xs ys=jn min xs ys len):=by rw[aG,je,h2,hlx];rfl
  have HLY:=dP hly;have h1:1<=len:=by omega
  have h8:len<=8:=by omega
  have hll:len<=len':=by omega
  have hmk:=run_make_row' (P:=aZ8) 41 2 (ah aA 0) 8 dK Tryz.info2 rfl aA aA len (by omega) (by omega)
  clear ox oy hl hlx hly kx;go_enter Tryz.func198,Tryz.ntmps198
  go_wp2_with fail
  refine (fits_any _ _ _ _ _ _ xs ys _ hv hv' hc hc' hm hm').mono ?_;rintro e w1 ⟨rfl,n1,rfl⟩;clear hv hv' hc hc' hm hm';go_wp2
  go_loopw [8,9,20] (fun _ _ i wr=>∃ k:Nat,k<=len/\i=ah aA k/\wr.rowIs w.heap.size 2 len (part (jn min xs ys len) k)/\Below w.heap.size w wr) (fun _ _ i _=>len-(ba4 i).toNat)
  case atStart =>
   exact ⟨0,aZ1 _,rfl,by
    have:=Uy (w:=w) (xs:=jn min xs ys len);rw[mM] at this;exact this,fO ((aZ5 _ _).alloc (aZ0 _) _)⟩
  case round =>
   obtain⟨k,hk,rfl,hrow,hbel⟩:=hrel;have HR:=dP hrow;have HB:=dP hbel;have hsz:=hrow.lt;clear hrow hbel;by_cases hlt:k<len
   ·have lx:=bG _ _ (hcx k hlt)
    have ly:=bG _ _ (hcy k (by omega))
    have ex:wr.cell? ⟨b,off+k,ak⟩=au (ah aA (el xs k)):=(HB.out.cell (p:=⟨b,off+k,ak⟩) lx).trans (hcx k hlt);have ey:wr.cell? ⟨b',off'+k,ak⟩=au (ah aA (el ys k)):=(HB.out.cell (p:=⟨b',off'+k,ak⟩) ly).trans (hcy k (by omega))
    have hrow':=HR.out.alloc (aH #[ah aA (el ys k)] 2);have hfr:=hrow'.frozen k;have hcl:=hrow'.cell hlt;have hV:=an3 wr (el ys k) (hfy _ (kM (by rw[HLY.out];omega)))
    have hi1:(k:Int)<len:=by omega
    have hi2:(k:Int)<len':=by omega
    have HRW:=dP hrow';clear hcx hcy hrow';go_wp2_with fail
    refine (KX _ _ _ _ [el ys k] _ hV (by decide)).mono ?_
    rintro e w2 ⟨rfl,hw2⟩;have HW:=dP hw2;rw[<- hw2] at hfr hcl;have hs2:w.heap.size<w2.heap.size:=by rw[hw2];simp;omega
    clear hw2 ex ey hV;go_wp2;go_roundw
    case rel => exact ⟨k + 1,by omega,by go_num,by
     have:=VO (b:=w.heap.size) (xs:=jn min xs ys len) (k:=k) (w:=w2) (by rw[mM,HW.out];exact HRW.out)
     rw[mM,UA _ _ _ hlt] at this;exact this,by
     have:Below w.heap.size w w2:=by rw[HW.out];exact HB.out.alloc (by omega) _
     exact this.setCell (aZ0 _) _⟩
    case measure=>simp[ba4];omega
   ·have hkl:k=len:=by omega
    subst hkl;go_wp2;go_ret
    refine⟨w.heap.size,k,by rw[HP.out,mM];rfl,aZ0 _, ?_,HB.out⟩
    have hr:RowOf wr w.heap.size (jn min xs ys k):=VP (k:=k) (by rw[mM];exact HR.out) (by rw[mM];exact aZ0 _)
    have:=hr.own (by rw[mM];unfold ba2;omega)
    rw[mM] at this;rw[HP.out];exact this
theorem NZ (a a':Option ba5) (len cap len' cap':Nat) (xs ys:List Int) (w:aI) (hv:Vec w a len xs) (hv':Vec w a' len' ys) (hc:len<=cap) (hc':len'<=cap') (hm:cap<=ba2) (hm':cap'<=ba2) :
  ba3 aZ8 194 #[aj a len cap,aj a' len' cap'] w fun e w'=>∃ g c,e=aK (aj (au ⟨g,0,ak⟩) (je min xs ys).length c)/\w.heap.size<=g/\OwnAt w' g c (je min xs ys)/\Below w.heap.size w w':=by
 go_enter Tryz.func194,Tryz.ntmps194
 go_wp2_with fail
 refine (JZ _ _ _ _ _ _ xs ys _ hv hv' hc hc' hm hm').mono ?_;rintro e w1 ⟨g,c,rfl,hg,ho,hb⟩;go_wp2;go_ret
 exact⟨g,c,rfl,hg,ho,hb⟩
end
section
open Go.RowKit
theorem UC (f:Int->Int->Int) (hf:∀ x y,f x y=x\/f x y=y) (xs ys:List Int):Fits (je f xs ys):=by
 unfold je
 cases h:vG xs ys
 ·intro x hx;simp at hx
 ·obtain⟨ox,oy,hl⟩:=Bg h
  intro x hx;simp only[if_true,jn,List.mem_map,List.mem_range] at hx;obtain⟨i,hi,rfl⟩:=hx;have h1:=wF ox hi;have h2:=wF oy (i:=i) (by omega)
  rcases hf (el xs i) (el ys i) with e|e<;>rw[e]<;>omega
end
section
open Go.RowKit
def oC (w:aI) (a:Option ba5) (len:Nat) (bs:Nat->Int):Prop :=
 (∀ i,i<len->0<=bs i/\bs i<=255)/\(len=0\/∃ b off,a=au ⟨b,off,ak⟩/\∀ i,i<len->w.cell? ⟨b,off+i,ak⟩=au (ah .u8 (bs i)))
def Off (a:Option ba5) (p:Nat):Prop:=∀ b off,a=au ⟨b,off,ak⟩->b≠p
def Ez (a:Option ba5) (len p:Nat):Prop:=0<len->∀ b off,a=au ⟨b,off,ak⟩->b≠p
def InB (a:Option ba5) (len B:Nat):Prop:=0<len->∀ b off,a=au ⟨b,off,ak⟩->b<B
theorem oC.inB {w: aI} {a: Option ba5} {len: Nat} {bs: Nat->Int} (h:oC w a len bs):InB a len w.heap.size:=by
 intro hl b off e;obtain⟨_,h0|⟨b',off',rfl,hc⟩⟩:=h
 ·omega
 ·cases e;exact bG _ _ (hc 0 hl)
def jM (w:aI) (p:Nat) (a:Option ba5) (len cap:Nat):Prop :=
 ∃ (i:Nat) (h:Int),i<=len/\w.heap[p]?=au (aH #[aj a len cap,ah aA (i:Int),ah aA h] 96 (0,0))
theorem oC.grown {w w': aI} {a: Option ba5} {len: Nat} {bs: Nat->Int} (h:oC w a len bs) (hg:w.grownBy w' (au p)) (hp:Ez a len p):oC w' a len bs:=by
 obtain⟨h1,h2⟩:=h;refine⟨h1, ?_⟩;rcases h2 with h0|⟨b,off,rfl,hc⟩
 ·exact .inl h0
 ·refine .inr ⟨b,off,rfl,fun i hi=>?_⟩
  have hlt:=bG _ _ (hc i hi);have hne:au b≠au p:=by have:=hp (by omega) b off rfl;simpa using this
  rw[bT (w:=w) (hg.block b hlt hne)];exact hc i hi
theorem oC.below {w w': aI} {a: Option ba5} {len: Nat} {bs: Nat->Int} (h:oC w a len bs) (hb:Below B w w') (hB:w.heap.size<=B):oC w' a len bs:=by
 obtain⟨h1,h2⟩:=h;refine⟨h1, ?_⟩;rcases h2 with h0|⟨b,off,rfl,hc⟩
 ·exact .inl h0
 ·refine .inr ⟨b,off,rfl,fun i hi=>?_⟩
  have hlt:=bG _ _ (hc i hi);rw[hb.cell (p:=⟨b,off+i,ak⟩) (dJ hlt hB)];exact hc i hi
theorem Vec.grown {w w': aI} {a: Option ba5} {len: Nat} {xs: List Int} (h:Vec w a len xs) (hg:w.grownBy w' (au p)) (hp:Off a p):Vec w' a len xs:=by
 obtain⟨h0,h1,h2⟩:=h;refine⟨h0,h1, ?_⟩;rcases h2 with h0|⟨b,off,rfl,hc⟩
 ·exact .inl h0
 ·refine .inr ⟨b,off,rfl,fun i hi=>?_⟩
  have hlt:=bG _ _ (hc i hi);have hne:au b≠au p:=by have:=hp b off rfl;simpa using this
  rw[bT (w:=w) (hg.block b hlt hne)];exact hc i hi
theorem rF (w:aI) (r:Option Nat):w.grownBy w r:=⟨rfl,rfl,rfl,aZ0 _,fun _ _ _=>rfl⟩
theorem fQ {w: aI} (h:w.grownBy w1 r) (k:w1.grownBy w2 r):w.grownBy w2 r :=
 ⟨k.os.trans h.os,k.tape.trans h.tape,k.output.trans h.output,aY2 h.size k.size,fun i hi hr=>(k.block i (dJ hi h.size) hr).trans (h.block i hi hr)⟩
theorem grown_drewN {w: aI} (h:w.grownBy w1 r) (n:Nat):w.grownBy (w1.drewN n) r:=⟨h.os,h.tape,h.output,h.size,h.block⟩
theorem yA {w: aI} (h:w.grownBy w1 (au p)) (i:Nat) (u:aJ):w.grownBy (w1.setCell ⟨p,i,ak⟩ u) (au p) :=
 ⟨h.os,h.tape,h.output,by simp[World.setCell];exact h.size,fun k hk hr=>(Below.heap_setCell _ _ _ _ (by intro e;exact hr (by rw[e]))).trans (h.block k hk hr)⟩
theorem jM.lt {w: aI} {a: Option ba5} {len cap: Nat} (h:jM w p a len cap):p<w.heap.size:=by
 obtain⟨i,x,_,hb⟩:=h;obtain⟨hlt,_⟩:=aX.1 hb;exact hlt
theorem jM.below {w w': aI} {a: Option ba5} {len cap: Nat} (h:jM w p a len cap) (hb:Below B w w') (hp:p<B):jM w' p a len cap:=by
 obtain⟨i,x,hi,hh⟩:=h;exact⟨i,x,hi,(hb.block p hp).trans hh⟩
theorem heap_set {w: aI} {c: Array aJ} {t: TypeId} (h:w.heap[p]?=au (aH c t (0,0))):(w.setCell ⟨p,i,ak⟩ u).heap[p]?=au (aH (c.setIfInBounds i u) t (0,0)):=by
 simp[World.setCell,Array.getElem?_modify,h]
theorem an4 {w: aI} {n: Nat} {s: aJ} (hb:w.heap[p]?=au (aH #[s,ah aA (i:Int),v] 96 (0,0))) :
  (((w.setCell ⟨p,2,ak⟩ u).drewN n).setCell ⟨p,1,ak⟩ (ah aA ((i:Int)+1))).heap[p]?=au (aH #[s,ah aA ((i+1:Nat):Int),u] 96 (0,0)):=by
 have h1:((w.setCell ⟨p,2,ak⟩ u).drewN n).heap[p]?=au (aH #[s,ah aA (i:Int),u] 96 (0,0)):=heap_set (i:=2) (u:=u) hb;have h2:=heap_set (i:=1) (u:=ah aA ((i:Int)+1)) h1;rw[h2];simp
theorem UD (n:Int):bits .and aA n 255=n%256:=by
 have aL7:(BitVec.ofInt 64 255).toNat=2 ^ 8-1:=by decide
 have key:(BitVec.ofInt 64 n &&& BitVec.ofInt 64 255).toNat=(n%((2 ^ 64:Nat):Int)).toNat%2 ^ 8:=by
  rw[BitVec.toNat_and,BitVec.toNat_ofInt,aL7,Nat.and_two_pow_sub_one_eq_mod]
 show IntKind.i64.wrap ((BitVec.ofInt 64 n &&& BitVec.ofInt 64 255).toNat:Nat)=n%256
 rw[key,IntKind.wrap_i64];omega
theorem IG (n:Int):0<=bits .and aA n 255/\bits .and aA n 255<=255:=by rw[UD];omega
theorem xH (p:Nat) (a:Option ba5) (len cap:Nat) (bs:Nat->Int) (w:aI) (hcur:jM w p a len cap) (hv:oC w a len bs) (hp:Ez a len p) (hl:len<=4096) :
  ba3 aZ8 59 #[aO (au ⟨p,0,ak⟩)] w fun e w'=>∃ x:Int,e=aK (ah aA x)/\0<=x/\x<=255/\jM w' p a len cap/\w.grownBy w' (au p):=by
 obtain⟨i,h,hi,hb⟩:=hcur;have h0:w.cell? ⟨p,0,ak⟩=au (aj a len cap):=by simp[World.cell?,hb]
 have h1:w.cell? ⟨p,1,ak⟩=au (ah aA (i:Int)):=by simp[World.cell?,hb]
 have h2:w.cell? ⟨p,2,ak⟩=au (ah aA h):=by simp[World.cell?,hb]
 have hf:w.frozen? ⟨p,2,ak⟩=aC:=by simp[World.frozen?,hb]
 have hf1:w.frozen? ⟨p,1,ak⟩=aC:=by simp[World.frozen?,hb]
 have HB:=dP hb;clear hb;by_cases hlt:i<len
 ·obtain⟨hr,hv0|⟨b,off,rfl,hc⟩⟩:=hv
  ·omega
  ·have hne:=hp (by omega) b off rfl
   have hci:=hc i hlt;have zf:=hr i hlt;have hne':p≠b:=fun e=>hne e.symm
   have hi1:(i:Int)<len:=by omega
   have hi0:(0:Int)<=i:=by omega
   clear hc hr hp;go_enter Tryz.func59,Tryz.ntmps59
   go_wp2_with fail
   go_quiet (fail)
   go_wp2_with fail
   go_quiet (fail)
   go_wp2_with fail
   go_quiet (fail)
   go_wp2;go_ret
   refine⟨_,rfl,(IG _).1,(IG _).2, ?_, ?_⟩
   ·exact⟨i+1,_,hlt,an4 HB.out⟩
   ·exact yA (grown_drewN (yA (rF _ _) _ _) _) _ _
 ·have hil:i=len:=by omega
  subst hil;go_enter Tryz.func59,Tryz.ntmps59
  go_wp2_with fail
  go_quiet (fail)
  go_wp2_with fail
  go_quiet (fail)
  go_wp2;go_ret
  refine⟨_,rfl,(IG _).1,(IG _).2, ?_, ?_⟩
  ·exact⟨_,_,aZ0 _,heap_set HB.out⟩
  ·exact grown_drewN (grown_drewN (yA (rF _ _) _ _) _) _
theorem pI (p:Nat) (a:Option ba5) (len cap:Nat) (bs:Nat->Int) (n:Int) (w:aI) (hcur:jM w p a len cap) (hv:oC w a len bs) (hp:Ez a len p) (hl:len<=4096) (hn:n<=9223372036854775807) :
  ba3 aZ8 27 #[aO (au ⟨p,0,ak⟩),ah aA n] w fun e w'=>∃ x:Int,e=aK (ah aA x)/\0<=x/\(0<n->x<n)/\(n<=0->x=0)/\jM w' p a len cap/\w.grownBy w' (au p):=by
 by_cases h0:n<=0
 ·go_enter Tryz.func27,Tryz.ntmps27
  go_wp2;go_ret
  exact⟨0,rfl,by omega,by omega,fun _=>rfl,hcur,rF _ _⟩
 ·by_cases h1:n<=256
  ·have hne:(n==0)=aC:=by simp;omega
   go_enter Tryz.func27,Tryz.ntmps27
   go_wp2_with fail
   refine (xH p a len cap bs _ hcur hv hp hl).mono ?_;rintro e w1 ⟨x,rfl,hx0,hx1,hc1,hg1⟩;have hlo:0<=x%n:=Int.emod_nonneg _ (by omega)
   have hhi:x%n<n:=Int.emod_lt_of_pos _ (by omega)
   go_wp2;go_ret
   exact⟨x%n,rfl,hlo,fun _=>hhi,fun h=>by omega,hc1,hg1⟩
  ·have hne:(n==0)=aC:=by simp;omega
   go_enter Tryz.func27,Tryz.ntmps27
   go_wp2_with fail
   refine (xH p a len cap bs _ hcur hv hp hl).mono ?_;rintro e w1 ⟨x,rfl,hx0,hx1,hc1,hg1⟩;have hv1:=hv.grown hg1 hp;go_wp2_with fail
   refine (xH p a len cap bs _ hc1 hv1 hp hl).mono ?_;rintro e w2 ⟨y,rfl,hy0,hy1,hc2,hg2⟩;have hv2:=hv1.grown hg2 hp;go_wp2_with fail
   refine (xH p a len cap bs _ hc2 hv2 hp hl).mono ?_;rintro e w3 ⟨z,rfl,hz0,hz1,hc3,hg3⟩;have hv3:=hv2.grown hg3 hp;go_wp2_with fail
   refine (xH p a len cap bs _ hc3 hv3 hp hl).mono ?_;rintro e w4 ⟨u,rfl,hu0,hu1,hc4,hg4⟩;have G:=fQ (fQ hg1 hg2) (fQ hg3 hg4);have hlo:0<=(x*16777216+y*65536+z*256+u)%n:=Int.emod_nonneg _ (by omega)
   have hhi:(x*16777216+y*65536+z*256+u)%n<n:=Int.emod_lt_of_pos _ (by omega)
   clear hc1 hc2 hc3 hg1 hg2 hg3 hg4 hv hv1 hv2 hv3;go_wp2;go_ret
   exact⟨(x*16777216+y*65536+z*256+u)%n,rfl,hlo,fun _=>hhi,fun h=>by omega,hc4,G⟩
theorem Dj (p:Nat) (a:Option ba5) (len cap:Nat) (bs:Nat->Int) (n:Int) (w:aI) (hcur:jM w p a len cap) (hv:oC w a len bs) (hp:Ez a len p) (hl:len<=4096) (hn:n<=9223372036854775807) :
  ba3 aZ8 28 #[aO (au ⟨p,0,ak⟩),ah aA n] w fun e w'=>∃ x:Bool,e=aK (aF x)/\jM w' p a len cap/\w.grownBy w' (au p):=by
 go_enter Tryz.func28,Tryz.ntmps28
 go_wp2_with fail
 refine (pI p a len cap bs n _ hcur hv hp hl hn).mono ?_;rintro e w1 ⟨x,rfl,hx0,hx1,hx2,hc1,hg1⟩;go_wp2;go_ret
 exact⟨_,rfl,hc1,hg1⟩
theorem new_any (a : Option ba5) (len cap : Nat) (bs : Nat -> Int) (w : aI) (hv : oC w a len bs) (hl : len <= 4096) :
    ba3 aZ8 26 #[aj a len cap] w fun e w'=>∃ p, e=aK (aO (au ⟨p, 0, ak⟩))/\w.heap.size<=p/\jM w' p a len cap/\Below w.heap.size w w':=by
  obtain⟨hr, hcs⟩:=hv;rcases hcs with h0|⟨b, off, rfl, hc⟩
  all_goals
    go_enter Tryz.func26, Tryz.ntmps26
    go_wp2
    go_loop [3, 4] (fun h i=>∃ (k:Nat) (x:Int), k<=len/\i=ah aA k/\h=ah aA x) (fun _ i=>len-(ba4 i).toNat)
    case atStart=>exact⟨0, _, aZ1 _, rfl, rfl⟩
    case round =>
      obtain⟨k, x, hk, rfl, rfl⟩:=hrel;by_cases hlt:k<len
      · first
          | omega
          | (have hck := hc k hlt
             go_wp2
             go_round
             case rel=>exact⟨k+1, _, by omega, by go_num, rfl⟩
             case measure=>simp[ba4]; omega)
      · go_wp2
        go_ret
        exact⟨w.heap.size, rfl, aZ0 _, ⟨0, x, aZ1 _, heap_alloc_new _ _⟩, (aZ5 _ _).alloc (aZ0 _) _⟩
end
section
open Go.RowKit
def lenOf:aJ->Nat|.slice _ n _=>n|_=>0
def From (a:Option ba5) (B:Nat):Prop:=∀ b off,a=au ⟨b,off,ak⟩->B<=b
theorem zA {w w3: aI} {row: Option Nat} (h:w.grownBy w2 r) (hg:w2.grownBy w3 row) (hrow:∀ k,row=au k->w.heap.size<=k):w.grownBy w3 r :=
 ⟨hg.os.trans h.os,hg.tape.trans h.tape,hg.output.trans h.output,aY2 h.size hg.size,fun i hi hr=>(hg.block i (dJ hi h.size) (by intro e;have:=hrow i e.symm;omega)).trans (h.block i hi hr)⟩
theorem jM.grown {w w': aI} {row: Option Nat} {a: Option ba5} {len cap: Nat} (h:jM w p a len cap) (hg:w.grownBy w' row) (hr:row≠au p):jM w' p a len cap:=by
 have hlt:=h.lt;obtain⟨i,x,hi,hh⟩:=h;exact⟨i,x,hi,(hg.block p hlt (Ne.symm hr)).trans hh⟩
theorem jM.alloc {w: aI} {a: Option ba5} {len cap: Nat} (h:jM w p a len cap) (o:Obj):jM (w.alloc o) p a len cap:=h.grown (World.grownBy_alloc w o ak) (by simp)
theorem OwnAt.grown {w w': aI} {cap: Nat} (h:OwnAt w g cap zs) (hg:w.grownBy w' (au p)) (hne:g≠p):OwnAt w' g cap zs :=
 h.of_block (hg.block g h.lt (by simpa using hne))
theorem VT {w: aI} {n: Nat} (h:w.ownsRow base 2 1 v n (zs.map (aZ9 aA))) (hn:n=zs.length) (hf:Fits zs) :
  ∃ a' c,v=aj a' n c/\Vec w a' n zs/\n<=c/\c<=ba2/\From a' base:=by
 by_cases h1:1<=n
 ·obtain⟨g,c,hv,hb,ho⟩:=xG h hn h1
  subst hn;exact⟨_,c,hv,ho.vec hf,ho.1,ho.2.1,fun b off e=>by cases e;exact hb⟩
 ·have h0:n=0:=by omega
  subst h0;have hz:zs=[]:=bI.1 hn.symm;subst hz;rcases h.2 with ⟨hv,_⟩|⟨g,c,cur,hv,hb,_,hle,hm,_⟩
  ·exact⟨ak,0,hv,⟨rfl,hf,.inl rfl⟩,aZ0 _,aZ1 _,fun b off e=>by cases e⟩
  ·exact⟨_,c,hv,⟨rfl,hf,.inl rfl⟩,hle,hm,fun b off e=>by cases e;exact hb⟩
def Small (zs:List Int):Prop:=∀ z∈zs,0<=z/\z<=6
theorem Small.fits (h:Small zs):Fits zs:=fun x hx=>by have:=h x hx;omega
theorem Small.snoc (h:Small zs) (h0:0<=x) (h1:x<=6):Small (zs++[x]):=by
 intro z hz;rcases List.mem_append.1 hz with hz|hz
 ·exact h z hz
 ·simp at hz;subst hz;exact⟨h0,h1⟩
theorem EC {w: aI} (h:w.grownBy w1 r) (hg:w.heap.size<=g) (i:Nat) (u:aJ):w.grownBy (w1.setCell ⟨g,i,ak⟩ u) r :=
 ⟨h.os,h.tape,h.output,by simp[World.setCell];exact h.size,fun k hk hr=>(Below.heap_setCell _ _ _ _ (by intro e;simp at e;omega)).trans (h.block k hk hr)⟩
theorem jM.set {w: aI} {a: Option ba5} {len cap: Nat} (h:jM w p a len cap) (hne:g≠p) (i:Nat) (u:aJ):jM (w.setCell ⟨g,i,ak⟩ u) p a len cap:=by
 obtain⟨j,x,hj,hh⟩:=h;exact⟨j,x,hj,(Below.heap_setCell _ _ _ _ (by intro e;exact hne e.symm)).trans hh⟩
theorem N7 (h:Fits zs) (i:Nat) {y: Int} (hy:-9223372036854775808<=y/\y<=9223372036854775807):Fits (zs.set i y):=by
 intro x hx;rcases List.mem_or_eq_of_mem_set hx with hx|rfl
 ·exact h x hx
 ·exact hy
theorem Zj {w: aI} (h:OwnAt w g c zs) (hf:Fits zs) (h1:1<=zs.length):Vec w (au ⟨g,1,ak⟩) (zs.length-1) zs.tail :=
 ⟨by simp,fun x hx=>hf x (List.mem_of_mem_tail hx),.inr ⟨g,1,rfl,fun i hi=>by rw[Nat.add_comm,h.cell (i:=i+1) (by omega)];simp[el]⟩⟩
end
section
open Go.RowKit
def II (xs ys:List Int):Bool:=decide (xs=ys)
theorem UE (xs:List Int):II xs xs=aB:=by simp[II]
theorem Rz (a:Option ba5) (len cap:Nat) (w:aI) :
  ba3 aZ8 6 #[aj a len cap] w fun e w'=>e=aK (aF (decide ((4096:Int)<len)))/\w'=w:=by
 go_enter Tryz.func6,Tryz.ntmps6
 go_wp2;go_ret
 exact⟨rfl,rfl⟩
theorem N8 (a a':Option ba5) (len cap len' cap':Nat) (xs ys:List Int) (w:aI) (hv:Vec w a len xs) (hv':Vec w a' len' ys) (hm:len<=ba2) :
  ba3 aZ8 24 #[aj a len cap,aj a' len' cap'] w fun e w'=>e=aK (aF (II xs ys))/\∃ n,w'=w.drewN n:=by
 unfold ba2 at hm;unfold II;obtain⟨hlen,_,hcs⟩:=hv;obtain⟨hlen',_,hcs'⟩:=hv';by_cases hl:len=len'
 ·have hne:((len:Int) != (len':Int))=aC:=by simp[hl]
  have HL:=dP hlen;have BZ:=dP hlen';have wG:=dP hl;have hle:(len:Int)<=len':=by omega
  clear hlen hlen' hl;by_cases h0:len=0
  ·have hx:xs=[]:=bI.1 (by rw[HL.out];exact h0)
   have hy:ys=[]:=bI.1 (by rw[BZ.out,<- wG.out];exact h0)
   subst h0 hx hy;clear hcs hcs';go_enter Tryz.func24,Tryz.ntmps24
   go_wp2
   go_loop [5] (fun i=>i=ah aA 0) (fun _=>0)
   case atStart=>rfl
   case round =>
    subst hrel;go_wp2;go_ret
    exact⟨rfl,0,rfl⟩
  ·rcases hcs with h|⟨b,off,rfl,hc⟩
   ·omega
   rcases hcs' with h|⟨b',off',rfl,hc'⟩
   ·have:=wG.out;omega
   go_enter Tryz.func24,Tryz.ntmps24
   go_wp2
   go_loopw [5] (fun i wr=>∃ k:Nat,k<=len/\i=ah aA k/\(∀ j,j<k->el xs j=el ys j)/\∃ n,wr=w.drewN n) (fun i _=>len-(ba4 i).toNat)
   case atStart=>exact⟨0,aZ1 _,rfl,fun j hj=>by omega,0,rfl⟩
   case round =>
    obtain⟨k,hk,rfl,hall,n,rfl⟩:=hrel;have HA:=dP hall;clear hall;by_cases hlt:k<len
    ·have hck:=hc k hlt
     have ay9:=hc' k (by have:=wG.out;omega)
     have hi1:(k:Int)<len:=by omega
     have hi2:(k:Int)<len':=by omega
     by_cases he:el xs k=el ys k
     ·have hd:(el xs k != el ys k)=aC:=by simp[he]
      have HX:=dP he;clear he;go_wp2_with fail
      go_quiet (fail)
      go_wp2;go_roundw
      case rel => exact ⟨k + 1,by omega,by go_num,fun j hj => by
       rcases bD.1 hj with h|h
       ·exact HA.out j h
       ·rw[h];exact HX.out,_,rfl⟩
      case measure=>simp[ba4];omega
     ·have hd:(el xs k != el ys k)=aB:=by simp[he]
      go_wp2_with fail
      go_quiet (fail)
      go_wp2;go_ret
      exact⟨dZ (by symm;rw[decide_eq_false_iff_not];intro h;exact he (by rw[h])),_,World.drewN_drewN _ _ _⟩
    ·go_wp2
     go_ret
     exact⟨dZ (by symm;rw[decide_eq_true_iff];exact Eu (by rw[HL.out,BZ.out,wG.out]) (fun j hj=>HA.out j (by rw[HL.out] at hj;omega))),_,rfl⟩
 ·have hne:((len:Int) != (len':Int))=aB:=by simp;omega
  go_enter Tryz.func24,Tryz.ntmps24
  go_wp2;go_ret
  exact⟨dZ (by symm;rw[decide_eq_false_iff_not];intro h;rw[h] at hlen;omega),0,rfl⟩
end
structure jk (w:aI) (s g off n cap:Nat) (xs:List aJ):Prop where
 len:xs.length=n*s
 le:n<=cap
 max:cap<=ba2
 blk:g<w.heap.size
 cell:∀ i,i<n*s->w.cell? ⟨g,off+i,ak⟩=xs[i]?
 some:∀ i,i<cap*s->(w.cell? ⟨g,off+i,ak⟩).isSome=aB
 free:∀ i,i<cap*s->w.frozen? ⟨g,off+i,ak⟩=aC
theorem jk.of_block {w w': aI} {n cap: Nat} {xs: List aJ} (h:jk w s g off n cap xs) (e:w'.heap[g]?=w.heap[g]?) (hs:g<w'.heap.size):jk w' s g off n cap xs :=
 ⟨h.len,h.le,h.max,hs,fun i hi => by rw [bT (w := w) e];exact h.cell i hi,fun i hi => by rw [bT (w := w) e];exact h.some i hi,
  fun i hi=>by rw[show w'.frozen? ⟨g,off+i,ak⟩=w.frozen? ⟨g,off+i,ak⟩ from by simp only[World.frozen?,e]];exact h.free i hi⟩
theorem jk.below {w w': aI} {n cap: Nat} {xs: List aJ} (h:jk w s g off n cap xs) (hb:Below B w w') (hg:g<B):jk w' s g off n cap xs :=
 h.of_block (hb.block g hg) (dJ h.blk hb.size)
theorem jk.grown {w w': aI} {n cap: Nat} {xs: List aJ} (h:jk w s g off n cap xs) (hg:w.grownBy w' r) (hr:r≠.some g):jk w' s g off n cap xs :=
 h.of_block (hg.block g h.blk (Ne.symm hr)) (dJ h.blk hg.size)
theorem zS (g off j:Nat):(⟨g,off,ak⟩:ba5).add j=⟨g,off+j,ak⟩:=by unfold Addr.add;split<;>simp_all
theorem jk.uy {w: aI} {e n: Nat} {xs: List aJ} (h:w.ownsRow base e s v n xs) (hv:v≠aj ak 0 0) :
  ∃ g cap,v=aj (.some ⟨g,0,ak⟩) n cap/\base<=g/\jk w s g 0 n cap xs:=by
 rcases h with ⟨hl,⟨h0,_⟩|⟨g,cap,cur,hv',hb,hg,hle,hm,hs,ht⟩⟩
 ·exact absurd h0 hv
 ·refine⟨g,cap,hv',hb,hl,hle,hm,(aX.1 hg).1,fun i hi=>?_,fun i hi=>?_,fun i hi=>?_⟩
  ·simp only[World.cell?,hg,aY7]
   rw[<- ht,dG,if_pos hi];simp
  ·simp only[World.cell?,hg,aY7]
   have:i<cur.size:=by omega
   simp[this]
  ·simp[World.frozen?,hg]
theorem size_setCells (b:Nat):∀ (vs:List aJ) (o:Nat) (w:aI),(w.setCells b o vs).heap.size=w.heap.size
 | [],_,_=>rfl
 | v::vs,o,w=>by
  have:=size_setCells b vs (o+1) (w.setCell ⟨b,o,ak⟩ v);simp only[World.setCells] at this ⊢;rw[this];simp[World.setCell]
theorem Cb (b:Nat):∀ (vs:List aJ) (o:Nat) (w:aI),w.grownBy (w.setCells b o vs) (au b)
 | [],_,w=>rF w _
 | v::vs,o,w=>by
  have:=Cb b vs (o+1) (w.setCell ⟨b,o,ak⟩ v);simp only[World.setCells] at this ⊢;exact fQ (yA (rF w _) o v) this
section
variable {P:Program} (w:aI)
theorem DY (t ty e:TypeId) (i:TypeInfo) (z:aJ) (s bytes:Nat) (ht:P.underlying t=au (.slice e)) (hi:P.info? e=au i) (hz:i.zero=au z)
  (hsize:i.size=s) (hby:i.bytes=bytes) (hzs:z.cells.size=s) (hsz:0<s)
  (g off n cap:Nat) (xs:List aJ) (ho:jk w s g off n cap xs)
  (ad:ba5) (m c:Nat) (news:List aJ) (hl:news.length=m*s) (hnews:∀ j u,news[j]?=au u->w.cell? (ad.add j)=au u) (h1:∀ u∈news,u.oneCell'=aB)
  (h63:n+m<=ba2) (hbytes:(n+m)*bytes<=140737488355328) :
  ∃ g' off' cap' w',(aV5 #[t,t] ty #[aj (au ⟨g,off,ak⟩) n cap,aj (au ad) m c]).run P w=.ok (aj (au ⟨g',off',ak⟩) (n+m) cap') w' /\
   jk w' s g' off' (n+m) cap' (xs++news)/\w.grownBy w' (au g)/\(g'=g\/g'=w.heap.size):=by
 have hms:∀ j,j<m*s->n+m<=cap->n*s+j<cap*s:=by
  intro j hj hr;have:(n+m)*s<=cap*s:=cO _ hr;rw[aZ4] at this;omega
 have hns:n*s<=cap*s:=cO _ ho.le;by_cases hroom:n+m<=cap
 ·have hr:=run_append_room_cells (P:=P) w t ty e i ht hi g off n cap ad m c news (by rw[hl,hsize]) hnews h1 hroom
   (fun j hj=>by rw[hsize,aX9];exact ho.some _ (hms j (by omega) hroom)) (fun j hj=>by rw[hsize,aX9];exact ho.free _ (hms j (by omega) hroom))
  rw[hsize] at hr;have hcs:∀ j,j<news.length->(w.cell? ⟨g,off+n*s+j,ak⟩).isSome=aB:=fun j hj=>by rw[aX9];exact ho.some _ (hms j (by omega) hroom)
  have hin:=World.cell?_setCells_in g news (off+n*s) w hcs;refine⟨g,off,cap,_,hr,⟨by rw[dB,ho.len,hl,aZ4],hroom,ho.max,by rw[size_setCells];exact ho.blk,fun k hk=>?_,fun k hk=>?_,fun k hk=>?_⟩,Cb _ _ _ _,.inl rfl⟩
  ·by_cases hlt:k<n*s
   ·rw[World.cell?_setCells_out _ _ _ _ _ (fun _ _=>.inl (by simp;omega)),ho.cell k hlt,aY (by rw[ho.len];exact hlt)]
   ·have e1:off+k=off+n*s+(k-n*s):=by omega
    rw[aZ4] at hk;rw[e1,hin (k-n*s) (by omega),aW (by rw[ho.len];omega),ho.len]
    simp
  ·by_cases hin':n*s<=k/\k<n*s+m*s
   ·have e1:off+k=off+n*s+(k-n*s):=by omega
    rw[e1,hin (k-n*s) (by omega)];simp
   ·rw[World.cell?_setCells_out _ _ _ _ _ (fun _ _=>by simp;omega)];exact ho.some k hk
  ·rw[World.frozen?_setCells];exact ho.free k hk
 ·have hg := run_append_arg_grows (P := P) w t ty e i z s bytes ht hi hz hsize hby hzs hsz ⟨g,off,ak⟩ n cap xs ho.len (fun j u hu => by
   rw[zS]
   have hj:j<xs.length:=by
    rcases aY6 j xs.length with h|h
    ·exact h
    ·rw[bK h] at hu;cases hu
   rw[ho.cell j (by rw[<- ho.len];exact hj)];exact hu) ad m c news hl hnews (by omega) h63 hbytes
  obtain⟨v',w',hr,hown,hgr⟩:=hg;have hm:0<n+m:=by omega
  obtain⟨g',cap',rfl,hb,hlt⟩:=hown.form hm;obtain⟨g2,cap2,hv2,_,hO⟩:=jk.uy hown (by intro h;cases h)
  cases hv2
  rcases hown.2 with ⟨h0,_⟩|⟨g3,cap3,cur,hv3,hb3,hg3,_⟩
  ·cases h0
  ·cases hv3
   refine⟨g',0,cap',w',hr,hO,⟨hgr.os,hgr.tape,hgr.output,hgr.size,fun k hk _=>hgr.block k hk (by simp)⟩, ?_⟩
   right
   have hr2 := run_append_grow (P := P) w t ty e i z ht hi hz ⟨g,off,ak⟩ n cap xs (by rw [hsize];exact ho.len) (fun j u hu => by
    rw[zS]
    have hj:j<xs.length:=by
     rcases aY6 j xs.length with h|h
     ·exact h
     ·rw[bK h] at hu;cases hu
    rw[ho.cell j (by rw[<- ho.len];exact hj)];exact hu) ad m c news (by rw[hsize];exact hl) hnews (by omega) (by simp only[ba2] at h63;omega) (growslice_fits (by omega) (by rw[hby];exact hbytes))
   rw[hr2] at hr;simp only[Result.ok.injEq,aU0,Option.some.injEq,aX6] at hr;exact hr.1.1.1.symm
theorem N9 {o:Oper} {a:Act} {K:Act->aI->Prop} {Q:Exit->Act->aI->Prop} (sl x:Operand) (t:TypeId)
  (hop:o.op=.call { callee:=.builtin .append,args:=#[sl,x],argTypes:=#[t,t] })
  (e:TypeId) (i:TypeInfo) (z:aJ) (s bytes:Nat) (ht:P.underlying t=au (.slice e)) (hi:P.info? e=au i) (hz:i.zero=au z)
  (hsize:i.size=s) (hby:i.bytes=bytes) (hzs:z.cells.size=s) (hsz:0<s)
  (g off n cap:Nat) (xs:List aJ) (hs:a.eval sl=aj (au ⟨g,off,ak⟩) n cap) (ho:jk w s g off n cap xs)
  (ad:ba5) (m c:Nat) (news:List aJ) (hx:a.eval x=aj (au ad) m c) (hl:news.length=m*s) (hnews:∀ j u,news[j]?=au u->w.cell? (ad.add j)=au u) (h1:∀ u∈news,u.oneCell'=aB)
  (h63:n+m<=ba2) (hbytes:(n+m)*bytes<=140737488355328)
  (h:∀ g' off' cap' w',jk w' s g' off' (n+m) cap' (xs++news)->w.grownBy w' (au g)->(g'=g\/g'=w.heap.size)->K (a.put o.dst (aj (au ⟨g',off',ak⟩) (n+m) cap')) w'):o.wp P a w K Q:=by
 obtain⟨g',off',cap',w',hr,h2,h3,h4⟩:=DY (P:=P) w t o.type e i z s bytes ht hi hz hsize hby hzs hsz g off n cap xs ho ad m c news hl hnews h1 h63 hbytes;unfold Oper.wp execOp;simp only[hop,resolve,invoke,builtin,Sem.run_bind,Sem.run_pure,Result.andThen_ok,List.map_toArray,aX8,List.map_nil,hs,hx,hr]
 exact h g' off' cap' w' h2 h3 h4
theorem iH {ops:Array Oper} {rest:List Oper} {o:Oper} {a:Act} {Q:Exit->Act->aI->Prop} (hgd:o.guard=ak) (sl x:Operand) (t:TypeId)
  (hop:o.op=.call { callee:=.builtin .append,args:=#[sl,x],argTypes:=#[t,t] })
  (e:TypeId) (i:TypeInfo) (z:aJ) (s bytes:Nat) (ht:P.underlying t=au (.slice e)) (hi:P.info? e=au i) (hz:i.zero=au z)
  (hsize:i.size=s) (hby:i.bytes=bytes) (hzs:z.cells.size=s) (hsz:0<s)
  (g off n cap:Nat) (xs:List aJ) (hs:a.eval sl=aj (au ⟨g,off,ak⟩) n cap) (ho:jk w s g off n cap xs)
  (ad:ba5) (m c:Nat) (news:List aJ) (hx:a.eval x=aj (au ad) m c) (hl:news.length=m*s) (hnews:∀ j u,news[j]?=au u->w.cell? (ad.add j)=au u) (h1:∀ u∈news,u.oneCell'=aB)
  (h63:n+m<=ba2) (hbytes:(n+m)*bytes<=140737488355328)
  (h:∀ g' off' cap' w',jk w' s g' off' (n+m) cap' (xs++news)->w.grownBy w' (au g)->(g'=g\/g'=w.heap.size)->wpList P ops Q rest (a.put o.dst (aj (au ⟨g',off',ak⟩) (n+m) cap')) w'):wpList P ops Q (o::rest) a w :=
 wpList_plain hgd fun _ hK=>N9 w sl x t hop e i z s bytes ht hi hz hsize hby hzs hsz g off n cap xs hs ho ad m c news hx hl hnews h1 h63 hbytes fun g' off' cap' w' h2 h3 h4=>hK _ _ (h g' off' cap' w' h2 h3 h4)
end
def OI (w:aI) (g off n cap:Nat) (zs:List Int):Prop:=jk w 1 g off n cap (zs.map (aZ9 aA))
theorem OI.length {w: aI} {n cap: Nat} (h:OI w g off n cap zs):zs.length=n:=by have:=h.len;simpa using this
theorem OI.cellAt {w: aI} {n cap: Nat} (h:OI w g off n cap zs) (hi:i<n):w.cell? ⟨g,off+i,ak⟩=au (ah aA (el zs i)):=by
 have hl:=h.length;rw[h.cell i (by omega)]
 simp[el,show i<zs.length by omega]
theorem OI.vec {w: aI} {n cap: Nat} (h:OI w g off n cap zs) (hf:Fits zs):Vec w (au ⟨g,off,ak⟩) n zs :=
 ⟨h.length,hf,.inr ⟨g,off,rfl,fun _ hi=>h.cellAt hi⟩⟩
theorem OI.own {w: aI} {cap: Nat} (h:OwnAt w g cap zs):OI w g 0 zs.length cap zs:=by
 have hlt:=h.lt;obtain⟨h1,h2,cur,hb,hs,hc⟩:=h;refine⟨by simp,h1,h2,hlt,fun i hi=>?_,fun i hi=>?_,fun i hi=>?_⟩
 ·simp only[World.cell?,hb,aY7]
  have:i<zs.length:=by omega
  simp[hc i this,el,this]
 ·simp only[World.cell?,hb,aY7]
  have:i<cur.size:=by omega
  simp[this]
 ·simp[World.frozen?,hb]
def Grew (w w':aI):Prop:=Below w.heap.size w w'/\w.drawn<=w'.drawn
theorem Grew.refl (w:aI):Grew w w:=⟨aZ5 _ _,aZ0 _⟩
theorem Grew.trans {a b c: aI} (h:Grew a b) (k:Grew b c):Grew a c:=⟨eP h.1 k.1,aY2 h.2 k.2⟩
theorem Grew.alloc {a b: aI} (h:Grew a b) (o:Obj):Grew a (b.alloc o):=⟨h.1.alloc h.1.size o,h.2⟩
theorem Grew.drewN {a b: aI} (h:Grew a b) (n:Nat):Grew a (b.drewN n):=⟨⟨h.1.os,h.1.tape,h.1.output,h.1.size,h.1.block⟩,aY2 h.2 (Nat.le_add_right _ _)⟩
theorem an5 {w: aI} {n cap: Nat} (h:OI w g off n cap zs) (hi:i<n) (y:Int):OI (w.setCell ⟨g,off+i,ak⟩ (ah aA y)) g off n cap (zs.set i y):=by
 have hl:=h.length;have hc:=h.cellAt hi;refine⟨by simp[hl],h.le,h.max,by simp[World.setCell];exact h.blk,fun j hj=>?_,fun j hj=>?_,fun j hj=>by rw[World.frozen?_setCell];exact h.free j hj⟩
 ·by_cases e:i=j
  ·subst e
   rw[World.cell?_setCell_same _ _ _ hc];simp[show i<zs.length by omega]
  ·rw[bg _ _ _ _ (by simp[e]),h.cell j hj]
   simp[e]
 ·by_cases e:i=j
  ·subst e;rw[World.cell?_setCell_same _ _ _ hc];rfl
  ·rw[bg _ _ _ _ (by simp[e])];exact h.some j hj
theorem oG (w:aI) (T:TypeId):OI (w.alloc (aH #[] T)) w.heap.size 0 0 0 [] :=
 ⟨rfl,aZ0 _,aZ1 _,by simp,fun i hi=>by omega,fun i hi=>by omega,fun i hi=>by omega⟩
theorem pY {w: aI} {xs: List Int} (h:∀ i,i<xs.length->w.cell? ⟨b,off+i,ak⟩=au (ah aA (el xs i))) (j:Nat) (u:aJ) (hu:(xs.map (aZ9 aA))[j]?=au u):w.cell? ((⟨b,off,ak⟩:ba5).add j)=au u:=by
 have hj:j<xs.length:=by
  have:=(List.getElem?_eq_some_iff.1 hu).1;simpa using this
 rw[zS,h j hj];simp only[List.getElem?_map,bC hj,Option.map_some,Option.some.injEq] at hu;rw[uq hj,<- hu]
theorem oL {w: aI} (h:Below B w w1) (hg:w1.grownBy w2 (au g)) (hB:B<=g) (hs:B<=w1.heap.size):Below B w w2 :=
 ⟨hg.os.trans h.os,hg.tape.trans h.tape,hg.output.trans h.output,aY2 h.size hg.size,fun k hk=>(hg.block k (by omega) (by simp;omega)).trans (h.block k hk)⟩
def Hr (w w':aI) (e:Ending) (Z:List Int):Prop:=∃ g off c,e=aK (aj (au ⟨g,off,ak⟩) Z.length c)/\w.heap.size<=g/\OI w' g off Z.length c Z/\Below w.heap.size w w'
theorem Tryz.info2n:(Tryz.prog.info? 2).map (fun i=>(i.zero,i.size,i.bytes))=au (au (ah aA 0),1,8):=by kernel_rfl
theorem ku {T: Nat} (h:(Tryz.prog.info? T).map (fun i=>(i.zero,i.size,i.bytes))=au (au z,s,b)):∃ i,Tryz.prog.info? T=au i/\i.zero=au z/\i.size=s/\i.bytes=b:=by
 obtain⟨i,hi,hh⟩:=Option.map_eq_some_iff.1 h;simp only[Prod.mk.injEq] at hh;exact⟨i,hi,hh.1,hh.2.1,hh.2.2⟩
def Bx (w:aI) (B:Nat) (T:TypeId) (cs:Array aJ):Prop:=w.heap[B]?=au (aH cs T (0,0))
theorem Bx.lt {w: aI} {cs: Array aJ} (h:Bx w B T cs):B<w.heap.size:=(aX.1 h).1
theorem Bx.cell {w: aI} {cs: Array aJ} (h:Bx w B T cs) (i:Nat):w.cell? ⟨B,i,ak⟩=cs[i]?:=by simp[World.cell?,show w.heap[B]?=_ from h]
theorem Bx.at {w: aI} {cs: Array aJ} (h:Bx w B T cs) (i:Nat) (hi:cs[i]?=au v):w.cell? ⟨B,i,ak⟩=au v:=(h.cell i).trans hi
theorem Bx.f {w: aI} {cs: Array aJ} (h:Bx w B T cs) (i:Nat):w.frozen? ⟨B,i,ak⟩=aC:=by simp[World.frozen?,show w.heap[B]?=_ from h]
theorem Bx.new (w:aI) (T:TypeId) (cs:Array aJ):Bx (w.alloc (aH cs T)) w.heap.size T cs:=heap_alloc_new w _
theorem Bx.grown {w w': aI} {cs: Array aJ} (h:Bx w B T cs) (hg:w.grownBy w' r) (hne:au B≠r):Bx w' B T cs:=(hg.block B h.lt hne).trans h
theorem Bx.alloc {w: aI} {cs: Array aJ} (h:Bx w B T cs) (o:Obj):Bx (w.alloc o) B T cs:=h.grown (World.grownBy_alloc w o ak) (by simp)
theorem Bx.below {w w': aI} {cs: Array aJ} (h:Bx w B T cs) (hb:Below w.heap.size w w'):Bx w' B T cs:=(hb.block B h.lt).trans h
theorem below_of_grown {w w': aI} {v: aI} (h:Below B v w) (hg:w.grownBy w' r) (hr:∀ k,r=au k->B<=k) (hs:B<=w.heap.size):Below B v w' :=
 ⟨hg.os.trans h.os,hg.tape.trans h.tape,hg.output.trans h.output,aY2 h.size hg.size,fun k hk=>(hg.block k (by omega) (fun e=>by have:=hr k e.symm;omega)).trans (h.block k hk)⟩
def sU (a:Option ba5):Prop:=∀ x,a=au x->∃ b off,x=⟨b,off,ak⟩
theorem IJ:sU ak:=fun x h=>by cases h
theorem kV (b off:Nat):sU (au ⟨b,off,ak⟩):=fun x h=>by cases h;exact⟨b,off,rfl⟩
def iV (w:aI) (s:Nat) (a:Option ba5) (n c:Nat) (xs:List aJ) (G:Option Nat):Prop :=
 (n=0/\c=0/\xs=[]/\G=ak/\sU a)\/∃ g off,a=au ⟨g,off,ak⟩/\jk w s g off n c xs/\G=au g
theorem iV.nil (w:aI) (s:Nat) {a: Option ba5} (ha:sU a):iV w s a 0 0 [] ak:=.inl ⟨rfl,rfl,rfl,rfl,ha⟩
theorem iV.plain {w: aI} {a: Option ba5} {n: Nat} {xs: List aJ} (h:iV w s a n c xs G):sU a:=by
 rcases h with ⟨_,_,_,_,h⟩|⟨g,off,rfl,_,_⟩
 ·exact h
 ·exact kV _ _
theorem iV.of {w: aI} {n: Nat} {xs: List aJ} (h:jk w s g off n c xs):iV w s (au ⟨g,off,ak⟩) n c xs (au g):=.inr ⟨g,off,rfl,h,rfl⟩
theorem iV.len {w:aI} {s:Nat} {a:Option ba5} {n c:Nat} {xs:List aJ} {G:Option Nat} (h:iV w s a n c xs G):xs.length=n*s:=by
 rcases h with ⟨rfl,_,rfl,_⟩|⟨g,off,_,h,_⟩
 ·simp
 ·exact h.len
theorem iV.le {w:aI} {s:Nat} {a:Option ba5} {n c:Nat} {xs:List aJ} {G:Option Nat} (h:iV w s a n c xs G):n<=c/\c<=ba2:=by
 rcases h with ⟨rfl,rfl,rfl,_⟩|⟨g,off,_,h,_⟩
 ·exact⟨aZ0 _,aZ1 _⟩
 ·exact⟨h.le,h.max⟩
theorem iV.lt {w: aI} {a: Option ba5} {n: Nat} {xs: List aJ} (h:iV w s a n c xs G) (hg:G=au g):g<w.heap.size:=by
 rcases h with ⟨_,_,_,h,_⟩|⟨g',off,_,h,h'⟩
 ·rw[h] at hg;cases hg
 ·rw[h'] at hg;cases hg;exact h.blk
theorem iV.frame {w w': aI} {a: Option ba5} {n: Nat} {xs: List aJ} (h:iV w s a n c xs G) (hs:w.heap.size<=w'.heap.size) (e:∀ g,G=au g->w'.heap[g]?=w.heap[g]?):iV w' s a n c xs G:=by
 rcases h with h|⟨g,off,ha,h,h'⟩
 ·exact .inl h
 ·exact .inr ⟨g,off,ha,h.of_block (e g h') (dJ h.blk hs),h'⟩
theorem iV.cell {w:aI} {s:Nat} {a:Option ba5} {n c:Nat} {xs:List aJ} {G:Option Nat} (h:iV w s a n c xs G) (hn:0<n):∃ g off,a=au ⟨g,off,ak⟩/\G=au g/\(∀ j,j<n*s->w.cell? ⟨g,off+j,ak⟩=xs[j]?)/\∀ j,j<n*s->w.frozen? ⟨g,off+j,ak⟩=aC:=by
 rcases h with ⟨h0,_⟩|⟨g,off,ha,h,h'⟩
 ·omega
 ·exact⟨g,off,ha,h',h.cell,fun j hj=>h.free j (dJ hj (cO _ h.le))⟩
theorem J3 {w: aI} {n: Nat} {xs: List aJ} (h:jk w s g off n c xs) (hj:j<n*s) (v:aJ):jk (w.setCell ⟨g,off+j,ak⟩ v) s g off n c (xs.set j v):=by
 have hl:=h.len;have hc:w.cell? ⟨g,off+j,ak⟩=au (xs[j]'(by omega)):=by rw[h.cell j hj,bC (by omega)]
 refine⟨by simpa using hl,h.le,h.max,by simp[World.setCell];exact h.blk,fun k hk=>?_,fun k hk=>?_,fun k hk=>by rw[World.frozen?_setCell];exact h.free k hk⟩
 ·by_cases e:j=k
  ·subst e
   rw[World.cell?_setCell_same _ _ _ hc];simp[show j<xs.length by omega]
  ·rw[bg _ _ _ _ (by simp[e]),h.cell k hk]
   simp[e]
 ·by_cases e:j=k
  ·subst e;rw[World.cell?_setCell_same _ _ _ hc];rfl
  ·rw[bg _ _ _ _ (by simp[e])];exact h.some k hk
section
variable {P:Program} (w:aI)
theorem nU (t ty e:TypeId) (i:TypeInfo) (z:aJ) (s bytes:Nat) (ht:P.underlying t=au (.slice e)) (hi:P.info? e=au i) (hz:i.zero=au z)
  (hsize:i.size=s) (hby:i.bytes=bytes) (hzs:z.cells.size=s) (hsz:0<s)
  (a:Option ba5) (n cap:Nat) (xs:List aJ) (G:Option Nat) (ho:iV w s a n cap xs G)
  (x:Option ba5) (m c:Nat) (news:List aJ) (hl:news.length=m*s) (hnews:m=0\/∃ ad,x=au ad/\∀ j u,news[j]?=au u->w.cell? (ad.add j)=au u) (h1:∀ u∈news,u.oneCell'=aB)
  (h63:n+m<=ba2) (hbytes:(n+m)*bytes<=140737488355328) :
  ∃ a' cap' G' w',(aV5 #[t,t] ty #[aj a n cap,aj x m c]).run P w=.ok (aj a' (n+m) cap') w' /\
   iV w' s a' (n+m) cap' (xs++news) G'/\w.grownBy w' G/\(G'=G\/G'=au w.heap.size):=by
 by_cases hm:m=0
 ·subst hm
  have hn0:news=[]:=aT (by simpa using hl)
  subst hn0;have hle:=ho.le.1
  have hr:(aV5 #[t,t] ty #[aj a n cap,aj x 0 c]).run P w=.ok (aj a n cap) w:=by
   cases a<;>cases x<;>simp[aV5,run_underlying ht,sizeOf,typeInfo,hi,Builtin.lenOf,hle,Builtin.firstCells,loadCells,loadCellsFrom,storeCells]
  exact⟨a,cap,G,w,hr,by simpa using ho,rF w _,.inl rfl⟩
 ·rcases hnews with h0|⟨ad,rfl,hnews⟩
  ·exact absurd h0 hm
  ·rcases ho with ⟨rfl,rfl,rfl,rfl,hpl⟩|⟨g,off,rfl,ho,rfl⟩
   ·cases a with
    | none =>
     obtain⟨v',w',hr,hown,hgr,hnil,hat⟩:=run_append_own_at (P:=P) w 0 t ty e i z s bytes ht hi hz hsize hby hzs hsz (aj ak 0 0) 0 [] (World.ownsRow_nil w 0 e s) ad m c news hl hnews h1 h63 hbytes (aZ1 _);obtain⟨g',cap',rfl,_,hO⟩:=jk.uy hown (fun h=>hm (hnil.1 h).2)
     refine⟨au ⟨g',0,ak⟩,cap',au g',w',hr,.inr ⟨g',0,rfl,by simpa using hO,rfl⟩,hgr,.inr ?_⟩
     rcases hat with h|h
     ·simp[Value.ownBlock] at h
     ·simpa[Value.ownBlock] using h
    | some b =>
     have hg:=run_append_arg_grows (P:=P) w t ty e i z s bytes ht hi hz hsize hby hzs hsz b 0 0 [] (by simp) (by simp) ad m c news hl hnews (by omega) h63 hbytes
     obtain⟨v',w',hr,hown,hgr⟩:=hg;obtain⟨g',cap',rfl,hb,hlt⟩:=hown.form (by omega)
     obtain⟨g2,cap2,hv2,_,hO⟩:=jk.uy hown (by intro h;cases h)
     cases hv2
     refine⟨au ⟨g',0,ak⟩,cap',au g',w',hr,.inr ⟨g',0,rfl,by simpa using hO,rfl⟩,hgr,.inr ?_⟩
     have hr2:=run_append_grow (P:=P) w t ty e i z ht hi hz b 0 0 [] (by simp) (by simp) ad m c news (by rw[hsize];exact hl) hnews (by omega) (by simp only[ba2] at h63;omega) (growslice_fits (by omega) (by rw[hby];exact hbytes))
     rw[hr2] at hr;simp only[Result.ok.injEq,aU0,Option.some.injEq,aX6] at hr;rw[hr.1.1.1]
   ·obtain⟨g',off',cap',w',hr,h2,h3,h4⟩:=DY (P:=P) w t ty e i z s bytes ht hi hz hsize hby hzs hsz g off n cap xs ho ad m c news hl hnews h1 h63 hbytes
    exact⟨_,cap',au g',w',hr,.inr ⟨g',off',rfl,h2,rfl⟩,h3,h4.imp (fun h=>by rw[h]) (fun h=>by rw[h])⟩
theorem Oa {o:Oper} {act:Act} {K:Act->aI->Prop} {Q:Exit->Act->aI->Prop} (sl x:Operand) (t:TypeId)
  (hop:o.op=.call { callee:=.builtin .append,args:=#[sl,x],argTypes:=#[t,t] })
  (e:TypeId) (i:TypeInfo) (z:aJ) (s bytes:Nat) (ht:P.underlying t=au (.slice e)) (hi:P.info? e=au i) (hz:i.zero=au z)
  (hsize:i.size=s) (hby:i.bytes=bytes) (hzs:z.cells.size=s) (hsz:0<s)
  (a:Option ba5) (n cap:Nat) (xs:List aJ) (G:Option Nat) (hs:act.eval sl=aj a n cap) (ho:iV w s a n cap xs G)
  (y:Option ba5) (m c:Nat) (news:List aJ) (hx:act.eval x=aj y m c) (hl:news.length=m*s) (hnews:m=0\/∃ ad,y=au ad/\∀ j u,news[j]?=au u->w.cell? (ad.add j)=au u) (h1:∀ u∈news,u.oneCell'=aB)
  (h63:n+m<=ba2) (hbytes:(n+m)*bytes<=140737488355328)
  (h:∀ a' cap' G' w',iV w' s a' (n+m) cap' (xs++news) G'->w.grownBy w' G->(G'=G\/G'=au w.heap.size)->K (act.put o.dst (aj a' (n+m) cap')) w'):o.wp P act w K Q:=by
 obtain⟨a',cap',G',w',hr,h2,h3,h4⟩:=nU (P:=P) w t o.type e i z s bytes ht hi hz hsize hby hzs hsz a n cap xs G ho y m c news hl hnews h1 h63 hbytes;unfold Oper.wp execOp;simp only[hop,resolve,invoke,builtin,Sem.run_bind,Sem.run_pure,Result.andThen_ok,List.map_toArray,aX8,List.map_nil,hs,hx,hr]
 exact h a' cap' G' w' h2 h3 h4
theorem Ht {ops:Array Oper} {rest:List Oper} {o:Oper} {act:Act} {Q:Exit->Act->aI->Prop} (hgd:o.guard=ak) (sl x:Operand) (t:TypeId)
  (hop:o.op=.call { callee:=.builtin .append,args:=#[sl,x],argTypes:=#[t,t] })
  (e:TypeId) (i:TypeInfo) (z:aJ) (s bytes:Nat) (ht:P.underlying t=au (.slice e)) (hi:P.info? e=au i) (hz:i.zero=au z)
  (hsize:i.size=s) (hby:i.bytes=bytes) (hzs:z.cells.size=s) (hsz:0<s)
  (a:Option ba5) (n cap:Nat) (xs:List aJ) (G:Option Nat) (hs:act.eval sl=aj a n cap) (ho:iV w s a n cap xs G)
  (y:Option ba5) (m c:Nat) (news:List aJ) (hx:act.eval x=aj y m c) (hl:news.length=m*s) (hnews:m=0\/∃ ad,y=au ad/\∀ j u,news[j]?=au u->w.cell? (ad.add j)=au u) (h1:∀ u∈news,u.oneCell'=aB)
  (h63:n+m<=ba2) (hbytes:(n+m)*bytes<=140737488355328)
  (h:∀ a' cap' G' w',iV w' s a' (n+m) cap' (xs++news) G'->w.grownBy w' G->(G'=G\/G'=au w.heap.size)->wpList P ops Q rest (act.put o.dst (aj a' (n+m) cap')) w'):wpList P ops Q (o::rest) act w :=
 wpList_plain hgd fun _ hK=>Oa w sl x t hop e i z s bytes ht hi hz hsize hby hzs hsz a n cap xs G hs ho y m c news hx hl hnews h1 h63 hbytes fun a' cap' G' w' h2 h3 h4=>hK _ _ (h a' cap' G' w' h2 h3 h4)
end
inductive eF where
 | v (x:aJ)
 | sl (s n:Nat) (cs:List eF)
abbrev Fp:=Nat->Prop
mutual
def eF.ow (w:aI):eF->aJ->Fp->Prop
 | .v x,u,fp=>u=x/\∀ b,¬ fp b
 | .sl s n cs,u,fp=>∃ a c us G f,u=aj a n c/\iV w s a n c us G/\gq w cs us f/\(∀ b,G=au b->¬ f b)/\∀ b,fp b↔G=au b\/f b
def gq (w:aI):List eF->List aJ->Fp->Prop
 | [],us,fp=>us=[]/\∀ b,¬ fp b
 | c::cs,us,fp=>∃ u us' f1 f2,us=u::us'/\eF.ow w c u f1/\gq w cs us' f2/\(∀ b,f1 b->¬ f2 b)/\∀ b,fp b↔f1 b\/f2 b
end
mutual
def eF.vw (w:aI):eF->aJ->Prop
 | .v x,u=>u=x
 | .sl s n cs,u => ∃ a c us,u = aj a n c /\ n <= c /\ c <= ba2 /\ us.length = n * s /\ (n = 0 \/
   ∃ b off,a=au ⟨b,off,ak⟩/\∀ j,j<n*s->w.cell? ⟨b,off+j,ak⟩=us[j]?)/\Bh w cs us
def Bh (w:aI):List eF->List aJ->Prop
 | [],us=>us=[]
 | c::cs,us=>∃ u us',us=u::us'/\eF.vw w c u/\Bh w cs us'
end
theorem jI {w:aI}:∀ {cs:List eF} {us:List aJ} {fp:Fp},gq w cs us fp->us.length=cs.length
 | [],us,fp,h=>by rw[h.1];rfl
 | c::cs,us,fp,h=>by
  obtain⟨u,us',f1,f2,rfl,_,h2,_⟩:=h;simp[jI h2]
theorem J4 {w:aI}:∀ {cs:List eF} {us:List aJ},Bh w cs us->us.length=cs.length
 | [],us,h=>by rw[show us=[] from h];rfl
 | c::cs,us,h=>by
  obtain⟨u,us',rfl,_,h2⟩:=h;simp[J4 h2]
mutual
theorem eF.Dl {w w': aI} (hs:w.heap.size<=w'.heap.size):∀ {c:eF} {u:aJ} {fp:Fp},eF.ow w c u fp->(∀ b,fp b->w'.heap[b]?=w.heap[b]?)->eF.ow w' c u fp
 | .v x,u,fp,h,_=>h
 | .sl s n cs,u,fp,h,e=>by
  obtain⟨a,c,us,G,f,rfl,ho,hl,hn,hf⟩:=h;exact⟨a,c,us,G,f,rfl,ho.frame hs (fun g hg=>e g ((hf g).2 (.inl hg))),yB hs hl (fun b hb=>e b ((hf b).2 (.inr hb))),hn,hf⟩
theorem yB {w w':aI} (hs:w.heap.size<=w'.heap.size):∀ {cs:List eF} {us:List aJ} {fp:Fp},gq w cs us fp->(∀ b,fp b->w'.heap[b]?=w.heap[b]?)->gq w' cs us fp
 | [],us,fp,h,_=>h
 | c::cs,us,fp,h,e=>by
  obtain⟨u,us',f1,f2,rfl,h1,h2,hd,hf⟩:=h;exact⟨u,us',f1,f2,rfl,eF.Dl hs h1 (fun b hb=>e b ((hf b).2 (.inl hb))),yB hs h2 (fun b hb=>e b ((hf b).2 (.inr hb))),hd,hf⟩
end
mutual
theorem eF.lg {w: aI}:∀ {c:eF} {u:aJ} {fp:Fp},eF.ow w c u fp->∀ b,fp b->b<w.heap.size
 | .v x,u,fp,h=>fun b hb=>absurd hb (h.2 b)
 | .sl s n cs,u,fp,h=>fun b hb=>by
  obtain⟨a,c,us,G,f,rfl,ho,hl,hn,hf⟩:=h;rcases (hf b).1 hb with hb|hb
  ·exact ho.lt hb
  ·exact jh hl b hb
theorem jh {w:aI}:∀ {cs:List eF} {us:List aJ} {fp:Fp},gq w cs us fp->∀ b,fp b->b<w.heap.size
 | [],us,fp,h=>fun b hb=>absurd hb (h.2 b)
 | c::cs,us,fp,h=>fun b hb=>by
  obtain⟨u,us',f1,f2,rfl,h1,h2,hd,hf⟩:=h;rcases (hf b).1 hb with hb|hb
  ·exact eF.lg h1 b hb
  ·exact jh h2 b hb
end
mutual
theorem eF.xZ {w: aI}:∀ {c:eF} {u:aJ} {fp:Fp},eF.ow w c u fp->eF.vw w c u
 | .v x,u,fp,h=>h.1
 | .sl s n cs,u,fp,h=>by
  obtain⟨a,c,us,G,f,rfl,ho,hl,hn,hf⟩:=h;refine⟨a,c,us,rfl,ho.le.1,ho.le.2,ho.len, ?_,yC hl⟩;rcases Nat.eq_zero_or_pos n with h0|h0
  ·exact .inl h0
  ·obtain⟨g,off,ha,_,hc,_⟩:=ho.cell h0
   exact .inr ⟨g,off,ha,hc⟩
theorem yC {w:aI}:∀ {cs:List eF} {us:List aJ} {fp:Fp},gq w cs us fp->Bh w cs us
 | [],us,fp,h=>h.1
 | c::cs,us,fp,h=>by
  obtain⟨u,us',f1,f2,rfl,h1,h2,hd,hf⟩:=h;exact⟨u,us',rfl,eF.xZ h1,yC h2⟩
end
mutual
theorem eF.RF {w w': aI} (e:∀ b,b<w.heap.size->w'.heap[b]?=w.heap[b]?):∀ {c:eF} {u:aJ},eF.vw w c u->eF.vw w' c u
 | .v x,u,h=>h
 | .sl s n cs,u,h=>by
  obtain⟨a,c,us,rfl,h1,h2,h3,h|⟨b,off,rfl,hc⟩,hl⟩:=h
  ·exact⟨a,c,us,rfl,h1,h2,h3,.inl h,Hu e hl⟩
  ·refine⟨_,c,us,rfl,h1,h2,h3,.inr ⟨b,off,rfl,fun j hj=>?_⟩,Hu e hl⟩
   have hu:j<us.length:=by rw[h3];exact hj
   have h0:=hc j hj;rw[bC hu] at h0;have hlt:=bG _ _ h0;rw[bT (w:=w) (e b hlt)];exact hc j hj
theorem Hu {w w':aI} (e:∀ b,b<w.heap.size->w'.heap[b]?=w.heap[b]?):∀ {cs:List eF} {us:List aJ},Bh w cs us->Bh w' cs us
 | [],us,h=>h
 | c::cs,us,h=>by
  obtain⟨u,us',rfl,h1,h2⟩:=h;exact⟨u,us',rfl,eF.RF e h1,Hu e h2⟩
end
theorem eF.Hw {w w': aI} {c: eF} (h:eF.vw w c u) (hb:Below w.heap.size w w'):eF.vw w' c u:=eF.RF (fun b hlt=>hb.block b hlt) h
theorem eF.gK {w w': aI} {c: eF} {fp: Fp} (h:eF.ow w c u fp) (hb:Below w.heap.size w w'):eF.ow w' c u fp:=eF.Dl hb.size h (fun b hf=>hb.block b (eF.lg h b hf))
theorem gy {w w': aI} {cs: List eF} {fp: Fp} (h:gq w cs us fp) (hb:Below w.heap.size w w'):gq w' cs us fp:=yB hb.size h (fun b hf=>hb.block b (jh h b hf))
theorem VU {w:aI}:∀ {cs:List eF} {us:List aJ},Bh w cs us->∀ {j:Nat} {c:eF},cs[j]?=au c->∃ u,us[j]?=au u/\eF.vw w c u
 | [],us,h,j,c,hj=>by simp at hj
 | c0::cs,us,h,0,c,hj=>by
  obtain⟨u,us',rfl,h1,h2⟩:=h;simp at hj
  subst hj;exact⟨u,by simp,h1⟩
 | c0::cs,us,h,j+1,c,hj=>by
  obtain⟨u,us',rfl,h1,h2⟩:=h;obtain⟨u',hu,hv⟩:=VU h2 (j:=j) (c:=c) (by simpa using hj)
  exact⟨u',by simpa using hu,hv⟩
theorem eF.Zk {w: aI}:∀ {c:eF} {u:aJ} {f g:Fp},eF.ow w c u f->(∀ b,g b↔f b)->eF.ow w c u g
 | .v x,u,f,g,h,e=>⟨h.1,fun b hb=>h.2 b ((e b).1 hb)⟩
 | .sl s n cs,u,f,g,h,e=>by
  obtain⟨a,c,us,G,f',rfl,ho,hl,hn,hf⟩:=h;exact⟨a,c,us,G,f',rfl,ho,hl,hn,fun b=>(e b).trans (hf b)⟩
theorem vO {w: aI}:∀ {cs:List eF} {us:List aJ} {f g:Fp},gq w cs us f->(∀ b,g b↔f b)->gq w cs us g
 | [],us,f,g,h,e=>⟨h.1,fun b hb=>h.2 b ((e b).1 hb)⟩
 | c::cs,us,f,g,h,e=>by
  obtain⟨u,us',f1,f2,rfl,h1,h2,hd,hf⟩:=h;exact⟨u,us',f1,f2,rfl,h1,h2,hd,fun b=>(e b).trans (hf b)⟩
theorem zT {w:aI}:∀ {cs:List eF} {us:List aJ} {fp:Fp},gq w cs us fp->∀ {j:Nat} {c:eF},cs[j]?=au c ->
  ∃ u f,us[j]?=au u/\eF.ow w c u f/\(∀ b,f b->fp b) /\
   ∀ (w':aI) (c':eF) (u':aJ) (f':Fp),w.heap.size<=w'.heap.size->eF.ow w' c' u' f'->(∀ b,fp b->¬ f b->w'.heap[b]?=w.heap[b]?)->(∀ b,f' b->fp b->f b) ->
    gq w' (cs.set j c') (us.set j u') (fun b=>f' b\/fp b/\¬ f b)
 | [],us,fp,h,j,c,hj=>by simp at hj
 | c0::cs,us,fp,h,0,c,hj=>by
  obtain⟨u,us',f1,f2,rfl,h1,h2,hd,hf⟩:=h;simp at hj
  subst hj;refine⟨u,f1,by simp,h1,fun b hb=>(hf b).2 (.inl hb),fun w' c' u' f' hs hc' he hd'=>?_⟩
  refine⟨u',us',f',f2,by simp,hc',yB hs h2 (fun b hb=>he b ((hf b).2 (.inr hb)) (fun h=>hd b h hb)),fun b hb hb2=>hd b (hd' b hb ((hf b).2 (.inr hb2))) hb2,fun b=>?_⟩
  constructor
  ·rintro (h|⟨h,hn⟩)
   ·exact .inl h
   ·rcases (hf b).1 h with h|h
    ·exact absurd h hn
    ·exact .inr h
  ·rintro (h|h)
   ·exact .inl h
   ·exact .inr ⟨(hf b).2 (.inr h),fun h1=>hd b h1 h⟩
 | c0::cs,us,fp,h,j+1,c,hj=>by
  obtain⟨u0,us',f1,f2,rfl,h1,h2,hd,hf⟩:=h;obtain⟨u,f,hu,hc,hsub,hput⟩:=zT h2 (j:=j) (c:=c) (by simpa using hj)
  refine⟨u,f,by simpa using hu,hc,fun b hb=>(hf b).2 (.inr (hsub b hb)),fun w' c' u' f' hs hc' he hd'=>?_⟩
  have hk:=hput w' c' u' f' hs hc' (fun b hb hn=>he b ((hf b).2 (.inr hb)) hn) (fun b hb hb2=>hd' b hb ((hf b).2 (.inr hb2)))
  refine⟨u0,us'.set j u',f1,_,by simp,eF.Dl hs h1 (fun b hb=>he b ((hf b).2 (.inl hb)) (fun h=>hd b hb (hsub b h))),hk,fun b hb hb2=>?_,fun b=>?_⟩
  ·rcases hb2 with hb2|⟨hb2,_⟩
   ·exact hd b hb (hsub b (hd' b hb2 ((hf b).2 (.inl hb))))
   ·exact hd b hb hb2
  ·constructor
   ·rintro (h|⟨h,hn⟩)
    ·exact .inr (.inl h)
    ·rcases (hf b).1 h with h|h
     ·exact .inl h
     ·exact .inr (.inr ⟨h,hn⟩)
   ·rintro (h|h|⟨h,hn⟩)
    ·exact .inr ⟨(hf b).2 (.inl h),fun h'=>hd b h (hsub b h')⟩
    ·exact .inl h
    ·exact .inr ⟨(hf b).2 (.inr h),hn⟩
theorem pJ {w:aI}:∀ {cs ds:List eF} {us vs:List aJ} {f g:Fp},gq w cs us f->gq w ds vs g->(∀ b,f b->¬ g b)->gq w (cs++ds) (us++vs) (fun b=>f b\/g b)
 | [],ds,us,vs,f,g,h,k,hd=>by
  rw[h.1];exact vO k (fun b=>⟨fun hb=>hb.elim (fun hb=>absurd hb (h.2 b)) id,.inr⟩)
 | c::cs,ds,us,vs,f,g,h,k,hd=>by
  obtain⟨u,us',f1,f2,rfl,h1,h2,hd1,hf⟩:=h;refine⟨u,us'++vs,f1,_,rfl,h1,pJ h2 k (fun b hb=>hd b ((hf b).2 (.inr hb))),fun b hb hb2=>?_,fun b=>?_⟩
  ·rcases hb2 with hb2|hb2
   ·exact hd1 b hb hb2
   ·exact hd b ((hf b).2 (.inl hb)) hb2
  ·show f b\/g b↔_
   rw[hf b]
   constructor
   ·rintro ((h|h)|h)
    ·exact .inl h
    ·exact .inr (.inl h)
    ·exact .inr (.inr h)
   ·rintro (h|h|h)
    ·exact .inl (.inl h)
    ·exact .inl (.inr h)
    ·exact .inr h
theorem mO {w:aI}:∀ {cs ds:List eF} {ws:List aJ} {fp:Fp},gq w (cs++ds) ws fp->∃ us vs f g,ws=us++vs/\gq w cs us f/\gq w ds vs g/\(∀ b,f b->¬ g b)/\∀ b,fp b↔f b\/g b
 | [],ds,ws,fp,h=>⟨[],ws,fun _=>False,fp,rfl,⟨rfl,fun _ h=>h⟩,h,fun _ h=>absurd h id,fun b=>⟨.inr,fun h=>h.elim False.elim id⟩⟩
 | c::cs,ds,ws,fp,h=>by
  obtain⟨u,us',f1,f2,rfl,h1,h2,hd,hf⟩:=h;obtain⟨us,vs,f,g,rfl,k1,k2,hd2,hf2⟩:=mO h2;refine⟨u::us,vs,fun b=>f1 b\/f b,g,rfl,⟨u,us,f1,f,rfl,h1,k1,fun b hb hb2=>hd b hb ((hf2 b).2 (.inl hb2)),fun b=>ba1⟩,k2,fun b hb hg=>?_,fun b=>?_⟩
  ·rcases hb with hb|hb
   ·exact hd b hb ((hf2 b).2 (.inr hg))
   ·exact hd2 b hb hg
  ·rw[hf b,hf2 b,or_assoc]
structure eU (f:Fp) (w w':aI):Prop where
 os:w'.os=w.os
 tape:w'.tape=w.tape
 output:w'.output=w.output
 size:w.heap.size<=w'.heap.size
 block:∀ b,b<w.heap.size->¬ f b->w'.heap[b]?=w.heap[b]?
theorem eU.refl (f:Fp) (w:aI):eU f w w:=⟨rfl,rfl,rfl,aZ0 _,fun _ _ _=>rfl⟩
theorem eU.mono {f g: Fp} {w w': aI} (h:eU f w w') (hs:∀ b,b<w.heap.size->f b->g b):eU g w w':=⟨h.os,h.tape,h.output,h.size,fun b hb hn=>h.block b hb (fun hf=>hn (hs b hb hf))⟩
theorem eU.trans {f g:Fp} {w w1 w2:aI} (h:eU f w w1) (k:eU g w1 w2) (hs:∀ b,b<w.heap.size->g b->f b):eU f w w2 :=
 ⟨k.os.trans h.os,k.tape.trans h.tape,k.output.trans h.output,aY2 h.size k.size,fun b hb hn=>(k.block b (dJ hb h.size) (fun hg=>hn (hs b hb hg))).trans (h.block b hb hn)⟩
theorem eU.of_below {f: Fp} {w w': aI} (h:Below w.heap.size w w'):eU f w w':=⟨h.os,h.tape,h.output,h.size,fun b hb _=>h.block b hb⟩
theorem eU.below {f: Fp} {w w' v: aI} (h:eU f w w') (hv:Below B v w) (hB:B<=w.heap.size) (hf:∀ b,f b->B<=b):Below B v w' :=
 ⟨h.os.trans hv.os,h.tape.trans hv.tape,h.output.trans hv.output,aY2 hv.size h.size,fun b hb=>(h.block b (by omega) (fun k=>by have:=hf b k;omega)).trans (hv.block b hb)⟩
theorem eU.l7 {w w': aI} (h:w.grownBy w' G):eU (fun b=>G=au b) w w':=⟨h.os,h.tape,h.output,h.size,fun b hb hn=>h.block b hb (fun e=>hn e.symm)⟩
theorem eU.set (w:aI) (g o:Nat) (v:aJ):eU (fun b=>b=g) w (w.setCell ⟨g,o,ak⟩ v):=(eU.l7 (yA (rF w (au g)) o v)).mono (fun b _ h=>by simpa using h.symm)
theorem eF.lC {w w': aI} {c: eF} {fp f: Fp} (h:eF.ow w c u fp) (hw:eU f w w') (hd:∀ b,fp b->¬ f b):eF.ow w' c u fp:=eF.Dl hw.size h (fun b hb=>hw.block b (eF.lg h b hb) (hd b hb))
theorem gU {w w': aI} {cs: List eF} {fp f: Fp} (h:gq w cs us fp) (hw:eU f w w') (hd:∀ b,fp b->¬ f b):gq w' cs us fp:=yB hw.size h (fun b hb=>hw.block b (jh h b hb) (hd b hb))
theorem iV.wrt {w w': aI} {a: Option ba5} {n: Nat} {xs: List aJ} {f: Fp} (h:iV w s a n c xs G) (hw:eU f w w') (hd:∀ b,G=au b->¬ f b):iV w' s a n c xs G:=h.frame hw.size (fun g hg=>hw.block g (h.lt hg) (hd g hg))
def pl (vs:List aJ):List eF:=vs.map eF.v
theorem rP {w:aI}:∀ {vs us:List aJ} {fp:Fp},gq w (pl vs) us fp↔us=vs/\∀ b,¬ fp b
 | [],us,fp=>ba1
 | v::vs,us,fp=>by
  constructor
  ·rintro⟨u,us',f1,f2,rfl,⟨rfl,h1⟩,h2,hd,hf⟩
   have h3:=rP.1 h2;exact⟨by rw[h3.1],fun b hb=>((hf b).1 hb).elim (h1 b) (h3.2 b)⟩
  ·rintro⟨rfl,h⟩
   exact⟨v,vs,fp,fp,rfl,⟨rfl,h⟩,rP.2 ⟨rfl,h⟩,fun b hb=>absurd hb (h b),fun b=>⟨.inl,fun h=>h.elim id id⟩⟩
theorem ED {w:aI}:∀ {vs us:List aJ},Bh w (pl vs) us↔us=vs
 | [],us=>ba1
 | v::vs,us=>by
  constructor
  ·rintro⟨u,us',rfl,rfl,h2⟩
   rw[ED.1 h2]
  ·rintro rfl
   exact⟨v,vs,rfl,rfl,ED.2 rfl⟩
def gQ (xs:List Int):eF:=.sl 1 xs.length (pl (xs.map (aZ9 aA)))
theorem jv {w: aI} {xs: List Int} {fp: Fp}:eF.ow w (gQ xs) u fp↔∃ a c G,u=aj a xs.length c/\iV w 1 a xs.length c (xs.map (aZ9 aA)) G/\∀ b,fp b↔G=au b:=by
 constructor
 ·rintro⟨a,c,us,G,f,rfl,ho,hl,hn,hf⟩
  obtain⟨rfl,h0⟩:=rP.1 hl;exact⟨a,c,G,rfl,ho,fun b=>(hf b).trans ⟨fun h=>h.elim id (fun h=>absurd h (h0 b)),.inl⟩⟩
 ·rintro⟨a,c,G,rfl,ho,hf⟩
  exact⟨a,c,_,G,fun _=>False,rfl,ho,rP.2 ⟨rfl,fun _ h=>h⟩,fun _ _ h=>h,fun b=>(hf b).trans ⟨.inl,fun h=>h.elim id False.elim⟩⟩
theorem nI {w: aI} {xs: List Int} (h:eF.vw w (gQ xs) u) (hf:Fits xs):∃ a c,u=aj a xs.length c/\Vec w a xs.length xs/\xs.length<=c/\c<=ba2:=by
 obtain⟨a,c,us,rfl,h1,h2,h3,h,hl⟩:=h;have e:=ED.1 hl;subst e;refine⟨a,c,rfl,⟨rfl,hf, ?_⟩,h1,h2⟩;rcases h with h|⟨b,off,ha,hc⟩
 ·exact .inl h
 ·refine .inr ⟨b,off,ha,fun i hi=>?_⟩
  rw[hc i (by omega)]
  simp[el,hi]
theorem iV.oi {w: aI} {a: Option ba5} {xs: List Int} (h:iV w 1 a xs.length c (xs.map (aZ9 aA)) G):(xs=[]/\c=0/\G=ak)\/∃ g off,a=au ⟨g,off,ak⟩/\OI w g off xs.length c xs/\G=au g:=by
 rcases h with ⟨h1,h2,h3,h4,_⟩|h
 ·exact .inl ⟨aT h1,h2,h4⟩
 ·exact .inr h
def sJ (w w':aI) (c:eF) (v:aJ):Prop:=∃ fp,eF.ow w' c v fp/\(∀ b,fp b->w.heap.size<=b)/\Below w.heap.size w w'
def kW (w w':aI) (cs:List eF) (vs:List aJ):Prop:=∃ fp,gq w' cs vs fp/\(∀ b,fp b->w.heap.size<=b)/\Below w.heap.size w w'
theorem rQ {α:Type} (l:List α):∀ (n i:Nat),i<n*l.length->(aW5 n l).flatten[i]?=l[i%l.length]?
 | 0,i,h=>by simp at h
 | n+1,i,h=>by
  rw[List.replicate_succ,List.flatten_cons];by_cases hi:i<l.length
  ·rw[aY hi,Nat.mod_eq_of_lt hi]
  ·have hl:l.length<=i:=by omega
   rw[aW hl,rQ l n (i-l.length) (by rw[aZ4] at h;omega),Nat.mod_eq_sub_mod hl]
theorem Dn (w:aI) (zs:Array aJ) (s n:Nat) (e:TypeId) (hz:zs.size=s) (hs:0<s) (hn:n<=ba2):jk (w.alloc (aH (madeCells zs (n*s)) e)) s w.heap.size 0 n n (aW5 n zs.toList).flatten:=by
 have hb:(w.alloc (aH (madeCells zs (n*s)) e)).heap[w.heap.size]?=au (aH (madeCells zs (n*s)) e (0,0)):=heap_alloc_new w _
 have hc:∀ i,i<n*s->(madeCells zs (n*s))[i]?=zs.toList[i%s]?:=fun i hi=>by
  have hm:i%s<zs.size:=by rw[hz];exact aZ7 _ hs
  have hm':i%s<zs.toList.length:=by simpa using hm
  rw[bC hm'];simp[madeCells,hi,hz]
  exact getElem!_pos zs (i%s) hm
 refine⟨by simp[hz],aZ0 _,hn,by simp,fun i hi=>?_,fun i hi=>?_,fun i hi=>?_⟩
 ·rw[rQ _ _ _ (by simp[hz];omega)]
  simp only[World.cell?,hb,aY7]
  rw[hc i hi];simp[hz]
 ·simp only[World.cell?,hb,aY7]
  have:i<(madeCells zs (n*s)).size:=by rw[size_madeCells];exact hi
  simp[this]
 ·unfold World.frozen?
  rw[hb];simp
theorem FX {s g off n c:Nat}:∀ {vs:List aJ} {w:aI} {us:List aJ} {k:Nat},jk w s g off n c us->k+vs.length<=n*s->jk (w.setCells g (off+k) vs) s g off n c (us.take k++vs++us.drop (k+vs.length))
 | [],w,us,k,h,hk=>by
  have:us.take k++[]++us.drop (k+([]:List aJ).length)=us:=by simp
  rw[this];exact h
 | v::vs,w,us,k,h,hk=>by
  simp only[aU6] at hk;have h1:=J3 h (j:=k) (by omega) v
  have h2:=FX (vs:=vs) (k:=k+1) h1 (by omega)
  have hl:=h.len
  have e:(us.set k v).take (k+1)++vs++(us.set k v).drop (k+1+vs.length)=us.take k++(v::vs)++us.drop (k+(v::vs).length):=by
   have hku:k<us.length:=by omega
   rw[aS (by simpa using hku),List.take_set_of_le (aZ0 _),List.drop_set_of_lt (by omega)]
   simp only[List.getElem_set_self,aT5,List.singleton_append,aU6]
   rw[show k+1+vs.length=k+(vs.length+1) by omega]
  rw[e] at h2;exact h2
theorem Gm {w w': aI} {n m: Nat} {a': Option ba5} {c': Nat} {news: List aJ} {G': Option Nat} {cs ds: List eF} {f fd: Fp}
  (hl:gq w cs us f) (hd:gq w ds news fd) (hG:∀ b,G=au b->¬ f b) (hGd:∀ b,G=au b->¬ fd b) (hdis:∀ b,f b->¬ fd b)
  (ho:iV w' s a' (n+m) c' (us++news) G') (hg:w.grownBy w' G) (hat:G'=G\/G'=au w.heap.size) :
  eF.ow w' (.sl s (n+m) (cs++ds)) (aj a' (n+m) c') (fun b=>G'=au b\/f b\/fd b):=by
 have hw:=eU.l7 hg;have h1:=gU hl hw (fun b hb e=>hG b e hb)
 have h2:=gU hd hw (fun b hb e=>hGd b e hb)
 refine⟨a',c',us++news,G',fun b=>f b\/fd b,rfl,ho,pJ h1 h2 hdis,fun b e hb=>?_,fun b=>ba1⟩
 rcases hat with h|h
 ·rw[h] at e
  exact hb.elim (hG b e) (hGd b e)
 ·rw[h] at e
  cases e
  rcases hb with hb|hb
  ·exact absurd (jh hl _ hb) (Nat.lt_irrefl _)
  ·exact absurd (jh hd _ hb) (Nat.lt_irrefl _)
theorem sV {α:Type} {f:α->List eF} {s:Nat} (hs:∀ x,(f x).length=s):∀ (L:List α),(L.flatMap f).length=L.length*s
 | []=>by simp
 | y::L=>by rw[aT6,dB,hs,sV hs L,aU6,aZ4];omega
structure Same (X w:aI):Prop where
 heap:X.heap=w.heap
 os:X.os=w.os
 tape:X.tape=w.tape
 output:X.output=w.output
theorem Same.below {w: aI} (h:Same X w):Below w.heap.size w X:=⟨h.os,h.tape,h.output,by rw[h.heap];exact aZ0 _,fun b _=>by rw[h.heap]⟩
theorem Same.size {w: aI} (h:Same X w):X.heap.size=w.heap.size:=by rw[h.heap]
theorem Same.drewN (w:aI) (n:Nat):Same (w.drewN n) w:=⟨rfl,rfl,rfl,rfl⟩
theorem jm {P: Program} {w: aI} {ops: Array Oper} {o: Oper} {a: Act} {K: Act->aI->Prop} {Q: Exit->Act->aI->Prop} {E: Prop} (hgd:o.guard=ak) (s x:Operand) (t tn:TypeId)
  (ho:o.op=.call { callee:=.builtin .append,args:=#[s,x],argTypes:=#[t,tn] }) (vs vx:aJ) (hs:a.eval s=vs) (hx:a.eval x=vx)
  {W:aI} {R:aJ->aI->Prop} (hA:∀ X,Same X W->∃ v' w',(aV5 #[t,tn] o.type #[vs,vx]).run P X=.ok v' w'/\R v' w') (hS:Same w W) (h:∀ v' w',R v' w'->K (a.put o.dst v') w') :
  if aY0 o (yielded ops a.tmps)=aB then Oper.wp P o a w K Q else E:=by
 have hw:aY0 o (yielded ops a.tmps)=aB:=by simp[aY0,hgd]
 rw[if_pos hw];obtain⟨v',w',hr,hR⟩:=hA w hS;exact Lib.wp_append_run w s x t tn ho vs vx hs hx v' w' hr (h v' w' hR)
theorem fJ {P: Program} {w: aI} {ops: Array Oper} {rest: List Oper} {o: Oper} {a: Act} {Q: Exit->Act->aI->Prop} (hgd:o.guard=ak) (s x:Operand) (t tn:TypeId)
  (ho:o.op=.call { callee:=.builtin .append,args:=#[s,x],argTypes:=#[t,tn] }) (vs vx:aJ) (hs:a.eval s=vs) (hx:a.eval x=vx)
  {W:aI} {R:aJ->aI->Prop} (hA:∀ X,Same X W->∃ v' w',(aV5 #[t,tn] o.type #[vs,vx]).run P X=.ok v' w'/\R v' w') (hS:Same w W) (h:∀ v' w',R v' w'->wpList P ops Q rest (a.put o.dst v') w'):wpList P ops Q (o::rest) a w:=by
 obtain⟨v',w',hr,hR⟩:=hA w hS;exact wpList_plain hgd fun _ hK=>Lib.wp_append_run w s x t tn ho vs vx hs hx v' w' hr (hK _ _ (h v' w' hR))
theorem IK (w:aI) (t ty e:TypeId) (i:TypeInfo) (ht:P.underlying t=au (.slice e)) (hi:P.info? e=au i) (a:Option ba5) (n cap:Nat) (hle:n<=cap) (x:Option ba5) (c:Nat) :
  (aV5 #[t,t] ty #[aj a n cap,aj x 0 c]).run P w=.ok (aj a n cap) w:=by
 cases a<;>cases x<;>simp[aV5,run_underlying ht,sizeOf,typeInfo,hi,Builtin.lenOf,hle,Builtin.firstCells,loadCells,loadCellsFrom,storeCells]
theorem sW (w:aI) {ops: Array Oper} {rest: List Oper} {o: Oper} {act: Act} {Q: Exit->Act->aI->Prop} (hgd:o.guard=ak) (sl x:Operand) (t:TypeId)
  (hop:o.op=.call { callee:=.builtin .append,args:=#[sl,x],argTypes:=#[t,t] }) (e:TypeId) (i:TypeInfo) (ht:P.underlying t=au (.slice e)) (hi:P.info? e=au i)
  (a:Option ba5) (n cap:Nat) (hs:act.eval sl=aj a n cap) (hle:n<=cap) (y:Option ba5) (c:Nat) (hx:act.eval x=aj y 0 c)
  (h:wpList P ops Q rest (act.put o.dst (aj a n cap)) w):wpList P ops Q (o::rest) act w :=
 wpList_plain hgd fun _ hK=>Lib.wp_append_run w sl x t t hop _ _ hs hx _ w (IK w t o.type e i ht hi a n cap hle y c) (hK _ _ h)
theorem Bx.lW {w: aI} {cs: Array aJ} (h:Bx w B T cs) (i:Nat) (v:aJ):Bx (w.setCell ⟨B,i,ak⟩ v) B T (cs.setIfInBounds i v):=by
 have hh:=h;unfold Bx;simp only[World.setCell]
 rw[Array.getElem?_modify,hh];simp
theorem Bx.wrt {w w': aI} {cs: Array aJ} {f: Fp} (h:Bx w B T cs) (hw:eU f w w') (hn:¬ f B):Bx w' B T cs:=(hw.block B h.lt hn).trans h
theorem Bx.far {w: aI} {cs: Array aJ} (h:Bx w B T cs) (hne:B≠g) (v:aJ):Bx (w.setCell ⟨g,i,ak⟩ v) B T cs:=h.wrt (eU.set w g i v) hne
theorem vP {w: aI} {n: Nat} {xs: List aJ} (h:jk w s g off n c xs) (hne:g≠p) (v:aJ):jk (w.setCell ⟨p,i,ak⟩ v) s g off n c xs :=
 h.of_block ((eU.set w p i v).block g h.blk hne) (by simp[World.setCell];exact h.blk)
theorem J5 {w: aI} (t ty e:TypeId) (i:TypeInfo) (z:aJ) (s bytes:Nat) (ht:P.underlying t=au (.slice e)) (hi:P.info? e=au i) (hz:i.zero=au z)
  (hsize:i.size=s) (hby:i.bytes=bytes) (hzs:z.cells.size=s) (hsz:0<s)
  {a:Option ba5} {n c:Nat} {cs ds:List eF} {fp fd:Fp} (hO:eF.ow w (.sl s n cs) (aj a n c) fp) {vals:List aJ} (hd:gq w ds vals fd) (hdis:∀ b,fp b->¬ fd b) (hl:vals.length=s) (h1:∀ u∈vals,u.oneCell'=aB)
  (nb:Nat) (T:TypeId) (hnb:w.heap[nb]?=au (aH vals.toArray T (0,0))) (h63:n+1<=ba2) (hbytes:(n+1)*bytes<=140737488355328) :
  ∃ a' c' w' fp',(aV5 #[t,t] ty #[aj a n c,aj (au ⟨nb,0,ak⟩) 1 1]).run P w=.ok (aj a' (n+1) c') w'/\eF.ow w' (.sl s (n+1) (cs++ds)) (aj a' (n+1) c') fp'/\eU fp w w'/\∀ b,fp' b->fp b\/fd b\/b=w.heap.size:=by
 obtain⟨a0,c0,us,G,f,e0,ho,hcs,hn,hf⟩:=hO
 cases e0
 obtain⟨a',c',G',w',hr,ho',hg,hat⟩:=nU (P:=P) w t ty e i z s bytes ht hi hz hsize hby hzs hsz a n c us G ho (au ⟨nb,0,ak⟩) 1 1 vals (by omega) (.inr ⟨_,rfl,World.news_of_block hnb⟩) h1 h63 hbytes
 refine⟨a',c',w',_,hr,Gm hcs hd hn (fun b hb=>hdis b ((hf b).2 (.inl hb))) (fun b hb=>hdis b ((hf b).2 (.inr hb))) ho' hg hat,(eU.l7 hg).mono (fun b _ hb=>(hf b).2 (.inl hb)),fun b hb=>?_⟩
 rcases hb with hb|hb|hb
 ·rcases hat with h|h
  ·exact .inl ((hf b).2 (.inl (h ▸ hb)))
  ·rw[h] at hb;cases hb;exact .inr (.inr rfl)
 ·exact .inl ((hf b).2 (.inr hb))
 ·exact .inr (.inl hb)
theorem yg {w: aI} (t ty e:TypeId) (i:TypeInfo) (ht:P.underlying t=au (.slice e)) (hi:P.info? e=au i) (hz:i.zero=au (ah aA 0)) (hsize:i.size=1) (hby:i.bytes=8)
  {a:Option ba5} (ha:sU a) {x:Option ba5} {c:Nat} {xs:List Int} (hv:Vec w x xs.length xs) (hm:xs.length<=1000000) :
  ∃ a' c' w' fp',(aV5 #[t,t] ty #[aj a 0 0,aj x xs.length c]).run P w=.ok (aj a' xs.length c') w'/\eF.ow w' (gQ xs) (aj a' xs.length c') fp'/\eU (fun _=>False) w w'/\∀ b,fp' b->b=w.heap.size:=by
 have hnews:xs.length=0\/∃ ad,x=au ad/\∀ j u,(xs.map (aZ9 aA))[j]?=au u->w.cell? (ad.add j)=au u:=by
  rcases hv.2.2 with h|⟨b,off,rfl,hc⟩
  ·exact .inl h
  ·exact .inr ⟨_,rfl,pY hc⟩
 obtain⟨a',c',G',w',hr,ho',hg,hat⟩:=nU (P:=P) w t ty e i _ 1 8 ht hi hz hsize hby rfl (by omega) a 0 0 [] ak (iV.nil _ _ ha) x xs.length c (xs.map (aZ9 aA)) (by simp) hnews (by simp[aX4]) (by unfold ba2;omega) (by omega)
 simp only[aY7,aW1] at hr ho';refine⟨a',c',w',fun b=>G'=au b,hr,jv.2 ⟨a',c',G',rfl,ho',fun b=>ba1⟩,(eU.l7 hg).mono (fun b _ hb=>by cases hb),fun b hb=>?_⟩
 rcases hat with h|h
 ·rw[h] at hb;cases hb
 ·rw[h] at hb;cases hb;rfl
def It (w:aI) (cs:List eF) (vs:List aJ) (lo hi:Nat):Prop:=∃ f,gq w cs vs f/\∀ b,f b->lo<=b/\b<hi
theorem It.below {w w': aI} {cs: List eF} {vs: List aJ} (h:It w cs vs lo hi) (hb:Below w.heap.size w w'):It w' cs vs lo hi:=by
 obtain⟨f,h1,h2⟩:=h;exact⟨f,gy h1 hb,h2⟩
theorem It.wrt {w w': aI} {cs: List eF} {vs: List aJ} {f: Fp} (h:It w cs vs lo hi) (hw:eU f w w') (hd:∀ b,f b->b<lo\/hi<=b):It w' cs vs lo hi:=by
 obtain⟨g,h1,h2⟩:=h;refine⟨g,gU h1 hw (fun b hb hf=>?_),h2⟩
 have:=h2 b hb;rcases hd b hf with h|h<;>omega
theorem It.az0 {w w': aI} {cs: List eF} {vs: List aJ} (h:kW w w' cs vs):It w' cs vs w.heap.size w'.heap.size:=by
 obtain⟨f,h1,h2,_⟩:=h;exact⟨f,h1,fun b hb=>⟨h2 b hb,jh h1 b hb⟩⟩
theorem J6 {w: aI} {c: eF} {f: Fp}:gq w [c] [v] f↔eF.ow w c v f:=by
 constructor
 ·rintro⟨u,us,f1,f2,e,h1,h2,hd,hf⟩
  cases e
  exact eF.Zk h1 (fun b=>(hf b).trans ⟨fun h=>h.elim id (fun h=>absurd h (h2.2 b)),.inl⟩)
 ·intro h
  exact⟨v,[],f,fun _=>False,rfl,h,⟨rfl,fun _ h=>h⟩,fun _ _ h=>h,fun b=>by simp⟩
theorem It.ow1 {w: aI} {c: eF} (h:It w [c] [v] lo hi):∃ f,eF.ow w c v f/\∀ b,f b->lo<=b/\b<hi:=by
 obtain⟨f,h1,h2⟩:=h;exact⟨f,J6.1 h1,h2⟩
structure Pc (w:aI) (B o:Nat) (vs:List aJ):Prop where
 cell:∀ j,j<vs.length->w.cell? ⟨B,o+j,ak⟩=vs[j]?
 free:∀ j,j<vs.length->w.frozen? ⟨B,o+j,ak⟩=aC
 lt:B<w.heap.size
def iO (w:aI) (B o:Nat) (cs:List eF) (fp:Fp):Prop:=∃ vs,Pc w B o vs/\gq w cs vs fp/\¬ fp B
structure fH (w w':aI) (B o:Nat) (cs:List eF) (fp:Fp):Prop where
 lY:∃ fp',iO w' B o cs fp'/\∀ b,fp' b->fp b\/w.heap.size<=b
 out:∀ j,j<o\/o+cs.length<=j->w'.cell? ⟨B,j,ak⟩=w.cell? ⟨B,j,ak⟩
 frz:∀ j,w'.frozen? ⟨B,j,ak⟩=w.frozen? ⟨B,j,ak⟩
 wrt:eU (fun b=>fp b\/b=B) w w'
theorem Pc.of_block {w w': aI} {o: Nat} {vs: List aJ} (h:Pc w B o vs) (e:w'.heap[B]?=w.heap[B]?) (hs:w.heap.size<=w'.heap.size):Pc w' B o vs :=
 ⟨fun j hj=>by rw[bT (w:=w) e];exact h.cell j hj,fun j hj=>by rw[show w'.frozen? ⟨B,o+j,ak⟩=w.frozen? ⟨B,o+j,ak⟩ from by simp only[World.frozen?,e]];exact h.free j hj,dJ h.lt hs⟩
theorem iO.wrt {w w': aI} {o: Nat} {cs: List eF} {fp f: Fp} (h:iO w B o cs fp) (hw:eU f w w') (hd:∀ b,fp b\/b=B->¬ f b):iO w' B o cs fp:=by
 obtain⟨vs,h1,h2,h3⟩:=h;exact⟨vs,h1.of_block (hw.block B h1.lt (hd B (.inr rfl))) hw.size,gU h2 hw (fun b hb=>hd b (.inl hb)),h3⟩
theorem iO.below {w w': aI} {o: Nat} {cs: List eF} {fp: Fp} (h:iO w B o cs fp) (hb:Below w.heap.size w w'):iO w' B o cs fp:=h.wrt (f:=fun _=>False) (eU.of_below hb) (fun _ _ h=>h)
theorem iO.lt {w:aI} {B o:Nat} {cs:List eF} {fp:Fp} (h:iO w B o cs fp):B<w.heap.size:=by
 obtain⟨vs,h1,_⟩:=h;exact h1.lt
theorem iO.flt {w: aI} {o: Nat} {cs: List eF} {fp: Fp} (h:iO w B o cs fp):∀ b,fp b->b<w.heap.size:=by
 obtain⟨vs,_,h1,_⟩:=h;exact jh h1
theorem iO.nB {w: aI} {o: Nat} {cs: List eF} {fp: Fp} (h:iO w B o cs fp):¬ fp B:=by
 obtain⟨vs,_,_,h1⟩:=h;exact h1
theorem fH.refl {w: aI} {o: Nat} {cs: List eF} {fp: Fp} (h:iO w B o cs fp):fH w w B o cs fp:=⟨⟨fp,h,fun b hb=>.inl hb⟩,fun _ _=>rfl,fun _=>rfl,eU.refl _ _⟩
theorem fH.next {w: aI} {o: Nat} {cs1: List eF} {fp: Fp} (h:fH w w1 B o cs1 fp):∃ gI,iO w1 B o cs1 gI/\(∀ b,gI b->fp b\/w.heap.size<=b)/\∀ w2 cs2,cs2.length=cs1.length->fH w1 w2 B o cs2 gI->fH w w2 B o cs2 fp:=by
 obtain⟨⟨gI,h1,h2⟩,h3,h4,h5⟩:=h;refine⟨gI,h1,h2,fun w2 cs2 hl k=>?_⟩
 obtain⟨⟨fp2,k1,k2⟩,k3,k4,k5⟩:=k;refine⟨⟨fp2,k1,fun b hb=>?_⟩,fun j hj=>(k3 j hj).trans (h3 j (by omega)),fun j=>(k4 j).trans (h4 j),h5.trans k5 (fun b hb hk=>?_)⟩
 ·rcases k2 b hb with hb|hb
  ·exact h2 b hb
  ·exact .inr (aY2 h5.size hb)
 ·rcases hk with hk|hk
  ·rcases h2 b hk with hk|hk
   ·exact .inl hk
   ·omega
  ·exact .inr hk
theorem fH.below {w w1 w2:aI} {B o:Nat} {cs:List eF} {fp:Fp} (h:fH w w1 B o cs fp) (hb:Below w1.heap.size w1 w2):fH w w2 B o cs fp:=by
 obtain⟨gI,h1,h2,h3⟩:=h.next;have e:=hb.block B h1.lt;exact h3 w2 cs rfl ⟨⟨gI,h1.below hb,fun b hb=>.inl hb⟩,fun j _=>bT e,fun j=>by simp only[World.frozen?,e],eU.of_below hb⟩
theorem fH.first {w0 w: aI} {o: Nat} {cs: List eF} {fp: Fp} (h:fH w w1 B o cs fp) (hb:Below w0.heap.size w0 w) (hB:B<w0.heap.size) (hl:∀ b,fp b->b<w0.heap.size):fH w0 w1 B o cs fp:=by
 obtain⟨⟨gI,h1,h2⟩,h3,h4,h5⟩:=h;have e:=hb.block B hB;refine⟨⟨gI,h1,fun b hb'=>(h2 b hb').imp id (fun h=>aY2 hb.size h)⟩,fun j hj=>(h3 j hj).trans (bT e),fun j=>(h4 j).trans (by simp only[World.frozen?,e]),(eU.of_below (f:=fun b=>fp b\/b=B) hb).trans h5 (fun _ _ h=>h)⟩
theorem iO.at {w:aI} {B o:Nat} {cs:List eF} {fp:Fp} (h:iO w B o cs fp) {j:Nat} {c:eF} (hj:cs[j]?=au c):∃ u f,w.cell? ⟨B,o+j,ak⟩=au u/\w.frozen? ⟨B,o+j,ak⟩=aC/\eF.ow w c u f/\(∀ b,f b->fp b)/\¬ f B /\
  ∀ (w1:aI) (c':eF) (u':aJ) (f':Fp),eU f w w1->eF.ow w1 c' u' f'->(∀ b,f' b->f b\/w.heap.size<=b)->w1.cell? ⟨B,o+j,ak⟩=au u/\w1.frozen? ⟨B,o+j,ak⟩=aC/\fH w (w1.setCell ⟨B,o+j,ak⟩ u') B o (cs.set j c') fp/\(u'=u->fH w w1 B o (cs.set j c') fp):=by
 obtain⟨vs,h1,h2,h3⟩:=h;have hlen:=jI h2
 have hjl:j<cs.length:=by
  rcases aY6 j cs.length with h|h
  ·exact h
  ·rw[bK h] at hj;cases hj
 obtain⟨u,f,hu,hc,hs,hp⟩:=zT h2 hj;have hfB:¬ f B:=fun k=>h3 (hs B k)
 have hB:=h1.lt;refine⟨u,f,(h1.cell j (by omega)).trans hu,h1.free j (by omega),hc,hs,hfB,fun w1 c' u' f' hw hc' hf'=>?_⟩
 have e1:=hw.block B hB hfB;have hP1:=h1.of_block e1 hw.size;have hlt:=jh h2;have BK:¬ f' B:=fun k=>by rcases hf' B k with k|k;exact hfB k;omega
 have hc1:w1.cell? ⟨B,o+j,ak⟩=au u:=(hP1.cell j (by omega)).trans hu
 refine⟨hc1,hP1.free j (by omega),⟨⟨fun b=>f' b\/fp b/\¬ f b,⟨vs.set j u',⟨fun k hk=>?_,fun k hk=>?_,by simp[World.setCell];exact hP1.lt⟩, ?_, ?_⟩, ?_⟩,fun k hk=>?_,fun k=>?_, ?_⟩,fun e=>⟨⟨fun b=>f' b\/fp b/\¬ f b,⟨vs,hP1, ?_, ?_⟩, ?_⟩,fun k hk=>bT e1,fun k=>by simp only[World.frozen?,e1],hw.mono (fun b _ hb=>.inl (hs b hb))⟩⟩
 ·by_cases ek:j=k
  ·subst ek
   rw[World.cell?_setCell_same _ _ _ hc1];simp at hk
   simp[hk]
  ·rw[bg _ _ _ _ (by simp[ek]),hP1.cell k (by simpa using hk)]
   simp[ek]
 ·rw[World.frozen?_setCell];exact hP1.free k (by simpa using hk)
 ·have hw2:=eU.set w1 B (o+j) u'
  exact hp _ c' u' f' (aY2 hw.size hw2.size) (eF.lC hc' hw2 (fun b hb e => BK (e ▸ hb))) (fun b hb hn => (hw2.block b (dJ (hlt b hb) hw.size) (fun e => h3 (e ▸ hb))).trans (hw.block b (hlt b hb) hn)) (fun b hb hb2 => by
   rcases hf' b hb with k|k
   ·exact k
   ·have:=hlt b hb2;omega)
 ·rintro (k|⟨k,_⟩)
  ·exact BK k
  ·exact h3 k
 ·rintro b (k|⟨k,_⟩)
  ·exact (hf' b k).imp (hs b) id
  ·exact .inl k
 ·have hk2:=hk
  rw[aV3] at hk2;rw[bg _ _ _ _ (by simp only[ne_eq,aX6,not_and];omega)]
  exact bT e1
 ·rw[World.frozen?_setCell];simp only[World.frozen?,e1]
 ·exact (hw.mono (fun b _ hb=>Or.inl (hs b hb))).trans (eU.set w1 B (o+j) u') (fun b _ hb=>.inr hb)
 ·subst e
  have := hp w1 c' u' f' hw.size hc' (fun b hb hn => hw.block b (hlt b hb) hn) (fun b hb hb2 => by
   rcases hf' b hb with k|k
   ·exact k
   ·have:=hlt b hb2;omega)
  have e2:vs.set j u'=vs:=by
   apply List.ext_getElem? ;intro i
   by_cases ei:j=i
   ·subst ei;rw[hu,List.getElem?_set_self (by omega)]
   ·simp[ei]
  rwa [e2] at this
 ·rintro (k|⟨k,_⟩)
  ·exact BK k
  ·exact h3 k
 ·rintro b (k|⟨k,_⟩)
  ·exact (hf' b k).imp (hs b) id
  ·exact .inl k
theorem aI9 {w: aI} {n: Nat} {a: Option ba5} {ds: List eF} {fp: Fp} (h:eF.ow w (.sl s n ds) (aj a n c) fp) (hk:k<n) (hs:0<s):∃ g off f,a=au ⟨g,off,ak⟩/\fp g/\(∀ b,f b->fp b)/\iO w g (off+k*s) ((ds.drop (k*s)).take s) f/\g<w.heap.size /\
  ∀ (w1:aI) (es:List eF),es.length=s->fH w w1 g (off+k*s) es f->∃ fp',eF.ow w1 (.sl s n (ds.take (k*s)++es++ds.drop (k*s+s))) (aj a n c) fp'/\(∀ b,fp' b->fp b\/w.heap.size<=b)/\eU fp w w1:=by
 obtain⟨a0,c0,us,G,f0,e0,ho,hl,hG,hf⟩:=h
 cases e0
 rcases ho with ⟨h0,_⟩|⟨g,off,rfl,ho,rfl⟩
 ·omega
 have Gn:=ho.len;have hdl:=jI hl
 have hks:k*s+s<=n*s:=by
  have:(k+1)*s<=n*s:=cO s hk;rw[aZ4,Nat.one_mul] at this;exact this
 have e1:ds=ds.take (k*s)++((ds.drop (k*s)).take s++ds.drop (k*s+s)):=by
  rw[<- List.drop_drop,bQ,bQ]
 rw[e1] at hl;obtain⟨u1,u23,f1,f23,rfl,hl1,Ob,hd1,hf1⟩:=mO hl;obtain⟨u2,u3,f2,f3,rfl,hl2,hl3,hd2,hf2⟩:=mO Ob;have n1:u1.length=k*s:=by rw[jI hl1,aU5];omega
 have n2:u2.length=s:=by rw[jI hl2,aU5,List.length_drop];omega
 have hfg:∀ b,f2 b->f0 b:=fun b hb=>(hf1 b).2 (.inr ((hf2 b).2 (.inl hb)))
 have hgn:¬ f0 g:=fun hb=>hG g rfl hb
 have hblk:=ho.blk;have hle:=ho.le;have hcs:=cO s hle;refine⟨g,off,f2,rfl,(hf g).2 (.inl rfl),fun b hb=>(hf b).2 (.inr (hfg b hb)),⟨u2,⟨fun j hj=>?_,fun j hj=>?_,hblk⟩,hl2,fun hb=>hgn (hfg g hb)⟩,hblk,fun w1 es hes hb=>?_⟩
 ·have:=ho.cell (k*s+j) (by omega)
  rw[aX9,this,aW (by omega),aY (by omega),n1]
  congr 1
  omega
 ·have:=ho.free (k*s+j) (by omega)
  rw[aX9];exact this
 ·obtain⟨⟨gI,⟨vs,hv1,hv2,hv3⟩,hx⟩,hout,hfr,hw⟩:=hb
  have nv:vs.length=s:=by rw[jI hv2,hes]
  have hlt1:=jh hl1;have hlt3:=jh hl3
  have k1 : gq w1 (ds.take (k * s)) u1 f1 := gU hl1 hw (fun b hb hk => by
   rcases hk with hk|hk
   ·exact hd1 b hb ((hf2 b).2 (.inl hk))
   ·exact hgn (hk ▸ (hf1 b).2 (.inl hb)))
  have k3 : gq w1 (ds.drop (k * s + s)) u3 f3 := gU hl3 hw (fun b hb hk => by
   rcases hk with hk|hk
   ·exact hd2 b hk hb
   ·exact hgn (hk ▸ (hf1 b).2 (.inr ((hf2 b).2 (.inr hb)))))
  have k12 := pJ k1 hv2 (fun b hb hb2 => by
   rcases hx b hb2 with hk|hk
   ·exact hd1 b hb ((hf2 b).2 (.inl hk))
   ·have:=hlt1 b hb;omega)
  have Zl := pJ k12 k3 (fun b hb hb2 => by
   rcases hb with hb|hb
   ·exact hd1 b hb ((hf2 b).2 (.inr hb2))
   ·rcases hx b hb with hk|hk
    ·exact hd2 b hk hb2
    ·have:=hlt3 b hb2;omega)
  have hin:∀ b,((f1 b\/gI b)\/f3 b)->f0 b\/w.heap.size<=b:=by
   rintro b ((hb|hb)|hb)
   ·exact .inl ((hf1 b).2 (.inl hb))
   ·exact (hx b hb).imp (hfg b) id
   ·exact .inl ((hf1 b).2 (.inr ((hf2 b).2 (.inr hb))))
  refine⟨fun b=>au g=au b\/((f1 b\/gI b)\/f3 b),⟨au ⟨g,off,ak⟩,c,u1++vs++u3,au g,_,rfl,.inr ⟨g,off,rfl,⟨?_,hle,ho.max,dJ hblk hw.size,fun i hi=>?_,fun i hi=>?_,fun i hi=>by rw[hfr];exact ho.free i hi⟩,rfl⟩,Zl,fun b hb hk=>?_,fun b=>ba1⟩,fun b hb=>?_,hw.mono (fun b _ hb=>?_)⟩
  ·simp only[dB] at Gn ⊢;omega
  ·by_cases i1:i<k*s
   ·rw[hout (off+i) (by omega),ho.cell i hi,aY (by omega),aT5,aY (by omega)]
   ·by_cases i2:i<k*s+s
    ·have:=hv1.cell (i-k*s) (by omega)
     rw[show off+i=off+k*s+(i-k*s) by omega,this,aT5,aW (by omega),aY (by omega),n1]
    ·rw[hout (off+i) (by omega),ho.cell i hi,aW (by omega),aW (by omega),aT5,aW (by omega),aW (by omega),n1,n2,nv]
  ·by_cases i1:i<k*s\/k*s+s<=i
   ·rw[hout (off+i) (by omega)];exact ho.some i hi
   ·have:=hv1.cell (i-k*s) (by omega)
    rw[show off+i=off+k*s+(i-k*s) by omega,this,bC (by omega)]
    rfl
  ·cases hb
   rcases hin _ hk with hk|hk
   ·exact hgn hk
   ·omega
  ·rcases hb with hb|hb
   ·cases hb;exact .inl ((hf g).2 (.inl rfl))
   ·exact (hin b hb).imp (fun h=>(hf b).2 (.inr h)) id
  ·rcases hb with hb|hb
   ·exact (hf b).2 (.inr (hfg b hb))
   ·exact (hf b).2 (.inl (by rw[hb]))
theorem yD {α:Type} {F:α->List eF} {s:Nat} (hs:∀ x,(F x).length=s):∀ {L:List α} {k:Nat} {x:α},L[k]?=au x->((L.flatMap F).drop (k*s)).take s=F x
 | [],k,x,h=>by simp at h
 | y::L,0,x,h=>by
  simp at h
  subst h;rw[Nat.zero_mul,aX0,aT6,List.take_append_of_le_length (by rw[hs];exact aZ0 _),bJ (by rw[hs];exact aZ0 _)]
 | y::L,k+1,x,h=>by
  rw[aT6,show (k+1)*s=(F y).length+k*s by rw[hs,aZ4];omega,List.drop_append]
  simp only[List.getElem?_cons_succ] at h;have:=yD hs h;rw[Nat.add_sub_cancel_left,List.drop_eq_nil_of_le (by omega),aW1]
  exact this
theorem Hy {α:Type} {F:α->List eF} {s:Nat} (hs:∀ x,(F x).length=s):∀ {L:List α} {k:Nat} (y:α),k<L.length->(L.flatMap F).take (k*s)++F y++(L.flatMap F).drop (k*s+s)=(L.set k y).flatMap F
 | [],k,y,h=>by simp at h
 | x::L,0,y,h=>by
  rw[Nat.zero_mul,List.take_zero,aW1,aY7,List.set_cons_zero,aT6,aT6,List.drop_append,List.drop_eq_nil_of_le (by rw[hs];exact aZ0 _),hs,Nat.sub_self,aX0,aW1]
 | x::L,k+1,y,h=>by
  have ih:=Hy hs (L:=L) (k:=k) y (by simpa using h)
  have e:(k+1)*s=(F x).length+k*s:=by rw[hs,aZ4];omega
  rw[List.set_cons_succ,aT6,aT6,<- ih,e,List.take_length_add_append,show (F x).length+k*s+s=(F x).length+(k*s+s) by omega,List.drop_length_add_append]
  simp only[aT5]
def iF {α:Type} (s:Nat) (F:α->List eF) (L:List α):eF:=.sl s L.length (L.flatMap F)
theorem yE {F: α->List eF} (hF:∀ x,(F x).length=s) (hs:0<s) {w: aI} {a: Option ba5} {L: List α} {fp: Fp} (h:eF.ow w (iF s F L) (aj a L.length c) fp) {x: α} (hk:L[k]?=au x):∃ g off f,a=au ⟨g,off,ak⟩/\fp g/\(∀ b,f b->fp b)/\iO w g (off+k*s) (F x) f/\g<w.heap.size /\
  ∀ (w1:aI) (y:α),fH w w1 g (off+k*s) (F y) f->∃ fp',eF.ow w1 (iF s F (L.set k y)) (aj a L.length c) fp'/\(∀ b,fp' b->fp b\/w.heap.size<=b)/\eU fp w w1:=by
 have hkl:k<L.length:=by
  rcases aY6 k L.length with h|h
  ·exact h
  ·rw[bK h] at hk;cases hk
 obtain⟨g,off,f,h1,h2,h3,h4,h5,h6⟩:=aI9 h hkl hs;rw[yD hF hk] at h4;refine⟨g,off,f,h1,h2,h3,h4,h5,fun w1 y hb=>?_⟩
 have:=h6 w1 (F y) (hF y) hb;rw[Hy hF y hkl] at this;unfold iF;rw[aV3];exact this
theorem iO.el {F: α->List eF} (hF:∀ x,(F x).length=s) (hs:0<s) {w: aI} {o: Nat} {cs: List eF} {fp: Fp} (h:iO w B o cs fp) {L: List α} (hj:cs[j]?=au (iF s F L)) {x: α} (hk:L[k]?=au x):∃ g off c f,w.cell? ⟨B,o+j,ak⟩=au (aj (au ⟨g,off,ak⟩) L.length c)/\g≠B/\fp g/\(∀ b,f b->fp b)/\iO w g (off+k*s) (F x) f /\
  ∀ (w1:aI) (y:α),fH w w1 g (off+k*s) (F y) f->fH w w1 B o (cs.set j (iF s F (L.set k y))) fp:=by
 obtain⟨u,fj,hu,hfz,hc,hsub,hnB,hput⟩:=h.at hj;obtain⟨a,c,us,G,f0,rfl,ho⟩:=hc;have hc:eF.ow w (iF s F L) (aj a L.length c) fj:=⟨a,c,us,G,f0,rfl,ho⟩;obtain⟨g,off,f,rfl,h2,h3,h4,h5,h6⟩:=yE hF hs hc hk;refine⟨g,off,c,f,hu,fun e=>hnB (e ▸ h2),hsub g h2,fun b hb=>hsub b (h3 b hb),h4,fun w1 y hb=>?_⟩
 obtain⟨fp',k1,k2,k3⟩:=h6 w1 y hb;have:=(hput w1 (iF s F (L.set k y)) _ fp' k3 k1 k2).2.2.2 rfl;exact this
def seqB (n s i:Int):Bool:=inB n 1 8&&inB s 0 (n-1)&&inB i 0 100000
def zU (n s i:Int):Int:=if seqB n s i then n*i+s else -1
def vk (n q:Int):Bool:=inB n 1 8&&inB q 0 800000
def Hz (n q:Int):Int:=if vk n q then q%n else -1
def H6 (n q:Int):Int:=if vk n q then q/n else -1
theorem iQ {lo hi: Int}:inB x lo hi=aB↔lo<=x/\x<=hi:=by simp[inB]
theorem Zm {n s i: Int}:seqB n s i=aB↔(1<=n/\n<=8)/\(0<=s/\s<=n-1)/\0<=i/\i<=100000:=by simp[seqB,iQ,and_assoc]
theorem EF {n: Int}:vk n q=aB↔(1<=n/\n<=8)/\0<=q/\q<=800000:=by simp[vk,iQ]
def lX (cs:List Int):Bool:=okB cs&&cs.all (fun c=>decide (c<=100000))
def bel (cs:List Int) (q:Nat):Prop:=((q/cs.length:Nat):Int)<el cs (q%cs.length)
def vS (cs:List Int) (r:Nat):Prop:=(∀ q,q<r->bel cs q)/\¬ bel cs r
theorem vS.unique {cs: List Int} {r: Nat} (h:vS cs r) (k:vS cs s):r=s:=by
 rcases Nat.lt_trichotomy r s with h1|h1|h1
 ·exact absurd (k.1 r h1) h.2
 ·exact h1
 ·exact absurd (h.1 s h1) k.2
def FY (cs:List Int) (Z:List Int):Prop:=Z.Pairwise (·<·)/\∀ q:Int,q∈Z↔0<=q/\bel cs q.toNat
theorem DZ:∀ {A B:List Int},A.Pairwise (·<·)->B.Pairwise (·<·)->(∀ q,q∈A↔q∈B)->A=B:=by
 intro A
 induction A with
 | nil =>
  intro B _ _ h
  cases B with
  | nil=>rfl
  | cons b B=>exact absurd ((h b).2 (by simp)) (by simp)
 | cons a A ih =>
  intro B hA hB h
  cases B with
  | nil=>exact absurd ((h a).1 (by simp)) (by simp)
  | cons b B =>
   rw[dI] at hA hB
   have hab:a=b:=by
    have h1:=(h a).1 (by simp)
    have h2:=(h b).2 (by simp)
    rcases aX5.1 h1 with e|e
    ·exact e
    ·rcases aX5.1 h2 with e'|e'
     ·exact e'.symm
     ·have:=hB.1 a e
      have:=hA.1 b e';omega
   subst hab;rw[ih hA.2 hB.2 (fun q=>?_)]
   constructor
   ·intro hq
    rcases aX5.1 ((h q).1 (bV _ hq)) with e|e
    ·have:=hA.1 q hq;omega
    ·exact e
   ·intro hq
    rcases aX5.1 ((h q).2 (bV _ hq)) with e|e
    ·have:=hB.1 q hq;omega
    ·exact e
theorem FY.unique {cs Z Y: List Int} (h:FY cs Z) (k:FY cs Y):Z=Y:=DZ h.1 k.1 (fun q=>(h.2 q).trans (k.2 q).symm)
def dV (cs:List Int) (k:Nat) (b:Int):Int:=(aZ6 k).foldl (fun b i=>min b ((cs.length:Int)*el cs i+(i:Int))) b
theorem Dp (cs:List Int) (k:Nat) (b:Int):dV cs (k+1) b=min (dV cs k b) ((cs.length:Int)*el cs k+(k:Int)):=by simp[dV,aW2]
theorem az1 (cs:List Int) (b:Int):∀ k i,i<k->dV cs k b<=(cs.length:Int)*el cs i+(i:Int):=by
 intro k
 induction k with
 | zero=>intro i hi;omega
 | succ k ih =>
  intro i hi;rw[Dp];by_cases e:i=k
  ·subst e;omega
  ·have:=ih i (by omega);omega
theorem az2 (cs:List Int) (b:Int):∀ k,dV cs k b=b\/∃ i,i<k/\dV cs k b=(cs.length:Int)*el cs i+(i:Int):=by
 intro k
 induction k with
 | zero=>exact .inl rfl
 | succ k ih =>
  rw[Dp];by_cases h:dV cs k b<=(cs.length:Int)*el cs k+(k:Int)
  ·rw[show min (dV cs k b) ((cs.length:Int)*el cs k+(k:Int))=dV cs k b by omega]
   rcases ih with h'|⟨i,hi,h'⟩
   ·exact .inl h'
   ·exact .inr ⟨i,by omega,h'⟩
  ·exact .inr ⟨k,by omega,by omega⟩
theorem Oc {cs: List Int} (hc:∀ i,i<cs.length->0<=el cs i/\el cs i<=100000) (h8:cs.length<=8) {b: Int} (hb:0<=b/\b<=800000):∀ k,k<=cs.length->0<=dV cs k b/\dV cs k b<=800000:=by
 intro k
 induction k with
 | zero=>intro _;exact hb
 | succ k ih =>
  intro hk;have h1:=ih (by omega)
  have h2:=hc k (by omega)
  have h3:0<=(cs.length:Int)*el cs k:=aW9 (by omega) h2.1
  rw[Dp];omega
theorem VW {cs: List Int} (h1:1<=cs.length) (h8:cs.length<=8) (hc:∀ i,i<cs.length->0<=el cs i/\el cs i<=100000):vS cs (dV cs cs.length ((cs.length:Int)*el cs 0)).toNat:=by
 have hn:(0:Int)<cs.length:=by omega
 have c0:=hc 0 (by omega)
 have hb0:0<=(cs.length:Int)*el cs 0:=aW9 (by omega) c0.1
 have hb1:(cs.length:Int)*el cs 0<=8*100000:=Int.mul_le_mul (by omega) c0.2 c0.1 (by omega)
 have hb:=Oc hc h8 (b:=(cs.length:Int)*el cs 0) ⟨hb0,by omega⟩ cs.length (aZ0 _)
 have hle:=az1 cs ((cs.length:Int)*el cs 0) cs.length
 have his:∃ i,i<cs.length/\dV cs cs.length ((cs.length:Int)*el cs 0)=(cs.length:Int)*el cs i+(i:Int):=by
  rcases az2 cs ((cs.length:Int)*el cs 0) cs.length with h|h
  ·exact⟨0,by omega,by rw[h];simp⟩
  ·exact h
 generalize dV cs cs.length ((cs.length:Int)*el cs 0)=R at *;refine⟨fun q hq=>?_,fun hbel=>?_⟩
 ·unfold bel
  have hm:q%cs.length<cs.length:=aZ7 _ (by omega)
  have h2:=hle (q%cs.length) hm
  have hd:(q:Int)=(cs.length:Int)*((q/cs.length:Nat):Int)+((q%cs.length:Nat):Int):=by
   have:=Nat.div_add_mod q cs.length
   exact_mod_cast this.symm
  have h3:(cs.length:Int)*((q/cs.length:Nat):Int)<(cs.length:Int)*el cs (q%cs.length):=by omega
  exact Int.lt_of_mul_lt_mul_left h3 (by omega)
 ·obtain⟨i,hi,hR⟩:=his
  have hci:=hc i hi;obtain⟨c,hcc⟩:∃ c:Nat,el cs i=(c:Int):=⟨(el cs i).toNat,by omega⟩
  have hq:R.toNat=cs.length*c+i:=by
   rw[hR,hcc];have:(cs.length:Int)*(c:Int)+(i:Int)=((cs.length*c+i:Nat):Int):=by simp
   rw[this,Int.toNat_natCast]
  unfold bel at hbel;rw[hq,Nat.mul_add_mod,Nat.mod_eq_of_lt hi,Nat.mul_add_div (by omega),Nat.div_eq_of_lt hi,hcc] at hbel
  omega
def row (H:List (List Int)) (i:Nat):List Int:=H.getD i []
def zB (B:Int) (h:List Int):Prop:=(∀ i,i<h.length->0<=el h i/\el h i<=B-1)/\∀ i,i<h.length-1->el h i<el h (i+1)
instance (B:Int) (h:List Int):Decidable (zB B h):=by unfold zB;infer_instance
def al4 (N B:Int) (H:List (List Int)):Prop:=(1<=N/\N<=12)/\(1<=B/\B<=12)/\(H.length:Int)=N/\((row H 0).length:Int)=B/\∀ i,i<H.length->zB B (row H i)
instance (N B:Int) (H:List (List Int)):Decidable (al4 N B H):=by unfold al4;infer_instance
def gY:List Int->Int->List Int
 | [],n=>[n]
 | x::l,n=>if x<n then x::gY l n else if x=n then x::l else n::x::l
theorem nV {n: Int}:q∈gY h n↔q=n\/q∈h:=by
 induction h with
 | nil=>simp[gY]
 | cons x l ih =>
  unfold gY
  split
  ·rw[aX5,ih,aX5]
   constructor
   ·rintro (h|h|h)
    ·exact .inr (.inl h)
    ·exact .inl h
    ·exact .inr (.inr h)
   ·rintro (h|h|h)
    ·exact .inr (.inl h)
    ·exact .inl h
    ·exact .inr (.inr h)
  ·split
   ·rename_i h1 h2
    subst h2;simp
   ·simp
theorem Ce:(∀ i,i<h.length-1->el h i<el h (i+1))↔h.Pairwise (·<·):=by
 rw[List.pairwise_iff_getElem]
 constructor
 ·intro hr i j hi hj hij
  have:∀ d,∀ (hd:i+d+1<h.length),el h i<el h (i+d+1):=by
   intro d
   induction d with
   | zero=>intro hd;exact hr i (by omega)
   | succ d ih=>intro hd;exact Int.lt_trans (ih (by omega)) (hr (i+d+1) (by omega))
  have h2:=this (j-i-1) (by omega)
  rw[show i+(j-i-1)+1=j by omega] at h2
  simpa[el,hi,hj] using h2
 ·intro hr i hi
  have:=hr i (i+1) (by omega) (by omega) (by omega)
  simpa[el,show i<h.length by omega,show i+1<h.length by omega] using this
theorem wH {n: Int} (hr:h.Pairwise (·<·)):(gY h n).Pairwise (·<·):=by
 induction h with
 | nil=>simp[gY]
 | cons x l ih =>
  rw[dI] at hr;unfold gY
  split
  ·rename_i h1
   rw[dI];refine⟨fun q hq=>?_,ih hr.2⟩
   rcases nV.1 hq with h|h
   ·rw[h];exact h1
   ·exact hr.1 q h
  ·split
   ·exact dI.2 hr
   ·rename_i h1 h2
    rw[dI];refine⟨fun q hq=>?_,dI.2 hr⟩
    rcases aX5.1 hq with h|h
    ·omega
    ·have:=hr.1 q h;omega
abbrev Ps:=Int×Int×Int
def pat (cs:List Ps) (i:Nat):Ps:=cs.getD i (0,0,0)
def Zn (N:Int) (H:List (List Int)) (cs:List Ps) (i:Nat):Prop :=
 (0<=(pat cs i).1/\(pat cs i).1<=N-1)/\(0<=(pat cs i).2.1/\(pat cs i).2.1<=N-1)/\(pat cs i).2.2∈row H (pat cs i).1.toNat/\∀ k,k<i->(pat cs k).1≠(pat cs i).1/\(pat cs k).2.1≠(pat cs i).2.1
instance (N:Int) (H:List (List Int)) (cs:List Ps) (i:Nat):Decidable (Zn N H cs i):=by unfold Zn;infer_instance
def VX (N:Int) (H:List (List Int)) (cs:List Ps):Prop:=∀ i,i<cs.length->Zn N H cs i
instance (N:Int) (H:List (List Int)) (cs:List Ps):Decidable (VX N H cs):=by unfold VX;infer_instance
def al5 (B:Int) (H:List (List Int)):Prop:=∀ i,i<H.length->((row H i).length:Int)=B
instance (B:Int) (H:List (List Int)):Decidable (al5 B H):=by unfold al5;infer_instance
structure VV (w:aI) (a:Option ba5) (len cap:Nat) (H:List (List Int)):Prop where
 n:H.length=len
 le:len<=cap
 mx:cap<=ba2
 row:∀ i,i<len->∃ b off x c,a=au ⟨b,off,ak⟩/\w.cell? ⟨b,off+i,ak⟩=au (aj x (row H i).length c)/\Vec w x (row H i).length (row H i)/\(row H i).length<=c/\c<=ba2
theorem H7 {xs: List Int}:x∈xs↔∃ j,j<xs.length/\el xs j=x:=by
 constructor
 ·intro h
  obtain⟨i,hi,rfl⟩:=List.getElem_of_mem h;exact⟨i,hi,by rw[uq hi]⟩
 ·rintro⟨j,hj,rfl⟩
  exact kM hj
def sZ (xs:List Int):Bool:=decide (∀ i,i<xs.length-1->el xs i<el xs (i+1))
theorem qW (a:Option ba5) (len cap:Nat) (x:Int) (xs:List Int) (w:aI) (hv:Vec w a len xs) (hm:len<=ba2) :
  ba3 aZ8 113 #[aj a len cap,ah aA x] w fun e w'=>e=aK (aF (decide (x∈xs)))/\w'=w:=by
 unfold ba2 at hm;have HL:=dP hv.1;have hc:=hv.2.2;clear hv;go_enter Tryz.func113,Tryz.ntmps113
 go_wp2
 go_loop [5] (fun i=>∃ k:Nat,k<=len/\i=ah aA k/\∀ j,j<k->el xs j≠x) (fun i=>len-(ba4 i).toNat)
 case atStart=>exact⟨0,aZ1 _,rfl,fun j hj=>by omega⟩
 case round =>
  obtain⟨k,hk,rfl,hno⟩:=hrel;have HN:=dP hno;clear hno;by_cases hlt:k<len
  ·rcases hc with h0|⟨b,off,rfl,hc⟩
   ·omega
   have hck:=hc k hlt;by_cases he:el xs k=x
   ·have hb:(el xs k==x)=aB:=by simpa using he
    have HF:aG (decide (x∈xs)=aB):=by rw[aG,decide_eq_true_eq];exact H7.2 ⟨k,by rw[HL.out];exact hlt,he⟩
    clear he;go_wp2;go_ret
    exact⟨dZ (by rw[HF.out]),rfl⟩
   ·have hb:(el xs k==x)=aC:=by simpa using he
    have HE:=dP he;clear he;go_wp2
    go_round
    case rel => exact ⟨k + 1,by omega,by go_num,fun j hj => by
     rcases bD.1 hj with h|h
     ·exact HN.out j h
     ·rw[h];exact HE.out⟩
    case measure=>simp[ba4];omega
  ·have HF:aG (decide (x∈xs)=aC):=by
    rw[aG,decide_eq_false_iff_not,H7];rintro⟨j,hj,e⟩;exact HN.out j (by rw[HL.out] at hj;omega) e
   clear hc;go_wp2;go_ret
   exact⟨dZ (by rw[HF.out]),rfl⟩
theorem Gp (a:Option ba5) (len cap:Nat) (xs:List Int) (w:aI) (hv:Vec w a len xs) (hm:len<=ba2) :
  ba3 aZ8 112 #[aj a len cap] w fun e w'=>e=aK (aF (sZ xs))/\∃ n,w'=w.drewN n:=by
 unfold ba2 at hm;have HL:=dP hv.1;have hc:=hv.2.2;clear hv;go_enter Tryz.func112,Tryz.ntmps112
 go_wp2
 go_loopw [3] (fun i wr=>∃ k n:Nat,k<=len/\i=ah aA ((k:Int)+1)/\wr=w.drewN n/\∀ j,j<k->el xs j<el xs (j+1)) (fun i _=>(len+1)-(ba4 i).toNat)
 case atStart=>exact⟨0,0,aZ1 _,rfl,rfl,fun j hj=>by omega⟩
 case round =>
  obtain⟨k,n,hk,rfl,rfl,hr⟩:=hrel;have HR:=dP hr;clear hr;by_cases hlt:k+1<len
  ·rcases hc with h0|⟨b,off,rfl,hc⟩
   ·omega
   have c1:=hc (k+1) hlt;have c0:=hc k (by omega)
   have h1:(k:Int)+1<(len:Int):=by omega
   have h2:(k:Int)<len:=by omega
   have h0:(0:Int)<=(k:Int)+1:=by omega
   have h3:(0:Int)<=k:=by omega
   have e1:((k:Int)+1).toNat=k+1:=by omega
   by_cases hx:el xs k<el xs (k+1)
   ·have hd:decide (el xs (k+1)<=el xs k)=aC:=by simp;omega
    have HX:=dP hx;clear hx;go_wp2_with fail
    go_quiet (fail)
    go_wp2;go_roundw
    case rel => exact ⟨k + 1,_,by omega,by go_num,rfl,fun j hj => by
     rcases bD.1 hj with h|h
     ·exact HR.out j h
     ·rw[h];exact HX.out⟩
    case measure=>simp[ba4];omega
   ·have hd:decide (el xs (k+1)<=el xs k)=aB:=by simp;omega
    have HF:aG (sZ xs=aC):=by
     rw[aG,sZ,decide_eq_false_iff_not];intro h;exact hx (h k (by rw[HL.out];omega))
    clear hx;go_wp2_with fail
    go_quiet (fail)
    go_wp2;go_ret
    exact⟨dZ (by rw[HF.out]),n+nq,by simp⟩
  ·have hd:decide ((k:Int)+1<(len:Int))=aC:=by simp;omega
   have HF:aG (sZ xs=aB):=by
    rw[aG,sZ,decide_eq_true_eq];intro j hj;exact HR.out j (by rw[HL.out] at hj;omega)
   clear hc;go_wp2;go_ret
   exact⟨dZ (by rw[HF.out]),_,rfl⟩
structure Rw where
 ver:Int
 txt:List (List UInt8)
 got:List Int
 dQ:List Int
 wed:Bool
 dV:Bool
 dW:Int
 dU:List Int
def nJ:Rw:=⟨0,[],[],[],aC,aC,0,[]⟩
def mX (l:List Int) (n:Int):Bool:=l.all (fun x=>inB x 0 (n-1))&&sZ l
def lZ (v:List Int) (n:Int):Bool:=okB v&&(decide ((v.length:Int)=n)&&v.all (fun x=>decide (x<=12)))
def gu (r:Rw) (n:Int):Bool :=
 inB n 1 5 && (inB r.ver 0 1000000 && (decide (r.txt.length <= 12) && (lZ r.got n && (mX r.dQ n && (r.txt.all (fun t => decide (t.length <= 20)) &&
  (if r.dV then r.wed&&(inB r.dW 0 (n-1)&&lZ r.dU n) else decide (r.dW=0)&&decide (r.dU=[])))))))
def jV (n:Int):Rw:=if inB n 1 5 then ⟨0,[],aW5 n.toNat 0,[],aC,aC,0,[]⟩ else nJ
def sv (l:List UInt8):ByteArray:=⟨l.toArray⟩
theorem zL (l:List UInt8):(sv l).size=l.length:=by simp[sv,ByteArray.size]
theorem RH (l:List UInt8):(sv l).toList=l:=by
 have h:=ByteArray.toList_mk l;exact h
theorem Tryz.info5:(Tryz.prog.info? 5).map (fun i=>(i.zero,i.size,i.bytes))=au (au (ah .u8 0),1,1):=by kernel_rfl
section
attribute [local irreducible] sv
end
abbrev Lg:=Int×List (List UInt8)
def az3 (l:Lg):Prop:=(1<=l.1/\l.1<=1000000)/\l.2.length<=40/\∀ i,i<l.2.length->(l.2.getD i []).length<=100
instance (l:Lg):Decidable (az3 l):=by unfold az3;infer_instance
def az4 (l:Lg) (v:Int) (s:List UInt8):Prop:=v=l.1+(l.2.length:Int)/\l.2.length≠40/\s.length<=100
instance (l:Lg) (v:Int) (s:List UInt8):Decidable (az4 l v s):=by unfold az4;infer_instance
def az5 (l:Lg) (v:Int):Prop:=l.1<=v/\v<=l.1+(l.2.length:Int)-1
instance (l:Lg) (v:Int):Decidable (az5 l v):=by unfold az5;infer_instance
section
theorem Tryz.info9:(Tryz.prog.info? 9).map (fun i=>(i.zero,i.size,i.bytes))=au (au (.string ⟨#[]⟩),1,16):=by kernel_rfl
theorem yh {T: Nat} (h:(Tryz.prog.info? T).map (fun i=>(i.zero,i.size,i.bytes))=au (au z,s,b)):∃ i,Tryz.prog.info? T=au i/\i.zero=au z/\i.size=s/\i.bytes=b:=by
 cases hq:Tryz.prog.info? T with
 | none=>rw[hq] at h;simp at h
 | some i=>rw[hq] at h;simp at h;exact⟨i,rfl,h.1,h.2.1,h.2.2⟩
def sO (zs:List (List UInt8)):List aJ:=zs.map (fun s=>Value.string (sv s))
theorem an6 (a b:List (List UInt8)):sO (a++b)=sO a++sO b:=by simp[sO]
theorem an7 (zs:List (List UInt8)):∀ u∈sO zs,u.oneCell'=aB:=by
 intro u hu;simp only[sO,List.mem_map] at hu;obtain⟨s,_,rfl⟩:=hu
 rfl
def OS (w:aI) (g off n cap:Nat) (zs:List (List UInt8)):Prop:=jk w 1 g off n cap (sO zs)
theorem OS.length {w: aI} {n cap: Nat} {zs: List (List UInt8)} (h:OS w g off n cap zs):zs.length=n:=by have:=h.len;simpa[sO] using this
theorem OS.cellAt {w: aI} {n cap: Nat} {zs: List (List UInt8)} (h:OS w g off n cap zs) (hi:i<n):w.cell? ⟨g,off+i,ak⟩=au (aN (sv (zs.getD i []))):=by
 have hl:=h.length;rw[h.cell i (by omega)]
 simp[sO,show i<zs.length by omega]
attribute [local irreducible] sv
end
section
attribute [local irreducible] sv
end
section
def xg (w:aI) (a:Option ba5) (T:List (List UInt8)):Prop:=T.length=0\/∃ b off,a=au ⟨b,off,ak⟩/\∀ i,i<T.length->w.cell? ⟨b,off+i,ak⟩=au (aN (sv (T.getD i [])))
theorem xg.below {w w': aI} {a: Option ba5} {T: List (List UInt8)} (h:xg w a T) (hb:Below w.heap.size w w'):xg w' a T:=by
 rcases h with h|⟨b,off,ha,hc⟩
 ·exact .inl h
 ·exact .inr ⟨b,off,ha,fun i hi=>(hb.cell (bG _ _ (hc i hi))).trans (hc i hi)⟩
def ny (T:List (List UInt8)):eF:=.sl 1 T.length (pl (sO T))
theorem RI (T:List (List UInt8)):(sO T).length=T.length:=by simp[sO]
theorem RJ {T: List (List UInt8)} (h:i<T.length):(sO T)[i]?=au (aN (sv (T.getD i []))):=by simp[sO,h]
theorem qI {w: aI} {T: List (List UInt8)} {fp: Fp}:eF.ow w (ny T) u fp↔∃ a c G,u=aj a T.length c/\iV w 1 a T.length c (sO T) G/\∀ b,fp b↔G=au b:=by
 constructor
 ·rintro⟨a,c,us,G,f,rfl,ho,hl,hn,hf⟩
  obtain⟨rfl,h0⟩:=rP.1 hl;exact⟨a,c,G,rfl,ho,fun b=>(hf b).trans ⟨fun h=>h.elim id (fun h=>absurd h (h0 b)),.inl⟩⟩
 ·rintro⟨a,c,G,rfl,ho,hf⟩
  exact⟨a,c,_,G,fun _=>False,rfl,ho,rP.2 ⟨rfl,fun _ h=>h⟩,fun _ _ h=>h,fun b=>(hf b).trans ⟨.inl,fun h=>h.elim id False.elim⟩⟩
theorem VY {w: aI} {T: List (List UInt8)} (h:eF.vw w (ny T) u):∃ a c,u=aj a T.length c/\xg w a T/\T.length<=c/\c<=ba2:=by
 obtain⟨a,c,us,rfl,h1,h2,h3,h,hl⟩:=h;have e:=ED.1 hl;subst e;refine⟨a,c,rfl, ?_,h1,h2⟩;rcases h with h|⟨b,off,ha,hc⟩
 ·exact .inl h
 ·refine .inr ⟨b,off,ha,fun i hi=>?_⟩
  rw[hc i (by omega),RJ hi]
theorem iV.os {w: aI} {a: Option ba5} {T: List (List UInt8)} (h:iV w 1 a T.length c (sO T) G):(T=[]/\c=0/\G=ak)\/∃ g off,a=au ⟨g,off,ak⟩/\OS w g off T.length c T/\G=au g:=by
 rcases h with ⟨h1,h2,h3,h4,_⟩|h
 ·exact .inl ⟨aT h1,h2,h4⟩
 ·exact .inr h
theorem xg.news {w: aI} {a: Option ba5} {T: List (List UInt8)} (h:xg w a T):T.length=0\/∃ ad,a=au ad/\∀ j u,(sO T)[j]?=au u->w.cell? (ad.add j)=au u:=by
 rcases h with h|⟨b,off,rfl,hc⟩
 ·exact .inl h
 ·refine .inr ⟨_,rfl,fun j u hu=>?_⟩
  have hl:=(List.getElem?_eq_some_iff.1 hu).1;rw[RI] at hl;rw[RJ hl] at hu
  cases hu
  rw[zS];exact hc j hl
def BL (T:List (List UInt8)):Nat->Nat
 | 0=>0
 | k+1=>BL T k+(T.getD k []).length
theorem RN (T:List (List UInt8)):∀ {i k:Nat},i<k->(T.getD i []).length<=BL T k
 | i,0,h=>by omega
 | i,k+1,h=>by
  rcases bD.1 h with h|rfl
  ·have:=RN T h
   simp only[BL];omega
  ·simp only[BL];omega
attribute [local irreducible] sv
theorem an8 (w:aI) (n:Nat) (hn:n<=ba2):OS (w.alloc (aH (madeCells #[.string ⟨#[]⟩] n) 9)) w.heap.size 0 n n (aW5 n []):=by
 have h:=Dn w #[.string ⟨#[]⟩] 1 n 9 rfl (by omega) hn
 have e:(aW5 n (#[Value.string ⟨#[]⟩]:Array aJ).toList).flatten=sO (aW5 n []):=by
  unfold sO;rw[List.map_replicate];have:sv []=⟨#[]⟩:=by unfold sv;rfl
  rw[this];simp
 rw[e,Nat.mul_one] at h;exact h
theorem UF (a a':Option ba5) (cap cap':Nat) (T:List (List UInt8)) (w:aI) (hz:xg w a T) (hy:xg w a' T) (hm:T.length<=ba2) :
  ba3 aZ8 66 #[aj a T.length cap,aj a' T.length cap'] w fun e w'=>e=aK (aF aB)/\Grew w w':=by
 unfold ba2 at hm;have HZ:=dP hz;have HY:=dP hy;have hne:((T.length:Int) != (T.length:Int))=aC:=by simp
 clear hz hy;go_enter Tryz.func66,Tryz.ntmps66
 go_wp2;clear hne
 go_loopw [5] (fun i wr=>∃ j:Nat,j<=T.length/\i=ah aA j/\∃ q,wr=w.drewN q) (fun i _=>T.length-(ba4 i).toNat)
 case atStart=>exact⟨0,aZ1 _,rfl,0,rfl⟩
 case round =>
  obtain⟨j,hj,rfl,q,rfl⟩:=hrel;by_cases hlt:j<T.length
  ·rcases HZ.out with h0|⟨b,off,rfl,hc⟩
   ·omega
   rcases HY.out with h0|⟨b',off',rfl,hc'⟩
   ·omega
   have c1:=hc j hlt;have c2:=hc' j hlt;have j1:(j:Int)<T.length:=by omega
   have j0:(0:Int)<=j:=by omega
   generalize T.getD j []=A at *;have hb:((sv A).toList==(sv A).toList)=aB:=by simp
   clear hc hc';go_wp2_with fail
   go_quiet (fail)
   go_wp2;go_roundw
   case rel=>exact⟨j+1,by omega,by go_num,_,rfl⟩
   case measure=>simp[ba4];omega
  ·have hjl:j=T.length:=by omega
   subst hjl;go_wp2;go_ret
   exact⟨rfl,(Grew.refl _).drewN _⟩
end
section
theorem Bx.r2 {w: aI} {x y: aJ} (h:Bx w B T #[x,y]):w.cell? ⟨B,0,ak⟩=au x/\w.cell? ⟨B,1,ak⟩=au y:=⟨h.at 0 rfl,h.at 1 rfl⟩
theorem UG {w: aI} (t ty e:TypeId) (i:TypeInfo) (ht:P.underlying t=au (.slice e)) (hi:P.info? e=au i) (hz:i.zero=au (.string ⟨#[]⟩)) (hsize:i.size=1) (hby:i.bytes=16)
  {a:Option ba5} (ha:sU a) {x:Option ba5} {c:Nat} {T:List (List UInt8)} (hv:xg w x T) (hm:T.length<=1048576) :
  ∃ a' c' w' fp',(aV5 #[t,t] ty #[aj a 0 0,aj x T.length c]).run P w=.ok (aj a' T.length c') w'/\eF.ow w' (ny T) (aj a' T.length c') fp'/\eU (fun _=>False) w w'/\∀ b,fp' b->b=w.heap.size:=by
 obtain⟨a',c',G',w',hr,ho',hg,hat⟩:=nU (P:=P) w t ty e i _ 1 16 ht hi hz hsize hby rfl (by omega) a 0 0 [] ak (iV.nil _ _ ha) x T.length c (sO T) (by rw[RI];omega) hv.news (an7 T) (by unfold ba2;omega) (by omega)
 simp only[aY7,aW1] at hr ho';refine⟨a',c',w',fun b=>G'=au b,hr,qI.2 ⟨a',c',G',rfl,ho',fun b=>ba1⟩,(eU.l7 hg).mono (fun b _ hb=>by cases hb),fun b hb=>?_⟩
 rcases hat with h|h
 ·rw[h] at hb;cases hb
 ·rw[h] at hb;cases hb;rfl
attribute [local irreducible] sv
end
section
def Lc (w:aI) (a:Option ba5) (c:Nat) (T:List (List UInt8)):Prop:=(T=[]/\c=0/\sU a)\/∃ b off,a=au ⟨b,off,ak⟩/\T.length<=c/\c<=ba2/\∀ i,i<T.length->w.cell? ⟨b,off+i,ak⟩=au (aN (sv (T.getD i [])))
theorem Lc.RP {w: aI} {a: Option ba5} {T: List (List UInt8)} (h:Lc w a c T):xg w a T:=by
 rcases h with ⟨h,_⟩|⟨b,off,h1,h2,h3,h4⟩
 ·exact .inl (by rw[h];rfl)
 ·exact .inr ⟨b,off,h1,h4⟩
theorem Lc.below {w w': aI} {a: Option ba5} {T: List (List UInt8)} (h:Lc w a c T) (hb:Below w.heap.size w w'):Lc w' a c T:=by
 rcases h with h|⟨b,off,ha,h1,h2,hc⟩
 ·exact .inl h
 ·exact .inr ⟨b,off,ha,h1,h2,fun i hi=>(hb.cell (bG _ _ (hc i hi))).trans (hc i hi)⟩
theorem iV.txp {w: aI} {a: Option ba5} {T: List (List UInt8)} (h:iV w 1 a T.length c (sO T) G):Lc w a c T:=by
 have hp:=h.plain;rcases h.os with ⟨h1,h2,_⟩|⟨g,off,h1,h2,_⟩
 ·exact .inl ⟨h1,h2,hp⟩
 ·exact .inr ⟨g,off,h1,h2.le,h2.max,fun i hi=>h2.cellAt hi⟩
theorem Oe {w: aI} {a: Option ba5} {T: List (List UInt8)} {fp: Fp} (h:eF.ow w (ny T) (aj a T.length c) fp):Lc w a c T:=by
 obtain⟨a',c',G,e,ho,_⟩:=qI.1 h
 cases e
 exact ho.txp
attribute [local irreducible] sv
end
end Go.Proofs.YtafimeakbdmkjaaGreat