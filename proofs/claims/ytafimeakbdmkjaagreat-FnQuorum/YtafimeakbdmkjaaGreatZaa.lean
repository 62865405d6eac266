/-
  Texts in one.
-/
import Derived.Test.YtafimeakbdmkjaaGreatRows
import Derived.WalkKit
import Derived.ProofKit
import Derived.Below
import Derived.Lib.MinMax
import Derived.Deep.QuietTactic
import Derived.BigQuiet
import Derived.WalkLawsBesides
import Derived.Deep.OwnRows
import Derived.OpenShut
import Derived.Deep.AppendLies
import Derived.Deep.RegionHeld3
import Derived.Deep.DrawnRows
import Derived.ArgAppend
import Derived.Laws.IdiomCopy
import Derived.Shelf.SlSortCmp.QuietGrown
namespace Go.Proofs.YtafimeakbdmkjaaGreat
set_option linter.unusedVariables false
set_option linter.unusedSimpArgs false
open Go.RowKit Go.Sort
set_option maxRecDepth 100000
set_option maxHeartbeats 12800000
theorem aj {p:Prop} (h:p):Go.RowKit.Hid p:=h
section
open Go.RowKit
def el (xs:List Int) (i:Nat):Int:=xs.getD i 0
def Vec (w:World) (a:Option Addr) (len:Nat) (xs:List Int):Prop :=
 xs.length=len∧(∀ x∈xs,-9223372036854775808≤x∧x≤9223372036854775807) ∧
  (len=0∨∃ b off,a=some ⟨b,off,none⟩∧∀ i,i<len→w.cell? ⟨b,off+i,none⟩=some (.int .i64 (el xs i)))
theorem aH {a b:Bool} (h:a=b):Ending.returned (.bool a)=.returned (.bool b):=by rw[h]
theorem jC {k:IntKind} {a b:Int} (h:a=b):Ending.returned (.int k a)=.returned (.int k b):=by rw[h]
def inB (x lo hi:Int):Bool:=decide (lo≤x)&&decide (x≤hi)
def okB (xs:List Int):Bool:=decide (1≤xs.length)&&decide (xs.length≤8)&&xs.all (fun x=>inB x 0 1000000)
def vW (x:Int) (xs:List Int):Int:=xs.foldl min x
def hiL (x:Int) (xs:List Int):Int:=xs.foldl max x
theorem o8 {xs:List Int} {i:Nat} (h:i<xs.length):el xs i=xs[i]:=by simp[el,h]
theorem iF {xs:List Int} {i:Nat} (h:i<xs.length):el xs i∈xs:=by
 rw[o8 h];exact List.getElem_mem h
theorem take_snoc {xs:List Int} {k:Nat} (h:k<xs.length):xs.take (k+1)=xs.take k++[el xs k]:=by
 rw[List.take_succ_eq_append_getElem h,o8 h]
theorem U0 (x:Int) (xs:List Int) (y:Int):vW x (xs++[y])=min (vW x xs) y:=by simp[vW]
theorem I9 (x:Int) (xs:List Int) (y:Int):hiL x (xs++[y])=max (hiL x xs) y:=by simp[hiL]
theorem qj {xs:List Int} (h:xs.length<1∨8<xs.length):okB xs=false:=by
 unfold okB;rcases h with h|h<;>simp<;>omega
theorem Ja {xs:List Int} {k:Nat} (hk:k<xs.length) (h:inB (el xs k) 0 1000000=false):okB xs=false:=by
 unfold okB
 have:(xs.all fun x=>inB x 0 1000000)=false:=by
  rw[List.all_eq_false];exact⟨_,iF hk,by simp[h]⟩
 simp[this]
theorem xZ {xs:List Int} (h1:1≤xs.length) (h8:xs.length≤8) (h:∀ j,j<xs.length→inB (el xs j) 0 1000000=true):okB xs=true:=by
 unfold okB
 have:(xs.all fun x=>inB x 0 1000000)=true:=by
  rw[List.all_eq_true];intro x hx;obtain⟨i,hi,rfl⟩:=List.getElem_of_mem hx;have:=h i hi
  rwa [o8 hi] at this
 simp[this,h1,h8]
theorem dS (x lo hi:Int) (w:World) :
  Calls Tryz.prog 40 #[.int .i64 x,.int .i64 lo,.int .i64 hi] w fun e w'=>e=.returned (.bool (inB x lo hi))∧w'=w:=by
 unfold inB;by_cases h:lo≤x
 ·go_enter Tryz.func40,Tryz.ntmps40
  go_wp2;go_ret
  exact⟨aH (by simp[h]),rfl⟩
 ·have h':decide (lo≤x)=false:=by simpa using h
  go_enter Tryz.func40,Tryz.ntmps40
  go_wp2;go_ret
  exact⟨aH (by simp),rfl⟩
end
section
open Go.RowKit
theorem mY (a:Option Addr) (len cap:Nat) (xs:List Int) (w:World) (hv:Vec w a len xs) (hm:len≤maxLen) :
  Calls Tryz.prog 84 #[.slice a len cap] w fun e w'=>e=.returned (.bool (okB xs))∧w'=w:=by
 unfold maxLen at hm;obtain⟨hlen,hb,hcs⟩:=hv;by_cases h1:(len:Int)<1
 ·go_enter Tryz.func84,Tryz.ntmps84
  go_wp2;go_ret
  exact⟨aH (by rw[qj (by omega)]),rfl⟩
 ·have h1':decide ((len:Int)<1)=false:=by simpa using h1
  by_cases h8:(8:Int)<(len:Int)
  ·go_enter Tryz.func84,Tryz.ntmps84
   go_wp2;go_ret
   exact⟨aH (by rw[qj (by omega)]),rfl⟩
  ·have h8':decide ((8:Int)<(len:Int))=false:=by simpa using h8
   rcases hcs with h0|⟨b,off,rfl,hc⟩
   ·omega
   ·have HL:Hid (xs.length=len):=hlen
    clear hlen;go_enter Tryz.func84,Tryz.ntmps84
    go_wp2
    go_loop [3] (fun i=>∃ k:Nat,k≤len∧i=.int .i64 k∧∀ j,j<k→inB (el xs j) 0 1000000=true) (fun i=>len-(intOf i).toNat)
    case atStart=>exact⟨0,Nat.zero_le _,rfl,fun j hj=>by omega⟩
    case round =>
     obtain⟨k,hk,rfl,hall⟩:=hrel;have HA:=aj hall;clear hall;by_cases hlt:k<len
     ·have hck:=hc k hlt
      cases hin:inB (el xs k) 0 1000000
      ·go_wp2_with (go_at_call 40;refine (dS _ _ _ _).mono ?_;rintro e w' ⟨rfl,rfl⟩)
       go_ret
       exact⟨aH (by rw[Ja (by rw[HL.out];exact hlt) hin]),rfl⟩
      ·go_wp2_with (go_at_call 40;refine (dS _ _ _ _).mono ?_;rintro e w' ⟨rfl,rfl⟩)
       go_round
       case rel => exact ⟨k + 1,by omega,by go_num,fun j hj => by
        rcases Nat.lt_succ_iff_lt_or_eq.1 hj with h|h
        ·exact HA.out j h
        ·rw[h];exact hin⟩
       case measure=>simp[intOf];omega
     ·go_wp2
      go_ret
      exact⟨aH (by rw[xZ (by rw[HL.out];omega) (by rw[HL.out];omega) (fun j hj=>HA.out j (by rw[HL.out] at hj;omega))]),rfl⟩
theorem GK (x : Int) (a : Option Addr) (len cap : Nat) (xs : List Int) (w : World) (hv : Vec w a len xs) (hm : len ≤ maxLen) :
    Calls Tryz.prog 180 #[.int .i64 x, .slice a len cap] w fun e w'=>e=.returned (.int .i64 (vW x xs))∧w'=w:=by
  unfold maxLen at hm;obtain⟨hlen, hb, hcs⟩:=hv;have HL:=aj hlen;clear hlen hb;rcases hcs with h0|⟨b, off, rfl, hc⟩
  all_goals
    go_enter Tryz.func180, Tryz.ntmps180
    go_wp2
    go_loop [5, 7, 11] (fun m n i=>∃ k:Nat, k≤len∧i=.int .i64 k∧m=.int .i64 (vW x (xs.take k))) (fun _ _ i=>len-(intOf i).toNat)
    case atStart=>exact⟨0, Nat.zero_le _, rfl, rfl⟩
    case round =>
      obtain⟨k, hk, rfl, rfl⟩:=hrel;by_cases hlt:k<len
      · first
          | omega
          | (have hck := hc k hlt
             have HS:Hid (vW x (xs.take (k+1))=min (vW x (xs.take k)) (el xs k)):=by
               rw[Hid, take_snoc (by rw[HL.out]; exact hlt), U0]
             go_wp2
             go_round
             case rel=>exact⟨k+1, by omega, by go_num, by rw[HS.out]⟩
             case measure=>simp[intOf]; omega)
      · go_wp2
        go_ret
        exact⟨jC (by rw[List.take_of_length_le (by rw[HL.out]; omega)]), rfl⟩
theorem Jb (x : Int) (a : Option Addr) (len cap : Nat) (xs : List Int) (w : World) (hv : Vec w a len xs) (hm : len ≤ maxLen) :
    Calls Tryz.prog 164 #[.int .i64 x, .slice a len cap] w fun e w'=>e=.returned (.int .i64 (hiL x xs))∧w'=w:=by
  unfold maxLen at hm;obtain⟨hlen, hb, hcs⟩:=hv;have HL:=aj hlen;clear hlen hb;rcases hcs with h0|⟨b, off, rfl, hc⟩
  all_goals
    go_enter Tryz.func164, Tryz.ntmps164
    go_wp2
    go_loop [5, 7, 11] (fun m n i=>∃ k:Nat, k≤len∧i=.int .i64 k∧m=.int .i64 (hiL x (xs.take k))) (fun _ _ i=>len-(intOf i).toNat)
    case atStart=>exact⟨0, Nat.zero_le _, rfl, rfl⟩
    case round =>
      obtain⟨k, hk, rfl, rfl⟩:=hrel;by_cases hlt:k<len
      · first
          | omega
          | (have hck := hc k hlt
             have HS:Hid (hiL x (xs.take (k+1))=max (hiL x (xs.take k)) (el xs k)):=by
               rw[Hid, take_snoc (by rw[HL.out]; exact hlt), I9]
             go_wp2
             go_round
             case rel=>exact⟨k+1, by omega, by go_num, by rw[HS.out]⟩
             case measure=>simp[intOf]; omega)
      · go_wp2
        go_ret
        exact⟨jC (by rw[List.take_of_length_le (by rw[HL.out]; omega)]), rfl⟩
theorem Vec.tail {w:World} {b off len cap:Nat} {xs:List Int} (hlen:xs.length=len) (hb:∀ x∈xs,-9223372036854775808≤x∧x≤9223372036854775807)
  (hc:∀ i,i<len→w.cell? ⟨b,off+i,none⟩=some (.int .i64 (el xs i))) (hcap:len≤cap) (n:Nat) :
  Vec (w.drewN n) (if cap=1 then some ⟨b,off,none⟩ else some ⟨b,off+1,none⟩) (len-1) xs.tail:=by
 refine⟨by simp[hlen],fun x hx=>hb x (List.mem_of_mem_tail hx), ?_⟩
 by_cases h:cap=1
 ·left;omega
 ·right
  refine⟨b,off+1,by simp[h],fun i hi=>?_⟩
  have:=hc (i+1) (by omega)
  rw[show off+(i+1)=off+1+i from by omega] at this
  simp only[World.cell?_drewN]
  rw[this];simp[el]
theorem Et (b off len cap:Nat) (xs:List Int) (w:World) (hlen:xs.length=len) (hb:∀ x∈xs,-9223372036854775808≤x∧x≤9223372036854775807)
  (hc:∀ i,i<len→w.cell? ⟨b,off+i,none⟩=some (.int .i64 (el xs i))) (h1:1≤len) (hcap:len≤cap) (hm:cap≤maxLen) :
  Calls Tryz.prog 163 #[.slice (some ⟨b,off,none⟩) len cap] w fun e w'=>e=.returned (.int .i64 (vW (el xs 0) xs.tail))∧∃ n,w'=w.drewN n:=by
 have hT:=Vec.tail hlen hb hc hcap;unfold maxLen at hm;have hc0:=hc 0 (by omega)
 simp only[Nat.add_zero] at hc0;have hp:(0:Int)<(len:Int):=by omega
 have hp1:(1:Int)≤(len:Int):=by omega
 have hp2:(len:Int)≤(cap:Int):=by omega
 go_enter Tryz.func163,Tryz.ntmps163
 go_wp2_with fail
 go_quiet ((go_at_call 180;exact (GK _ _ _ _ _ _ (hT _) (by unfold maxLen;omega)).mono (fun e w' h=>⟨h.1,_,h.2⟩)))
 go_wp2
 all_goals
  go_ret
  exact⟨rfl,_,rfl⟩
theorem nG (b off len cap:Nat) (xs:List Int) (w:World) (hlen:xs.length=len) (hb:∀ x∈xs,-9223372036854775808≤x∧x≤9223372036854775807)
  (hc:∀ i,i<len→w.cell? ⟨b,off+i,none⟩=some (.int .i64 (el xs i))) (h1:1≤len) (hcap:len≤cap) (hm:cap≤maxLen) :
  Calls Tryz.prog 131 #[.slice (some ⟨b,off,none⟩) len cap] w fun e w'=>e=.returned (.int .i64 (hiL (el xs 0) xs.tail))∧∃ n,w'=w.drewN n:=by
 have hT:=Vec.tail hlen hb hc hcap;unfold maxLen at hm;have hc0:=hc 0 (by omega)
 simp only[Nat.add_zero] at hc0;have hp:(0:Int)<(len:Int):=by omega
 have hp1:(1:Int)≤(len:Int):=by omega
 have hp2:(len:Int)≤(cap:Int):=by omega
 go_enter Tryz.func131,Tryz.ntmps131
 go_wp2_with fail
 go_quiet ((go_at_call 164;exact (Jb _ _ _ _ _ _ (hT _) (by unfold maxLen;omega)).mono (fun e w' h=>⟨h.1,_,h.2⟩)))
 go_wp2
 all_goals
  go_ret
  exact⟨rfl,_,rfl⟩
theorem U1 {xs:List Int} (h1:1≤xs.length) (h8:xs.length≤8) :
  okB xs=(decide (0≤vW (el xs 0) xs.tail)&&decide (hiL (el xs 0) xs.tail≤1000000)):=by
 have lo:∀ (l:List Int) (x m:Int),m≤vW x l↔m≤x∧∀ y∈l,m≤y:=by
  intro l;induction l with
  | nil=>intro x m;simp[vW]
  | cons y l ih=>intro x m;have:=ih (min x y) m;unfold vW at this ⊢;simp only[List.foldl_cons,List.mem_cons,forall_eq_or_imp];rw[this,Int.le_min];exact⟨fun h=>⟨h.1.1,h.1.2,h.2⟩,fun h=>⟨⟨h.1,h.2.1⟩,h.2.2⟩⟩
 have hi:∀ (l:List Int) (x m:Int),hiL x l≤m↔x≤m∧∀ y∈l,y≤m:=by
  intro l;induction l with
  | nil=>intro x m;simp[hiL]
  | cons y l ih=>intro x m;have:=ih (max x y) m;unfold hiL at this ⊢;simp only[List.foldl_cons,List.mem_cons,forall_eq_or_imp];rw[this,Int.max_le];exact⟨fun h=>⟨h.1.1,h.1.2,h.2⟩,fun h=>⟨⟨h.1,h.2.1⟩,h.2.2⟩⟩
 match xs,h1,h8 with
 | x::l,h1,h8 =>
  rw[Bool.eq_iff_iff];simp only[Bool.and_eq_true,decide_eq_true_eq,List.tail_cons,lo,hi]
  unfold okB inB;simp only[Bool.and_eq_true,decide_eq_true_eq,List.all_cons,List.all_eq_true]
  have e:el (x::l) 0=x:=rfl;rw[e]
  constructor
  ·rintro⟨_,⟨a,b⟩,c⟩;exact⟨⟨a,fun y hy=>(c y hy).1⟩,b,fun y hy=>(c y hy).2⟩
  ·rintro⟨⟨a,c⟩,b,d⟩;exact⟨⟨h1,h8⟩,⟨a,b⟩,fun y hy=>⟨c y hy,d y hy⟩⟩
theorem sK (a:Option Addr) (len cap:Nat) (xs:List Int) (w:World) (hv:Vec w a len xs) (hcap:len≤cap) (hm:cap≤maxLen) :
  Calls Tryz.prog 130 #[.slice a len cap] w fun e w'=>e=.returned (.bool (okB xs))∧∃ n,w'=w.drewN n:=by
 obtain⟨hlen,hb,hcs⟩:=hv;by_cases h1:(len:Int)<1
 ·go_enter Tryz.func130,Tryz.ntmps130
  go_wp2;go_ret
  exact⟨aH (by rw[qj (by omega)]),0,rfl⟩
 ·have h1':decide ((len:Int)<1)=false:=by simpa using h1
  by_cases h8:(8:Int)<(len:Int)
  ·go_enter Tryz.func130,Tryz.ntmps130
   go_wp2;go_ret
   exact⟨aH (by rw[qj (by omega)]),0,rfl⟩
  ·have h8':decide ((8:Int)<(len:Int))=false:=by simpa using h8
   rcases hcs with h0|⟨b,off,rfl,hc⟩
   ·omega
   ·have HE:Hid (okB xs=(decide (0≤vW (el xs 0) xs.tail)&&decide (hiL (el xs 0) xs.tail≤1000000))):=U1 (by omega) (by omega)
    have HL:=aj hlen;clear hlen;by_cases hl:0≤vW (el xs 0) xs.tail
    ·go_enter Tryz.func130,Tryz.ntmps130
     go_wp2_with (first|(go_at_call 163;refine (Et b off len cap xs _ HL.out hb (by exact hc) (by omega) hcap hm).mono ?_;rintro e w' ⟨rfl,n1,rfl⟩)|(go_at_call 131;refine (nG b off len cap xs _ HL.out hb (by exact hc) (by omega) hcap hm).mono ?_;rintro e w' ⟨rfl,n2,rfl⟩))
     go_ret
     exact⟨aH (by rw[HE.out];simp[hl]),_,rfl⟩
    ·have hl':decide (0≤vW (el xs 0) xs.tail)=false:=by simpa using hl
     go_enter Tryz.func130,Tryz.ntmps130
     go_wp2_with (first|(go_at_call 163;refine (Et b off len cap xs _ HL.out hb (by exact hc) (by omega) hcap hm).mono ?_;rintro e w' ⟨rfl,n1,rfl⟩)|(go_at_call 131;refine (nG b off len cap xs _ HL.out hb (by exact hc) (by omega) hcap hm).mono ?_;rintro e w' ⟨rfl,n2,rfl⟩))
     go_ret
     exact⟨aH (by rw[HE.out];simp[hl']),_,rfl⟩
theorem PN (a:Option Addr) (len cap:Nat) (xs:List Int) (w:World) (hv:Vec w a len xs) (hcap:len≤cap) (hm:cap≤maxLen) :
  Calls Tryz.prog 132 #[.slice a len cap] w fun e w'=>e=.returned (.bool (okB xs))∧∃ n,w'=w.drewN n:=by
 go_enter Tryz.func132,Tryz.ntmps132
 go_wp2_with (go_at_call 130;refine (sK a len cap xs _ hv hcap hm).mono ?_;rintro e w' ⟨rfl,n,rfl⟩)
 go_ret
 exact⟨rfl,_,rfl⟩
end
section
open Go.RowKit
theorem Tryz.info2:(Tryz.prog.info? 2).map (fun i=>(i.zero,i.size,i.bytes))=some (some (.int .i64 0),1,8):=by kernel_rfl
def RowOf (w:World) (b:Nat) (xs:List Int):Prop:=w.rowIs b 2 xs.length (fun i=>.int .i64 (el xs i))
def Fits (xs:List Int):Prop:=∀ x∈xs,-9223372036854775808≤x∧x≤9223372036854775807
theorem Vec.below {w w':World} {a:Option Addr} {len B:Nat} {xs:List Int} (h:Vec w a len xs) (hb:Below B w w') (hB:w.heap.size≤B):Vec w' a len xs:=by
 obtain⟨h1,h2,h3⟩:=h;refine⟨h1,h2, ?_⟩;rcases h3 with h0|⟨b,off,rfl,hc⟩
 ·exact .inl h0
 ·refine .inr ⟨b,off,rfl,fun i hi=>?_⟩
  have hlt:=World.block_lt_of_cell? _ _ (hc i hi);rw[hb.cell (p:=⟨b,off+i,none⟩) (Nat.lt_of_lt_of_le hlt hB)];exact hc i hi
theorem Vec.drewN {w:World} {a:Option Addr} {len:Nat} {xs:List Int} (h:Vec w a len xs) (n:Nat):Vec (w.drewN n) a len xs:=h
def part (xs:List Int) (k:Nat):Nat→Value:=fun j=>if j<k then .int .i64 (el xs j) else .int .i64 0
theorem PO {w:World} {xs:List Int}:(w.alloc (.cells (madeCells #[.int .i64 0] xs.length) 2)).rowIs w.heap.size 2 xs.length (part xs 0) :=
 (World.rowIs_made w (.int .i64 0) xs.length 2).congr (fun j _=>by simp[part])
theorem QW {w:World} {b:Nat} {xs:List Int} {k:Nat} (h:w.rowIs b 2 xs.length (part xs k)):(w.setCell ⟨b,k,none⟩ (.int .i64 (el xs k))).rowIs b 2 xs.length (part xs (k+1)):=by
 refine (h.set k _).congr (fun j _=>?_)
 simp only[part]
 by_cases e:j=k
 ·subst e;simp
 ·rw[if_neg e]
  by_cases hlt:j<k
  ·rw[if_pos hlt,if_pos (by omega)]
  ·rw[if_neg hlt,if_neg (by omega)]
theorem QX {w:World} {b:Nat} {xs:List Int} {k:Nat} (h:w.rowIs b 2 xs.length (part xs k)) (hk:xs.length≤k):RowOf w b xs :=
 World.rowIs.congr h (fun j hj=>by simp only[part];rw[if_pos (by omega)])
def PU (k:IntKind) (w:World) (a:Option Addr) (len cap:Nat) (zs:List Int):Prop :=
 (a=none∧len=0∧cap=0∧zs=[]) ∨
 ∃ x,a=some x∧len≤cap∧cap≤maxLen∧zs.length=cap∧(∀ i,i<zs.length→w.cell? (x.add i)=some (.int k (zs.getD i 0)))∧∀ n∈zs,(Lit.int k n).wf=true
theorem Aq {xs ys:List Int} (h:xs.length=ys.length) (he:∀ j,j<xs.length→el xs j=el ys j):xs=ys:=by
 refine List.ext_getElem h (fun i h1 h2=>?_)
 have:=he i h1
 rwa [o8 h1,o8 h2] at this
end
section
open Go.RowKit
theorem bg {B n:Nat} {a w:World} (h:Below B a w):Below B a (w.drewN n):=⟨h.os,h.tape,h.output,h.size,h.block⟩
end
section
open Go.RowKit
def mZ (xs ys:List Int):Bool:=okB xs&&okB ys&&decide (xs.length=ys.length)
def leB (xs ys:List Int):Bool:=(List.range xs.length).all (fun i=>decide (el xs i≤el ys i))
def qY (xs ys:List Int):Bool:=mZ xs ys&&leB xs ys
theorem QY {xs ys:List Int} {k:Nat} (hk:k<xs.length) (h:¬ el xs k≤el ys k):leB xs ys=false:=by
 unfold leB;rw[List.all_eq_false];exact⟨k,List.mem_range.2 hk,by simpa using h⟩
theorem Jc {xs ys:List Int} (h:∀ j,j<xs.length→el xs j≤el ys j):leB xs ys=true:=by
 unfold leB;rw[List.all_eq_true];intro j hj;simpa using h j (List.mem_range.1 hj)
theorem ji {xs:List Int} (h:okB xs=true):1≤xs.length∧xs.length≤8:=by
 unfold okB at h;simp only[Bool.and_eq_true,decide_eq_true_eq] at h;exact h.1
theorem tZ {xs ys:List Int} (h:mZ xs ys=true):okB xs=true∧okB ys=true∧xs.length=ys.length:=by
 unfold mZ at h;simp only[Bool.and_eq_true,decide_eq_true_eq] at h;exact⟨h.1.1,h.1.2,h.2⟩
theorem Vec.cells {w:World} {a:Option Addr} {len:Nat} {xs:List Int} (h:Vec w a len xs) (h1:1≤len) :
  ∃ b off,a=some ⟨b,off,none⟩∧∀ i,i<len→w.cell? ⟨b,off+i,none⟩=some (.int .i64 (el xs i)):=by
 obtain⟨_,_,h0|h⟩:=h
 ·omega
 ·exact h
theorem GL (a a':Option Addr) (len cap len' cap':Nat) (xs ys:List Int) (w:World) (hv:Vec w a len xs) (hv':Vec w a' len' ys) (hm:len≤maxLen) (hm':len'≤maxLen) :
  Calls Tryz.prog 179 #[.slice a len cap,.slice a' len' cap'] w fun e w'=>e=.returned (.bool (mZ xs ys))∧w'=w:=by
 have HL:=aj hv.1;have yE:=aj hv'.1;unfold mZ
 cases hx:okB xs
 ·go_enter Tryz.func179,Tryz.ntmps179
  go_wp2_with fail
  refine (mY _ _ _ xs _ hv hm).mono ?_;rintro e w1' ⟨rfl,rfl⟩;go_wp2_with fail
  go_ret
  exact⟨aH (by simp),rfl⟩
 ·cases hy:okB ys
  ·go_enter Tryz.func179,Tryz.ntmps179
   go_wp2_with fail
   refine (mY _ _ _ xs _ hv hm).mono ?_;rintro e w1' ⟨rfl,rfl⟩;go_wp2_with fail
   refine (mY _ _ _ ys _ hv' hm').mono ?_;rintro e w1' ⟨rfl,rfl⟩;go_wp2_with fail
   go_ret
   exact⟨aH (by simp),rfl⟩
  ·go_enter Tryz.func179,Tryz.ntmps179
   go_wp2_with fail
   refine (mY _ _ _ xs _ hv hm).mono ?_;rintro e w1' ⟨rfl,rfl⟩;go_wp2_with fail
   refine (mY _ _ _ ys _ hv' hm').mono ?_;rintro e w1' ⟨rfl,rfl⟩;go_wp2_with fail
   go_ret
   exact⟨aH (by rw[HL.out,yE.out,Bool.eq_iff_iff];simp;omega),rfl⟩
theorem fits_any (a a':Option Addr) (len cap len' cap':Nat) (xs ys:List Int) (w:World) (hv:Vec w a len xs) (hv':Vec w a' len' ys) (hc:len≤cap) (hc':len'≤cap') (hm:cap≤maxLen) (hm':cap'≤maxLen) :
  Calls Tryz.prog 200 #[.slice a len cap,.slice a' len' cap'] w fun e w'=>e=.returned (.bool (mZ xs ys))∧∃ n,w'=w.drewN n:=by
 have HL:=aj hv.1;have yE:=aj hv'.1;unfold mZ;by_cases hl:len=len'
 ·have hd:((len:Int)==(len':Int))=true:=by simp[hl]
  have HD:=aj hl;clear hl
  cases hx:okB xs
  ·go_enter Tryz.func200,Tryz.ntmps200
   go_wp2_with fail
   refine (sK _ _ _ xs _ hv hc hm).mono ?_;rintro e w1' ⟨rfl,n1,rfl⟩;go_wp2_with fail
   go_ret
   exact⟨aH (by simp),_,rfl⟩
  ·go_enter Tryz.func200,Tryz.ntmps200
   go_wp2_with fail
   refine (sK _ _ _ xs _ hv hc hm).mono ?_;rintro e w1' ⟨rfl,n1,rfl⟩;go_wp2_with fail
   refine (sK _ _ _ ys _ (hv'.drewN n1) hc' hm').mono ?_;rintro e w1' ⟨rfl,n2,rfl⟩;go_wp2_with fail
   go_ret
   exact⟨aH (by rw[HL.out,yE.out,HD.out];simp),_,rfl⟩
 ·have hd:((len:Int)==(len':Int))=false:=by simp;omega
  go_enter Tryz.func200,Tryz.ntmps200
  go_wp2_with fail
  go_ret
  exact⟨aH (by rw[HL.out,yE.out];simp[hl]),0,rfl⟩
theorem PV (b off b' off' len cap len' cap':Nat) (xs ys:List Int) (w:World) (hlen:xs.length=len)
  (hc:∀ i,i<len→w.cell? ⟨b,off+i,none⟩=some (.int .i64 (el xs i))) (hc':∀ i,i<len'→w.cell? ⟨b',off'+i,none⟩=some (.int .i64 (el ys i))) (hl:len≤len') (hm:len≤8) :
  Calls Tryz.prog 224 #[.slice (some ⟨b,off,none⟩) len cap,.slice (some ⟨b',off',none⟩) len' cap'] w fun e w'=>e=.returned (.bool (leB xs ys))∧w'=w:=by
 have HL:=aj hlen;clear hlen;go_enter Tryz.func224,Tryz.ntmps224
 go_wp2
 go_loop [5,6,9] (fun _ _ i=>∃ k:Nat,k≤len∧i=.int .i64 k∧∀ j,j<k→el xs j≤el ys j) (fun _ _ i=>len-(intOf i).toNat)
 case atStart=>exact⟨0,Nat.zero_le _,rfl,fun j hj=>by omega⟩
 case round =>
  obtain⟨k,hk,rfl,hall⟩:=hrel;have HA:=aj hall;clear hall;by_cases hlt:k<len
  ·have hck:=hc k hlt
   have U2:=hc' k (by omega)
   have hi1:(k:Int)<(len:Int):=by omega
   have hi2:(k:Int)<(len':Int):=by omega
   by_cases he:el ys k<el xs k
   ·go_wp2
    go_ret
    exact⟨aH (by rw[QY (by rw[HL.out];exact hlt) (by omega)]),rfl⟩
   ·go_wp2
    go_round
    case rel => exact ⟨k + 1,by omega,by go_num,fun j hj => by
     rcases Nat.lt_succ_iff_lt_or_eq.1 hj with h|h
     ·exact HA.out j h
     ·rw[h];omega⟩
    case measure=>simp[intOf];omega
  ·go_wp2
   go_ret
   exact⟨aH (by rw[Jc (fun j hj=>HA.out j (by rw[HL.out] at hj;omega))]),rfl⟩
theorem IU (a a':Option Addr) (len cap len' cap':Nat) (xs ys:List Int) (w:World) (hv:Vec w a len xs) (hv':Vec w a' len' ys) (hc:len≤cap) (hc':len'≤cap') (hm:cap≤maxLen) (hm':cap'≤maxLen) :
  Calls Tryz.prog 223 #[.slice a len cap,.slice a' len' cap'] w fun e w'=>e=.returned (.bool (qY xs ys))∧∃ n,w'=w.drewN n:=by
 unfold qY
 cases h2:mZ xs ys
 ·go_enter Tryz.func223,Tryz.ntmps223
  go_wp2_with fail
  refine (fits_any _ _ _ _ _ _ xs ys _ hv hv' hc hc' hm hm').mono ?_;rintro e w1' ⟨rfl,n1,rfl⟩;go_wp2_with fail
  go_ret
  exact⟨aH (by simp),_,rfl⟩
 ·obtain⟨ox,oy,hl⟩:=tZ h2
  have kx:=ji ox;have ky:=ji oy;have hlx:=hv.1;have Nz:=hv'.1;obtain⟨b,off,rfl,hcx⟩:=hv.cells (by omega)
  obtain⟨b',off',rfl,hcy⟩:=hv'.cells (by omega)
  have HX:=aj hlx;have h8:len≤8:=by omega
  have hll:len≤len':=by omega
  clear ox oy hl hlx Nz kx ky;go_enter Tryz.func223,Tryz.ntmps223
  go_wp2_with fail
  refine (fits_any _ _ _ _ _ _ xs ys _ hv hv' hc hc' hm hm').mono ?_;rintro e w1' ⟨rfl,n1,rfl⟩;go_wp2_with fail
  refine (PV b off b' off' len cap len' cap' xs ys _ HX.out (by exact hcx) (by exact hcy) hll h8).mono ?_
  rintro e w1' ⟨rfl,rfl⟩;go_wp2_with fail
  go_ret
  exact⟨aH (by simp),_,rfl⟩
end
section
open Go.RowKit
def lH (xs:List Int):Int:=xs.foldl (·+·) 0
def Jd (xs:List Int):Int:=if okB xs=true then lH xs else -1
theorem Au (xs:List Int) (y:Int):lH (xs++[y])=lH xs+y:=by simp[lH]
theorem qZ {xs:List Int} (h:okB xs=true) {i:Nat} (hi:i<xs.length):0≤el xs i∧el xs i≤1000000:=by
 unfold okB inB at h;simp only[Bool.and_eq_true,decide_eq_true_eq,List.all_eq_true] at h;exact h.2 _ (iF hi)
theorem QZ {xs:List Int} (h:okB xs=true) (k:Nat) (hk:k≤xs.length):0≤lH (xs.take k)∧lH (xs.take k)≤1000000*k:=by
 induction k with
 | zero=>simp[lH]
 | succ k ih =>
  have:=ih (by omega)
  have hb:=qZ h (i:=k) (by omega)
  rw[take_snoc (by omega),Au]
  omega
theorem Q5 (x y:Int) (w:World):Calls Tryz.prog 45 #[.int .i64 x,.int .i64 y] w fun e w'=>e=.returned (.int .i64 (min x y))∧w'=w:=by
 by_cases h:x<y
 all_goals
  go_enter Tryz.func45,Tryz.ntmps45
  go_wp2;go_ret
  exact⟨jC (by omega),rfl⟩
theorem Aw (x y:Int) (w:World):Calls Tryz.prog 30 #[.int .i64 x,.int .i64 y] w fun e w'=>e=.returned (.int .i64 (max x y))∧w'=w:=by
 by_cases h:y<x
 all_goals
  go_enter Tryz.func30,Tryz.ntmps30
  go_wp2;go_ret
  exact⟨jC (by omega),rfl⟩
theorem U3 (b off len cap:Nat) (xs:List Int) (w:World) (hlen:xs.length=len) (hx:okB xs=true)
  (hc:∀ i,i<len→w.cell? ⟨b,off+i,none⟩=some (.int .i64 (el xs i))) :
  Calls Tryz.prog 134 #[.slice (some ⟨b,off,none⟩) len cap] w fun e w'=>e=.returned (.int .i64 (lH xs))∧w'=w:=by
 have kx:=ji hx;have HX:=aj hlen;have h1:1≤len:=by omega
 have h8:len≤8:=by omega
 have HO:=aj hx;clear kx hlen hx;go_enter Tryz.func134,Tryz.ntmps134
 go_wp2
 go_loop [3,5,8] (fun m _ i=>∃ k:Nat,k≤len∧i=.int .i64 k∧m=.int .i64 (lH (xs.take k))) (fun _ _ i=>len-(intOf i).toNat)
 case atStart=>exact⟨0,Nat.zero_le _,rfl,rfl⟩
 case round =>
  obtain⟨k,hk,rfl,rfl⟩:=hrel;by_cases hlt:k<len
  ·have hck:=hc k hlt
   have HT:Hid (lH (xs.take (k+1))=lH (xs.take k)+el xs k):=by
    rw[Hid,take_snoc (by rw[HX.out];exact hlt),Au]
   have s1:=QZ HO.out k (by rw[HX.out];exact hk)
   have s2:=qZ HO.out (i:=k) (by rw[HX.out];exact hlt)
   go_wp2
   go_round
   case rel=>exact⟨k+1,by omega,by go_num,by rw[HT.out]⟩
   case measure=>simp[intOf];omega
  ·go_wp2
   go_ret
   exact⟨jC (by rw[List.take_of_length_le (by rw[HX.out];omega)]),rfl⟩
theorem MX (a:Option Addr) (len cap:Nat) (xs:List Int) (w:World) (hv:Vec w a len xs) (hcap:len≤cap) (hm:cap≤maxLen) :
  Calls Tryz.prog 102 #[.slice a len cap] w fun e w'=>e=.returned (.int .i64 (Jd xs))∧∃ n,w'=w.drewN n:=by
 have hmf:∀ (fn:Fn) (first cap:Array Value) (w:World),(Instr.makeFunc fn first cap).run Tryz.prog w=.ok (.func fn first cap) w:=fun _ _ _ _=>rfl
 unfold Jd
 cases hx:okB xs
 ·go_enter Tryz.func102,Tryz.ntmps102
  go_wp2_with (first|(go_at_call 130;refine (sK a len cap xs _ hv hcap hm).mono ?_;rintro e w' ⟨rfl,n,rfl⟩)|go_in)
  go_ret
  exact⟨jC (by simp),_,rfl⟩
 ·have kx:=ji hx
  have HX:=aj hv.1;have h1:1≤len:=by have:=HX.out;omega
  obtain⟨b,off,rfl,hc⟩:=hv.cells h1;go_enter Tryz.func102,Tryz.ntmps102
  go_wp2_with (first|(go_at_call 130;refine (sK _ len cap xs _ hv hcap hm).mono ?_;rintro e w' ⟨rfl,n,rfl⟩)|(go_at_call 134;refine (U3 b off len cap xs _ HX.out hx (by exact hc)).mono ?_;rintro e w' ⟨rfl,rfl⟩)|go_in)
  go_ret
  exact⟨jC (by simp),_,rfl⟩
end
section
open Go.RowKit
def jn (f:Int→Int→Int) (xs ys:List Int) (k:Nat):List Int:=(List.range k).map (fun i=>f (el xs i) (el ys i))
def dU (f:Int→Int→Int) (xs ys:List Int):List Int:=if mZ xs ys=true then jn f xs ys xs.length else []
theorem ZM (f:Int→Int→Int) (xs ys:List Int) (k:Nat):jn f xs ys (k+1)=jn f xs ys k++[f (el xs k) (el ys k)]:=by simp[jn,List.range_succ]
theorem jk (f:Int→Int→Int) (xs ys:List Int) (k:Nat):(jn f xs ys k).length=k:=by simp[jn]
theorem PW (f:Int→Int→Int) (xs ys:List Int) {n k:Nat} (h:k<n):el (jn f xs ys n) k=f (el xs k) (el ys k):=by simp[jn,el,h]
theorem Q7 (f:Int→Int→Int) (xs ys:List Int):(dU f xs ys).length≤8:=by
 unfold dU;by_cases h:mZ xs ys=true
 ·rw[if_pos h,jk];exact (ji (tZ h).1).2
 ·rw[if_neg h];simp
def OwnAt (w:World) (g cap:Nat) (zs:List Int):Prop :=
 zs.length≤cap∧cap≤maxLen∧∃ cur,w.heap[g]?=some (.cells cur 2 (0,0))∧cur.size=cap∧∀ i,i<zs.length→cur[i]?=some (.int .i64 (el zs i))
theorem OwnAt.lt {w:World} {g cap:Nat} {zs:List Int} (h:OwnAt w g cap zs):g<w.heap.size:=by
 obtain⟨_,_,c,hb,_⟩:=h;obtain⟨hlt,_⟩:=Array.getElem?_eq_some_iff.1 hb;exact hlt
theorem OwnAt.of_block {w w':World} {g cap:Nat} {zs:List Int} (h:OwnAt w g cap zs) (e:w'.heap[g]?=w.heap[g]?):OwnAt w' g cap zs:=by
 obtain⟨h1,h2,c,hb,h3⟩:=h;exact⟨h1,h2,c,e.trans hb,h3⟩
theorem OwnAt.drewN {w:World} {g cap:Nat} {zs:List Int} (h:OwnAt w g cap zs) (n:Nat):OwnAt (w.drewN n) g cap zs:=h
theorem OwnAt.cell {w:World} {g cap:Nat} {zs:List Int} (h:OwnAt w g cap zs) {i:Nat} (hi:i<zs.length):w.cell? ⟨g,i,none⟩=some (.int .i64 (el zs i)):=by
 obtain⟨_,_,c,hb,_,hc⟩:=h;simp[World.cell?,hb,hc i hi]
theorem OwnAt.frozen {w:World} {g cap:Nat} {zs:List Int} (h:OwnAt w g cap zs) (i:Nat):w.frozen? ⟨g,i,none⟩=false:=by
 obtain⟨_,_,c,hb,_⟩:=h;simp[World.frozen?,hb]
theorem OwnAt.vec {w:World} {g cap:Nat} {zs:List Int} (h:OwnAt w g cap zs) (hf:Fits zs):Vec w (some ⟨g,0,none⟩) zs.length zs :=
 ⟨rfl,hf,.inr ⟨g,0,rfl,fun i hi=>by rw[Nat.zero_add];exact h.cell hi⟩⟩
theorem OwnAt.set {w:World} {g cap:Nat} {zs:List Int} (h:OwnAt w g cap zs) (i:Nat) (y:Int):OwnAt (w.setCell ⟨g,i,none⟩ (.int .i64 y)) g cap (zs.set i y):=by
 obtain⟨h1,h2,c,hb,hs,hc⟩:=h;refine⟨by simpa using h1,h2,c.setIfInBounds i (.int .i64 y), ?_,by simpa using hs,fun j hj=>?_⟩
 ·simp[World.setCell,Array.getElem?_modify,hb]
 ·rw[List.length_set] at hj
  rw[Array.getElem?_setIfInBounds];by_cases e:i=j
  ·subst e;simp[el,hj];omega
  ·rw[if_neg e,hc j hj];simp[el,e]
theorem RowOf.own {w:World} {b:Nat} {xs:List Int} (h:RowOf w b xs) (hm:xs.length≤maxLen):OwnAt w b xs.length xs:=by
 obtain⟨c,hb,hn,hc⟩:=h;exact⟨Nat.le_refl _,hm,c,hb,hn,hc⟩
theorem sN {w:World} {base:Nat} {v:Value} {zs:List Int} {n:Nat} (h:w.ownsRow base 2 1 v n (zs.map (Value.int .i64))) (hn:n=zs.length) (h1:1≤n) :
  ∃ g cap,v=.slice (some ⟨g,0,none⟩) zs.length cap∧base≤g∧OwnAt w g cap zs:=by
 subst hn;rcases h.2 with ⟨_,h0⟩|⟨g,cap,cur,hv,hb,hg,hle,hm,hs,ht⟩
 ·omega
 ·refine⟨g,cap,hv,hb,hle,hm,cur,hg,by omega,fun i hi=>?_⟩
  have hi':i<cur.toList.length:=by simp;omega
  have e:(cur.toList.take (zs.length*1))[i]?=(zs.map (Value.int .i64))[i]?:=by rw[ht]
  rw[List.getElem?_take] at e;rw[if_pos (by omega)] at e
  simp at e
  rw[e];simp[el,hi]
theorem GN (w:World):OwnAt (w.alloc (.cells #[] 2)) w.heap.size 0 [] :=
 ⟨Nat.le_refl _,Nat.zero_le _,#[],heap_alloc_new w _,rfl,fun _ hi=>absurd hi (Nat.not_lt_zero _)⟩
theorem Eu (w:World):(w.alloc (.cells #[] 2)).ownsRow w.heap.size 2 1 (.slice (some ⟨w.heap.size,0,none⟩) 0 0) 0 [] :=
 ⟨rfl,.inr ⟨w.heap.size,0,#[],rfl,Nat.le_refl _,heap_alloc_new w _,Nat.le_refl _,Nat.zero_le _,rfl,rfl⟩⟩
theorem qM {w:World} {base b n:Nat} {v:Value} {l:List Value} (h:w.ownsRow base 2 1 v n l) (hb:b<base):v.ownBlock≠some b:=by
 intro e;have:=(h.lt b e).1;omega
attribute [local go_sem ↓] Go.wp_at_zero Go.wp_at_succ
theorem Je (a a' : Option Addr) (len cap len' cap' : Nat) (xs ys : List Int) (w : World) (hv : Vec w a len xs) (hv' : Vec w a' len' ys) (hm : len ≤ maxLen) (hm' : len' ≤ maxLen) :
    Calls Tryz.prog 152 #[.slice a len cap, .slice a' len' cap'] w fun e w'=>∃ g c, e=.returned (.slice (some ⟨g, 0, none⟩) (dU min xs ys).length c)∧w.heap.size≤g∧OwnAt w' g c (dU min xs ys)∧Below w.heap.size w w':=by
  have hb0:Below w.heap.size w (w.alloc (.cells #[] 2)):=(Below.refl _ _).alloc (Nat.le_refl _) _;have hv0:=hv.below hb0 (Nat.le_refl _);have hv0':=hv'.below hb0 (Nat.le_refl _)
  cases h2:mZ xs ys
  · have HP:Hid (dU min xs ys=[]):=by rw[Hid, dU, h2]; rfl
    go_enter Tryz.func152, Tryz.ntmps152
    go_wp2_with fail
    refine (GL _ _ _ _ _ _ xs ys _ hv0 hv0' hm hm').mono ?_;rintro e w1 ⟨rfl, hw1⟩;have HW:=aj hw1;clear hw1;go_wp2;go_ret
    refine⟨w.heap.size, 0, by rw[HP.out]; rfl, Nat.le_refl _, ?_, ?_⟩
    · rw[HW.out, HP.out]; exact GN w
    · rw[HW.out]; exact hb0
  · obtain⟨ox, oy, hl⟩:=tZ h2
    have kx:=ji ox;have hlx:=hv.1;have Nz:=hv'.1;obtain⟨b, off, rfl, hcx⟩:=hv.cells (by omega)
    obtain⟨b', off', rfl, hcy⟩:=hv'.cells (by omega)
    have HP:Hid (dU min xs ys=jn min xs ys len):=by rw[Hid, dU, h2, hlx]; rfl
    have h1:1≤len:=by omega
    have h8:len≤8:=by omega
    have hll:len≤len':=by omega
    obtain⟨i0, hi0, hz0, hz1, hz2⟩:=info_parts Tryz.info2;clear ox oy hl hlx Nz kx;go_enter Tryz.func152, Tryz.ntmps152
    go_wp2_with fail
    refine (GL _ _ _ _ _ _ xs ys _ hv0 hv0' hm hm').mono ?_;rintro e w1 ⟨rfl, hw1⟩;have HW:=aj hw1;clear hw1 hv hv' hv0 hv0' hm hm';go_wp2
    go_loopw [5, 6] (fun v i wr=>∃ k:Nat, k≤len∧i=.int .i64 k∧wr.ownsRow w.heap.size 2 1 v k ((jn min xs ys k).map (Value.int .i64))∧Below w.heap.size w wr) (fun _ i _=>len-(intOf i).toNat)
    case atStart=>exact⟨0, Nat.zero_le _, rfl, by rw[HW.out]; exact Eu w, by rw[HW.out]; exact hb0⟩
    case round =>
      obtain⟨k, hk, rfl, hown, hbel⟩:=hrel;have HB:=aj hbel;have hsz:=hbel.size;clear hbel;by_cases hlt:k<len
      · have lx:=World.block_lt_of_cell? _ _ (hcx k hlt)
        have ly:=World.block_lt_of_cell? _ _ (hcy k (by omega))
        have ex:wr.cell? ⟨b, off+k, none⟩=some (.int .i64 (el xs k)):=(HB.out.cell (p:=⟨b, off+k, none⟩) lx).trans (hcx k hlt);have ey:wr.cell? ⟨b', off'+k, none⟩=some (.int .i64 (el ys k)):=(HB.out.cell (p:=⟨b', off'+k, none⟩) ly).trans (hcy k (by omega))
        have ax:=qM hown lx;have ay:=qM hown ly;have hi1:(k:Int)<(len:Int):=by omega
        have hi2:(k:Int)<(len':Int):=by omega
        have aC0:(0:Int)≤(k:Int):=by omega
        clear hcx hcy;go_wp2_with fail
        go_region_held3 (fun w'=>w'.cell? ⟨b, off+k, none⟩=some (.int .i64 (el xs k))∧w'.cell? ⟨b', off'+k, none⟩=some (.int .i64 (el ys k)))
          (first
            | go_keep
            | (go_split_ands
               refine⟨?_, ?_⟩
               · (rw[hgrow.cell_far _ (by simp; omega) (Ne.symm ax)]; assumption)
               · (rw[hgrow.cell_far _ (by simp; omega) (Ne.symm ay)]; assumption)))
          (first
            | (go_at_call 45; refine (Q5 _ _ _).mono ?_; rintro e w' ⟨rfl, rfl⟩)
            | (refine step_append_lies _ (by rfl) _ _ _ (by rfl) w.heap.size 2 i0 _ 1 8 Tryz.underlying41 hi0 hz0 hz1 hz2 rfl (by omega) u5 k _ (by rfl) ((hown.alloc _).drew) ⟨wr.heap.size, 0, none⟩ 1 1 [.int .i64 (min (el xs k) (el ys k))] (by rfl) (by rfl) (World.news_of_block (cs:=#[.int .i64 (min (el xs k) (el ys k))]) (t:=2) (fr:=(0, 0)) (heap_alloc_new wr _)) (by simp[Value.oneCell']) (by omega) (by unfold maxLen; omega) (by omega) (by simp; omega) (wr.heap.size+1) (by simp) ?_; intro g cap w1 hown1 hgrow hat hlt))
        have R:Hid (w1.ownsRow w.heap.size 2 1 (.slice (some ⟨g, 0, none⟩) (k+1) cap) (k+1) ((jn min xs ys (k+1)).map (Value.int .i64))):=by
          rw[Hid, ZM, List.map_append]; exact hown1
        have RB:Hid (Below w.heap.size w w1):=Below.grown ((HB.out.alloc hsz _).drew) hgrow (by simp; omega) (fun r hr=>(hown.lt r hr).1)
        clear hown1 hgrow hat hlt hown ex ey ax ay;go_wp2;go_roundw
        case rel=>exact⟨k+1, by omega, by go_num, R.out, RB.out⟩
        case measure=>simp[intOf]; omega
      · have hkl:k=len:=by omega
        subst hkl;go_wp2;go_ret
        obtain⟨g, c, hvv, hg, ho⟩:=sN hown (jk _ _ _ _).symm h1;exact⟨g, c, by rw[HP.out, ← hvv]; rfl, hg, by rw[HP.out]; exact ho, HB.out⟩
end
section
open Go.RowKit
theorem ZN (w:World) (y:Int) (hy:-9223372036854775808≤y∧y≤9223372036854775807):Vec (w.alloc (.cells #[.int .i64 y] 2)) (some ⟨w.heap.size,0,none⟩) 1 [y]:=by
 refine⟨rfl,by simpa using hy,.inr ⟨w.heap.size,0,rfl,fun i hi=>?_⟩⟩
 have:i=0:=by omega
 subst this;simp[el]
theorem FT (a a':Option Addr) (len cap len' cap':Nat) (xs ys:List Int) (w:World) (hv:Vec w a len xs) (hv':Vec w a' len' ys) (hc:len≤cap) (hc':len'≤cap') (hm:cap≤maxLen) (hm':cap'≤maxLen) :
  Calls Tryz.prog 198 #[.slice a len cap,.slice a' len' cap',.func (.func 180) #[] #[]] w fun e w'=>∃ g c,e=.returned (.slice (some ⟨g,0,none⟩) (dU min xs ys).length c)∧w.heap.size≤g∧OwnAt w' g c (dU min xs ys)∧Below w.heap.size w w':=by
 cases h2:mZ xs ys
 ·have HP:Hid (dU min xs ys=[]):=by rw[Hid,dU,h2];rfl
  go_enter Tryz.func198,Tryz.ntmps198
  go_wp2_with fail
  refine (fits_any _ _ _ _ _ _ xs ys _ hv hv' hc hc' hm hm').mono ?_;rintro e w1 ⟨rfl,n1,rfl⟩;go_wp2;go_ret
  refine⟨w.heap.size,0,by rw[HP.out];rfl,Nat.le_refl _, ?_,bg ((Below.refl _ _).alloc (Nat.le_refl _) _)⟩
  rw[HP.out];exact (GN w).drewN n1
 ·obtain⟨ox,oy,hl⟩:=tZ h2
  have kx:=ji ox;have hlx:=hv.1;have Nz:=hv'.1;have hfy:=hv'.2.1;obtain⟨b,off,rfl,hcx⟩:=hv.cells (by omega)
  obtain⟨b',off',rfl,hcy⟩:=hv'.cells (by omega)
  have HP:Hid (dU min xs ys=jn min xs ys len):=by rw[Hid,dU,h2,hlx];rfl
  have HLY:=aj Nz;have h1:1≤len:=by omega
  have h8:len≤8:=by omega
  have hll:len≤len':=by omega
  have hmk:=run_make_row' (P:=Tryz.prog) 41 2 (.int .i64 0) 8 Tryz.underlying41 Tryz.info2 rfl .i64 .i64 len (by omega) (by omega)
  clear ox oy hl hlx Nz kx;go_enter Tryz.func198,Tryz.ntmps198
  go_wp2_with fail
  refine (fits_any _ _ _ _ _ _ xs ys _ hv hv' hc hc' hm hm').mono ?_;rintro e w1 ⟨rfl,n1,rfl⟩;clear hv hv' hc hc' hm hm';go_wp2
  go_loopw [8,9,20] (fun _ _ i wr=>∃ k:Nat,k≤len∧i=.int .i64 k∧wr.rowIs w.heap.size 2 len (part (jn min xs ys len) k)∧Below w.heap.size w wr) (fun _ _ i _=>len-(intOf i).toNat)
  case atStart =>
   exact ⟨0,Nat.zero_le _,rfl,by
    have:=PO (w:=w) (xs:=jn min xs ys len);rw[jk] at this;exact this,bg ((Below.refl _ _).alloc (Nat.le_refl _) _)⟩
  case round =>
   obtain⟨k,hk,rfl,hrow,hbel⟩:=hrel;have HR:=aj hrow;have HB:=aj hbel;have hsz:=hrow.lt;clear hrow hbel;by_cases hlt:k<len
   ·have lx:=World.block_lt_of_cell? _ _ (hcx k hlt)
    have ly:=World.block_lt_of_cell? _ _ (hcy k (by omega))
    have ex:wr.cell? ⟨b,off+k,none⟩=some (.int .i64 (el xs k)):=(HB.out.cell (p:=⟨b,off+k,none⟩) lx).trans (hcx k hlt);have ey:wr.cell? ⟨b',off'+k,none⟩=some (.int .i64 (el ys k)):=(HB.out.cell (p:=⟨b',off'+k,none⟩) ly).trans (hcy k (by omega))
    have hrow':=HR.out.alloc (.cells #[.int .i64 (el ys k)] 2);have hfr:=hrow'.frozen k;have hcl:=hrow'.cell hlt;have hV:=ZN wr (el ys k) (hfy _ (iF (by rw[HLY.out];omega)))
    have hi1:(k:Int)<(len:Int):=by omega
    have hi2:(k:Int)<(len':Int):=by omega
    have HRW:=aj hrow';clear hcx hcy hrow';go_wp2_with fail
    refine (GK _ _ _ _ [el ys k] _ hV (by decide)).mono ?_
    rintro e w2 ⟨rfl,hw2⟩;have HW:=aj hw2;rw[← hw2] at hfr hcl;have hs2:w.heap.size<w2.heap.size:=by rw[hw2];simp;omega
    clear hw2 ex ey hV;go_wp2;go_roundw
    case rel => exact ⟨k + 1,by omega,by go_num,by
     have:=QW (b:=w.heap.size) (xs:=jn min xs ys len) (k:=k) (w:=w2) (by rw[jk,HW.out];exact HRW.out)
     rw[jk,PW _ _ _ hlt] at this;exact this,by
     have:Below w.heap.size w w2:=by rw[HW.out];exact HB.out.alloc (by omega) _
     exact this.setCell (Nat.le_refl _) _⟩
    case measure=>simp[intOf];omega
   ·have hkl:k=len:=by omega
    subst hkl;go_wp2;go_ret
    refine⟨w.heap.size,k,by rw[HP.out,jk];rfl,Nat.le_refl _, ?_,HB.out⟩
    have hr:RowOf wr w.heap.size (jn min xs ys k):=QX (k:=k) (by rw[jk];exact HR.out) (by rw[jk];exact Nat.le_refl _)
    have:=hr.own (by rw[jk];unfold maxLen;omega)
    rw[jk] at this;rw[HP.out];exact this
theorem Jf (a a':Option Addr) (len cap len' cap':Nat) (xs ys:List Int) (w:World) (hv:Vec w a len xs) (hv':Vec w a' len' ys) (hc:len≤cap) (hc':len'≤cap') (hm:cap≤maxLen) (hm':cap'≤maxLen) :
  Calls Tryz.prog 194 #[.slice a len cap,.slice a' len' cap'] w fun e w'=>∃ g c,e=.returned (.slice (some ⟨g,0,none⟩) (dU min xs ys).length c)∧w.heap.size≤g∧OwnAt w' g c (dU min xs ys)∧Below w.heap.size w w':=by
 go_enter Tryz.func194,Tryz.ntmps194
 go_wp2_with fail
 refine (FT _ _ _ _ _ _ xs ys _ hv hv' hc hc' hm hm').mono ?_;rintro e w1 ⟨g,c,rfl,hg,ho,hb⟩;go_wp2;go_ret
 exact⟨g,c,rfl,hg,ho,hb⟩
end
section
open Go.RowKit
theorem PX (f:Int→Int→Int) (hf:∀ x y,f x y=x∨f x y=y) (xs ys:List Int):Fits (dU f xs ys):=by
 unfold dU
 cases h:mZ xs ys
 ·intro x hx;simp at hx
 ·obtain⟨ox,oy,hl⟩:=tZ h
  intro x hx;simp only[if_true,jn,List.mem_map,List.mem_range] at hx;obtain⟨i,hi,rfl⟩:=hx;have h1:=qZ ox hi;have h2:=qZ oy (i:=i) (by omega)
  rcases hf (el xs i) (el ys i) with e|e<;>rw[e]<;>omega
end
section
open Go.RowKit
def kW (w:World) (a:Option Addr) (len:Nat) (bs:Nat→Int):Prop :=
 (∀ i,i<len→0≤bs i∧bs i≤255)∧(len=0∨∃ b off,a=some ⟨b,off,none⟩∧∀ i,i<len→w.cell? ⟨b,off+i,none⟩=some (.int .u8 (bs i)))
def Off (a:Option Addr) (p:Nat):Prop:=∀ b off,a=some ⟨b,off,none⟩→b≠p
def Az (a:Option Addr) (len p:Nat):Prop:=0<len→∀ b off,a=some ⟨b,off,none⟩→b≠p
def InB (a:Option Addr) (len B:Nat):Prop:=0<len→∀ b off,a=some ⟨b,off,none⟩→b<B
theorem kW.inB {w:World} {a:Option Addr} {len:Nat} {bs:Nat→Int} (h:kW w a len bs):InB a len w.heap.size:=by
 intro hl b off e;obtain⟨_,h0|⟨b',off',rfl,hc⟩⟩:=h
 ·omega
 ·cases e;exact World.block_lt_of_cell? _ _ (hc 0 hl)
def fK (w:World) (p:Nat) (a:Option Addr) (len cap:Nat):Prop :=
 ∃ (i:Nat) (h:Int),i≤len∧w.heap[p]?=some (.cells #[.slice a len cap,.int .i64 (i:Int),.int .i64 h] 96 (0,0))
theorem kW.grown {w w':World} {a:Option Addr} {len p:Nat} {bs:Nat→Int} (h:kW w a len bs) (hg:w.grownBy w' (some p)) (hp:Az a len p):kW w' a len bs:=by
 obtain⟨h1,h2⟩:=h;refine⟨h1, ?_⟩;rcases h2 with h0|⟨b,off,rfl,hc⟩
 ·exact .inl h0
 ·refine .inr ⟨b,off,rfl,fun i hi=>?_⟩
  have hlt:=World.block_lt_of_cell? _ _ (hc i hi);have hne:some b≠some p:=by have:=hp (by omega) b off rfl;simpa using this
  rw[World.cell?_of_block (w:=w) (hg.block b hlt hne)];exact hc i hi
theorem kW.below {w w':World} {a:Option Addr} {len B:Nat} {bs:Nat→Int} (h:kW w a len bs) (hb:Below B w w') (hB:w.heap.size≤B):kW w' a len bs:=by
 obtain⟨h1,h2⟩:=h;refine⟨h1, ?_⟩;rcases h2 with h0|⟨b,off,rfl,hc⟩
 ·exact .inl h0
 ·refine .inr ⟨b,off,rfl,fun i hi=>?_⟩
  have hlt:=World.block_lt_of_cell? _ _ (hc i hi);rw[hb.cell (p:=⟨b,off+i,none⟩) (Nat.lt_of_lt_of_le hlt hB)];exact hc i hi
theorem Vec.grown {w w':World} {a:Option Addr} {len p:Nat} {xs:List Int} (h:Vec w a len xs) (hg:w.grownBy w' (some p)) (hp:Off a p):Vec w' a len xs:=by
 obtain⟨h0,h1,h2⟩:=h;refine⟨h0,h1, ?_⟩;rcases h2 with h0|⟨b,off,rfl,hc⟩
 ·exact .inl h0
 ·refine .inr ⟨b,off,rfl,fun i hi=>?_⟩
  have hlt:=World.block_lt_of_cell? _ _ (hc i hi);have hne:some b≠some p:=by have:=hp b off rfl;simpa using this
  rw[World.cell?_of_block (w:=w) (hg.block b hlt hne)];exact hc i hi
theorem ng (w:World) (r:Option Nat):w.grownBy w r:=⟨rfl,rfl,rfl,Nat.le_refl _,fun _ _ _=>rfl⟩
theorem bf {w w1 w2:World} {r:Option Nat} (h:w.grownBy w1 r) (k:w1.grownBy w2 r):w.grownBy w2 r :=
 ⟨k.os.trans h.os,k.tape.trans h.tape,k.output.trans h.output,Nat.le_trans h.size k.size,fun i hi hr=>(k.block i (Nat.lt_of_lt_of_le hi h.size) hr).trans (h.block i hi hr)⟩
theorem grown_drewN {w w1:World} {r:Option Nat} (h:w.grownBy w1 r) (n:Nat):w.grownBy (w1.drewN n) r:=⟨h.os,h.tape,h.output,h.size,h.block⟩
theorem uf {w w1:World} {p:Nat} (h:w.grownBy w1 (some p)) (i:Nat) (u:Value):w.grownBy (w1.setCell ⟨p,i,none⟩ u) (some p) :=
 ⟨h.os,h.tape,h.output,by simp[World.setCell];exact h.size,fun k hk hr=>(Below.heap_setCell _ _ _ _ (by intro e;exact hr (by rw[e]))).trans (h.block k hk hr)⟩
theorem fK.lt {w:World} {p:Nat} {a:Option Addr} {len cap:Nat} (h:fK w p a len cap):p<w.heap.size:=by
 obtain⟨i,x,_,hb⟩:=h;obtain⟨hlt,_⟩:=Array.getElem?_eq_some_iff.1 hb;exact hlt
theorem fK.below {w w':World} {p B:Nat} {a:Option Addr} {len cap:Nat} (h:fK w p a len cap) (hb:Below B w w') (hp:p<B):fK w' p a len cap:=by
 obtain⟨i,x,hi,hh⟩:=h;exact⟨i,x,hi,(hb.block p hp).trans hh⟩
theorem heap_set {w:World} {p i:Nat} {c:Array Value} {t:TypeId} {u:Value} (h:w.heap[p]?=some (.cells c t (0,0))):(w.setCell ⟨p,i,none⟩ u).heap[p]?=some (.cells (c.setIfInBounds i u) t (0,0)):=by
 simp[World.setCell,Array.getElem?_modify,h]
theorem ZO {w:World} {p i n:Nat} {s v u:Value} (hb:w.heap[p]?=some (.cells #[s,.int .i64 (i:Int),v] 96 (0,0))) :
  (((w.setCell ⟨p,2,none⟩ u).drewN n).setCell ⟨p,1,none⟩ (.int .i64 ((i:Int)+1))).heap[p]?=some (.cells #[s,.int .i64 ((i+1:Nat):Int),u] 96 (0,0)):=by
 have h1:((w.setCell ⟨p,2,none⟩ u).drewN n).heap[p]?=some (.cells #[s,.int .i64 (i:Int),u] 96 (0,0)):=heap_set (i:=2) (u:=u) hb;have h2:=heap_set (i:=1) (u:=.int .i64 ((i:Int)+1)) h1;rw[h2];simp
theorem PY (n:Int):bits .and .i64 n 255=n%256:=by
 have aw8:(BitVec.ofInt 64 255).toNat=2 ^ 8-1:=by decide
 have key:(BitVec.ofInt 64 n &&& BitVec.ofInt 64 255).toNat=(n%((2 ^ 64:Nat):Int)).toNat%2 ^ 8:=by
  rw[BitVec.toNat_and,BitVec.toNat_ofInt,aw8,Nat.and_two_pow_sub_one_eq_mod]
 show IntKind.i64.wrap ((BitVec.ofInt 64 n &&& BitVec.ofInt 64 255).toNat:Nat)=n%256
 rw[key,IntKind.wrap_i64];omega
theorem Ew (n:Int):0≤bits .and .i64 n 255∧bits .and .i64 n 255≤255:=by rw[PY];omega
theorem sO (p:Nat) (a:Option Addr) (len cap:Nat) (bs:Nat→Int) (w:World) (hcur:fK w p a len cap) (hv:kW w a len bs) (hp:Az a len p) (hl:len≤4096) :
  Calls Tryz.prog 59 #[.pointer (some ⟨p,0,none⟩)] w fun e w'=>∃ x:Int,e=.returned (.int .i64 x)∧0≤x∧x≤255∧fK w' p a len cap∧w.grownBy w' (some p):=by
 obtain⟨i,h,hi,hb⟩:=hcur;have h0:w.cell? ⟨p,0,none⟩=some (.slice a len cap):=by simp[World.cell?,hb]
 have h1:w.cell? ⟨p,1,none⟩=some (.int .i64 (i:Int)):=by simp[World.cell?,hb]
 have h2:w.cell? ⟨p,2,none⟩=some (.int .i64 h):=by simp[World.cell?,hb]
 have hf:w.frozen? ⟨p,2,none⟩=false:=by simp[World.frozen?,hb]
 have hf1:w.frozen? ⟨p,1,none⟩=false:=by simp[World.frozen?,hb]
 have HB:=aj hb;clear hb;by_cases hlt:i<len
 ·obtain⟨hr,hv0|⟨b,off,rfl,hc⟩⟩:=hv
  ·omega
  ·have hne:=hp (by omega) b off rfl
   have hci:=hc i hlt;have uY:=hr i hlt;have hne':p≠b:=fun e=>hne e.symm
   have hi1:(i:Int)<(len:Int):=by omega
   have hi0:(0:Int)≤(i:Int):=by omega
   clear hc hr hp;go_enter Tryz.func59,Tryz.ntmps59
   go_wp2_with fail
   go_quiet (fail)
   go_wp2_with fail
   go_quiet (fail)
   go_wp2_with fail
   go_quiet (fail)
   go_wp2;go_ret
   refine⟨_,rfl,(Ew _).1,(Ew _).2, ?_, ?_⟩
   ·exact⟨i+1,_,hlt,ZO HB.out⟩
   ·exact uf (grown_drewN (uf (ng _ _) _ _) _) _ _
 ·have hil:i=len:=by omega
  subst hil;go_enter Tryz.func59,Tryz.ntmps59
  go_wp2_with fail
  go_quiet (fail)
  go_wp2_with fail
  go_quiet (fail)
  go_wp2;go_ret
  refine⟨_,rfl,(Ew _).1,(Ew _).2, ?_, ?_⟩
  ·exact⟨_,_,Nat.le_refl _,heap_set HB.out⟩
  ·exact grown_drewN (grown_drewN (uf (ng _ _) _ _) _) _
theorem kY (p:Nat) (a:Option Addr) (len cap:Nat) (bs:Nat→Int) (n:Int) (w:World) (hcur:fK w p a len cap) (hv:kW w a len bs) (hp:Az a len p) (hl:len≤4096) (hn:n≤9223372036854775807) :
  Calls Tryz.prog 27 #[.pointer (some ⟨p,0,none⟩),.int .i64 n] w fun e w'=>∃ x:Int,e=.returned (.int .i64 x)∧0≤x∧(0<n→x<n)∧(n≤0→x=0)∧fK w' p a len cap∧w.grownBy w' (some p):=by
 by_cases h0:n≤0
 ·go_enter Tryz.func27,Tryz.ntmps27
  go_wp2;go_ret
  exact⟨0,rfl,by omega,by omega,fun _=>rfl,hcur,ng _ _⟩
 ·by_cases h1:n≤256
  ·have hne:(n==0)=false:=by simp;omega
   go_enter Tryz.func27,Tryz.ntmps27
   go_wp2_with fail
   refine (sO p a len cap bs _ hcur hv hp hl).mono ?_;rintro e w1 ⟨x,rfl,hx0,hx1,hc1,hg1⟩;have hlo:0≤x%n:=Int.emod_nonneg _ (by omega)
   have hhi:x%n<n:=Int.emod_lt_of_pos _ (by omega)
   go_wp2;go_ret
   exact⟨x%n,rfl,hlo,fun _=>hhi,fun h=>by omega,hc1,hg1⟩
  ·have hne:(n==0)=false:=by simp;omega
   go_enter Tryz.func27,Tryz.ntmps27
   go_wp2_with fail
   refine (sO p a len cap bs _ hcur hv hp hl).mono ?_;rintro e w1 ⟨x,rfl,hx0,hx1,hc1,hg1⟩;have hv1:=hv.grown hg1 hp;go_wp2_with fail
   refine (sO p a len cap bs _ hc1 hv1 hp hl).mono ?_;rintro e w2 ⟨y,rfl,hy0,hy1,hc2,hg2⟩;have hv2:=hv1.grown hg2 hp;go_wp2_with fail
   refine (sO p a len cap bs _ hc2 hv2 hp hl).mono ?_;rintro e w3 ⟨z,rfl,hz0,hz1,hc3,hg3⟩;have hv3:=hv2.grown hg3 hp;go_wp2_with fail
   refine (sO p a len cap bs _ hc3 hv3 hp hl).mono ?_;rintro e w4 ⟨u,rfl,hu0,hu1,hc4,hg4⟩;have G:=bf (bf hg1 hg2) (bf hg3 hg4);have hlo:0≤(x*16777216+y*65536+z*256+u)%n:=Int.emod_nonneg _ (by omega)
   have hhi:(x*16777216+y*65536+z*256+u)%n<n:=Int.emod_lt_of_pos _ (by omega)
   clear hc1 hc2 hc3 hg1 hg2 hg3 hg4 hv hv1 hv2 hv3;go_wp2;go_ret
   exact⟨(x*16777216+y*65536+z*256+u)%n,rfl,hlo,fun _=>hhi,fun h=>by omega,hc4,G⟩
theorem zk (p:Nat) (a:Option Addr) (len cap:Nat) (bs:Nat→Int) (n:Int) (w:World) (hcur:fK w p a len cap) (hv:kW w a len bs) (hp:Az a len p) (hl:len≤4096) (hn:n≤9223372036854775807) :
  Calls Tryz.prog 28 #[.pointer (some ⟨p,0,none⟩),.int .i64 n] w fun e w'=>∃ x:Bool,e=.returned (.bool x)∧fK w' p a len cap∧w.grownBy w' (some p):=by
 go_enter Tryz.func28,Tryz.ntmps28
 go_wp2_with fail
 refine (kY p a len cap bs n _ hcur hv hp hl hn).mono ?_;rintro e w1 ⟨x,rfl,hx0,hx1,hx2,hc1,hg1⟩;go_wp2;go_ret
 exact⟨_,rfl,hc1,hg1⟩
theorem new_any (a : Option Addr) (len cap : Nat) (bs : Nat → Int) (w : World) (hv : kW w a len bs) (hl : len ≤ 4096) :
    Calls Tryz.prog 26 #[.slice a len cap] w fun e w'=>∃ p, e=.returned (.pointer (some ⟨p, 0, none⟩))∧w.heap.size≤p∧fK w' p a len cap∧Below w.heap.size w w':=by
  obtain⟨hr, hcs⟩:=hv;rcases hcs with h0|⟨b, off, rfl, hc⟩
  all_goals
    go_enter Tryz.func26, Tryz.ntmps26
    go_wp2
    go_loop [3, 4] (fun h i=>∃ (k:Nat) (x:Int), k≤len∧i=.int .i64 k∧h=.int .i64 x) (fun _ i=>len-(intOf i).toNat)
    case atStart=>exact⟨0, _, Nat.zero_le _, rfl, rfl⟩
    case round =>
      obtain⟨k, x, hk, rfl, rfl⟩:=hrel;by_cases hlt:k<len
      · first
          | omega
          | (have hck := hc k hlt
             go_wp2
             go_round
             case rel=>exact⟨k+1, _, by omega, by go_num, rfl⟩
             case measure=>simp[intOf]; omega)
      · go_wp2
        go_ret
        exact⟨w.heap.size, rfl, Nat.le_refl _, ⟨0, x, Nat.zero_le _, heap_alloc_new _ _⟩, (Below.refl _ _).alloc (Nat.le_refl _) _⟩
end
section
open Go.RowKit
def lenOf:Value→Nat|.slice _ n _=>n|_=>0
def From (a:Option Addr) (B:Nat):Prop:=∀ b off,a=some ⟨b,off,none⟩→B≤b
theorem vH {w w2 w3:World} {r row:Option Nat} (h:w.grownBy w2 r) (hg:w2.grownBy w3 row) (hrow:∀ k,row=some k→w.heap.size≤k):w.grownBy w3 r :=
 ⟨hg.os.trans h.os,hg.tape.trans h.tape,hg.output.trans h.output,Nat.le_trans h.size hg.size,fun i hi hr=>(hg.block i (Nat.lt_of_lt_of_le hi h.size) (by intro e;have:=hrow i e.symm;omega)).trans (h.block i hi hr)⟩
theorem fK.grown {w w':World} {p:Nat} {row:Option Nat} {a:Option Addr} {len cap:Nat} (h:fK w p a len cap) (hg:w.grownBy w' row) (hr:row≠some p):fK w' p a len cap:=by
 have hlt:=h.lt;obtain⟨i,x,hi,hh⟩:=h;exact⟨i,x,hi,(hg.block p hlt (Ne.symm hr)).trans hh⟩
theorem fK.alloc {w:World} {p:Nat} {a:Option Addr} {len cap:Nat} (h:fK w p a len cap) (o:Obj):fK (w.alloc o) p a len cap:=h.grown (World.grownBy_alloc w o none) (by simp)
theorem OwnAt.grown {w w':World} {p g cap:Nat} {zs:List Int} (h:OwnAt w g cap zs) (hg:w.grownBy w' (some p)) (hne:g≠p):OwnAt w' g cap zs :=
 h.of_block (hg.block g h.lt (by simpa using hne))
theorem Q8 {w:World} {base:Nat} {v:Value} {zs:List Int} {n:Nat} (h:w.ownsRow base 2 1 v n (zs.map (Value.int .i64))) (hn:n=zs.length) (hf:Fits zs) :
  ∃ a' c,v=.slice a' n c∧Vec w a' n zs∧n≤c∧c≤maxLen∧From a' base:=by
 by_cases h1:1≤n
 ·obtain⟨g,c,hv,hb,ho⟩:=sN h hn h1
  subst hn;exact⟨_,c,hv,ho.vec hf,ho.1,ho.2.1,fun b off e=>by cases e;exact hb⟩
 ·have h0:n=0:=by omega
  subst h0;have hz:zs=[]:=List.length_eq_zero_iff.1 hn.symm;subst hz;rcases h.2 with ⟨hv,_⟩|⟨g,c,cur,hv,hb,_,hle,hm,_⟩
  ·exact⟨none,0,hv,⟨rfl,hf,.inl rfl⟩,Nat.le_refl _,Nat.zero_le _,fun b off e=>by cases e⟩
  ·exact⟨_,c,hv,⟨rfl,hf,.inl rfl⟩,hle,hm,fun b off e=>by cases e;exact hb⟩
def Small (zs:List Int):Prop:=∀ z∈zs,0≤z∧z≤6
theorem Small.fits {zs:List Int} (h:Small zs):Fits zs:=fun x hx=>by have:=h x hx;omega
theorem Small.snoc {zs:List Int} {x:Int} (h:Small zs) (h0:0≤x) (h1:x≤6):Small (zs++[x]):=by
 intro z hz;rcases List.mem_append.1 hz with hz|hz
 ·exact h z hz
 ·simp at hz;subst hz;exact⟨h0,h1⟩
theorem AA {w w1:World} {r:Option Nat} {g:Nat} (h:w.grownBy w1 r) (hg:w.heap.size≤g) (i:Nat) (u:Value):w.grownBy (w1.setCell ⟨g,i,none⟩ u) r :=
 ⟨h.os,h.tape,h.output,by simp[World.setCell];exact h.size,fun k hk hr=>(Below.heap_setCell _ _ _ _ (by intro e;simp at e;omega)).trans (h.block k hk hr)⟩
theorem fK.set {w:World} {p g:Nat} {a:Option Addr} {len cap:Nat} (h:fK w p a len cap) (hne:g≠p) (i:Nat) (u:Value):fK (w.setCell ⟨g,i,none⟩ u) p a len cap:=by
 obtain⟨j,x,hj,hh⟩:=h;exact⟨j,x,hj,(Below.heap_setCell _ _ _ _ (by intro e;exact hne e.symm)).trans hh⟩
theorem Jg {zs:List Int} (h:Fits zs) (i:Nat) {y:Int} (hy:-9223372036854775808≤y∧y≤9223372036854775807):Fits (zs.set i y):=by
 intro x hx;rcases List.mem_or_eq_of_mem_set hx with hx|rfl
 ·exact h x hx
 ·exact hy
theorem U4 {w:World} {g c:Nat} {zs:List Int} (h:OwnAt w g c zs) (hf:Fits zs) (h1:1≤zs.length):Vec w (some ⟨g,1,none⟩) (zs.length-1) zs.tail :=
 ⟨by simp,fun x hx=>hf x (List.mem_of_mem_tail hx),.inr ⟨g,1,rfl,fun i hi=>by rw[Nat.add_comm,h.cell (i:=i+1) (by omega)];simp[el]⟩⟩
end
section
open Go.RowKit
def IZ (xs ys:List Int):Bool:=decide (xs=ys)
theorem PZ (xs:List Int):IZ xs xs=true:=by simp[IZ]
theorem NC (a:Option Addr) (len cap:Nat) (w:World) :
  Calls Tryz.prog 6 #[.slice a len cap] w fun e w'=>e=.returned (.bool (decide ((4096:Int)<(len:Int))))∧w'=w:=by
 go_enter Tryz.func6,Tryz.ntmps6
 go_wp2;go_ret
 exact⟨rfl,rfl⟩
theorem U5 (a a':Option Addr) (len cap len' cap':Nat) (xs ys:List Int) (w:World) (hv:Vec w a len xs) (hv':Vec w a' len' ys) (hm:len≤maxLen) :
  Calls Tryz.prog 24 #[.slice a len cap,.slice a' len' cap'] w fun e w'=>e=.returned (.bool (IZ xs ys))∧∃ n,w'=w.drewN n:=by
 unfold maxLen at hm;unfold IZ;obtain⟨hlen,_,hcs⟩:=hv;obtain⟨hlen',_,hcs'⟩:=hv';by_cases hl:len=len'
 ·have hne:((len:Int) != (len':Int))=false:=by simp[hl]
  have HL:=aj hlen;have yE:=aj hlen';have ru:=aj hl;have hle:(len:Int)≤(len':Int):=by omega
  clear hlen hlen' hl;by_cases h0:len=0
  ·have hx:xs=[]:=List.length_eq_zero_iff.1 (by rw[HL.out];exact h0)
   have hy:ys=[]:=List.length_eq_zero_iff.1 (by rw[yE.out,← ru.out];exact h0)
   subst h0 hx hy;clear hcs hcs';go_enter Tryz.func24,Tryz.ntmps24
   go_wp2
   go_loop [5] (fun i=>i=.int .i64 0) (fun _=>0)
   case atStart=>rfl
   case round =>
    subst hrel;go_wp2;go_ret
    exact⟨rfl,0,rfl⟩
  ·rcases hcs with h|⟨b,off,rfl,hc⟩
   ·omega
   rcases hcs' with h|⟨b',off',rfl,hc'⟩
   ·have:=ru.out;omega
   go_enter Tryz.func24,Tryz.ntmps24
   go_wp2
   go_loopw [5] (fun i wr=>∃ k:Nat,k≤len∧i=.int .i64 k∧(∀ j,j<k→el xs j=el ys j)∧∃ n,wr=w.drewN n) (fun i _=>len-(intOf i).toNat)
   case atStart=>exact⟨0,Nat.zero_le _,rfl,fun j hj=>by omega,0,rfl⟩
   case round =>
    obtain⟨k,hk,rfl,hall,n,rfl⟩:=hrel;have HA:=aj hall;clear hall;by_cases hlt:k<len
    ·have hck:=hc k hlt
     have U2:=hc' k (by have:=ru.out;omega)
     have hi1:(k:Int)<(len:Int):=by omega
     have hi2:(k:Int)<(len':Int):=by omega
     by_cases he:el xs k=el ys k
     ·have hd:(el xs k != el ys k)=false:=by simp[he]
      have HX:=aj he;clear he;go_wp2_with fail
      go_quiet (fail)
      go_wp2;go_roundw
      case rel => exact ⟨k + 1,by omega,by go_num,fun j hj => by
       rcases Nat.lt_succ_iff_lt_or_eq.1 hj with h|h
       ·exact HA.out j h
       ·rw[h];exact HX.out,_,rfl⟩
      case measure=>simp[intOf];omega
     ·have hd:(el xs k != el ys k)=true:=by simp[he]
      go_wp2_with fail
      go_quiet (fail)
      go_wp2;go_ret
      exact⟨aH (by symm;rw[decide_eq_false_iff_not];intro h;exact he (by rw[h])),_,World.drewN_drewN _ _ _⟩
    ·go_wp2
     go_ret
     exact⟨aH (by symm;rw[decide_eq_true_iff];exact Aq (by rw[HL.out,yE.out,ru.out]) (fun j hj=>HA.out j (by rw[HL.out] at hj;omega))),_,rfl⟩
 ·have hne:((len:Int) != (len':Int))=true:=by simp;omega
  go_enter Tryz.func24,Tryz.ntmps24
  go_wp2;go_ret
  exact⟨aH (by symm;rw[decide_eq_false_iff_not];intro h;rw[h] at hlen;omega),0,rfl⟩
end
structure fA (w:World) (s g off n cap:Nat) (xs:List Value):Prop where
 len:xs.length=n*s
 le:n≤cap
 max:cap≤maxLen
 blk:g<w.heap.size
 cell:∀ i,i<n*s→w.cell? ⟨g,off+i,none⟩=xs[i]?
 some:∀ i,i<cap*s→(w.cell? ⟨g,off+i,none⟩).isSome=true
 free:∀ i,i<cap*s→w.frozen? ⟨g,off+i,none⟩=false
theorem fA.of_block {w w':World} {s g off n cap:Nat} {xs:List Value} (h:fA w s g off n cap xs) (e:w'.heap[g]?=w.heap[g]?) (hs:g<w'.heap.size):fA w' s g off n cap xs :=
 ⟨h.len,h.le,h.max,hs,fun i hi => by rw [World.cell?_of_block (w := w) e];exact h.cell i hi,fun i hi => by rw [World.cell?_of_block (w := w) e];exact h.some i hi,
  fun i hi=>by rw[show w'.frozen? ⟨g,off+i,none⟩=w.frozen? ⟨g,off+i,none⟩ from by simp only[World.frozen?,e]];exact h.free i hi⟩
theorem fA.below {w w':World} {s g off n cap B:Nat} {xs:List Value} (h:fA w s g off n cap xs) (hb:Below B w w') (hg:g<B):fA w' s g off n cap xs :=
 h.of_block (hb.block g hg) (Nat.lt_of_lt_of_le h.blk hb.size)
theorem fA.grown {w w':World} {s g off n cap:Nat} {xs:List Value} {r:Option Nat} (h:fA w s g off n cap xs) (hg:w.grownBy w' r) (hr:r≠.some g):fA w' s g off n cap xs :=
 h.of_block (hg.block g h.blk (Ne.symm hr)) (Nat.lt_of_lt_of_le h.blk hg.size)
theorem vX (g off j:Nat):(⟨g,off,none⟩:Addr).add j=⟨g,off+j,none⟩:=by unfold Addr.add;split<;>simp_all
theorem fA.pq {w:World} {base e s n:Nat} {v:Value} {xs:List Value} (h:w.ownsRow base e s v n xs) (hv:v≠.slice none 0 0) :
  ∃ g cap,v=.slice (.some ⟨g,0,none⟩) n cap∧base≤g∧fA w s g 0 n cap xs:=by
 rcases h with ⟨hl,⟨h0,_⟩|⟨g,cap,cur,hv',hb,hg,hle,hm,hs,ht⟩⟩
 ·exact absurd h0 hv
 ·refine⟨g,cap,hv',hb,hl,hle,hm,(Array.getElem?_eq_some_iff.1 hg).1,fun i hi=>?_,fun i hi=>?_,fun i hi=>?_⟩
  ·simp only[World.cell?,hg,Nat.zero_add]
   rw[← ht,List.getElem?_take,if_pos hi];simp
  ·simp only[World.cell?,hg,Nat.zero_add]
   have:i<cur.size:=by omega
   simp[this]
  ·simp[World.frozen?,hg]
theorem size_setCells (b:Nat):∀ (vs:List Value) (o:Nat) (w:World),(w.setCells b o vs).heap.size=w.heap.size
 | [],_,_=>rfl
 | v::vs,o,w=>by
  have:=size_setCells b vs (o+1) (w.setCell ⟨b,o,none⟩ v);simp only[World.setCells] at this ⊢;rw[this];simp[World.setCell]
theorem yF (b:Nat):∀ (vs:List Value) (o:Nat) (w:World),w.grownBy (w.setCells b o vs) (some b)
 | [],_,w=>ng w _
 | v::vs,o,w=>by
  have:=yF b vs (o+1) (w.setCell ⟨b,o,none⟩ v);simp only[World.setCells] at this ⊢;exact bf (uf (ng w _) o v) this
section
variable {P:Program} (w:World)
theorem zN (t ty e:TypeId) (i:TypeInfo) (z:Value) (s bytes:Nat) (ht:P.underlying t=some (.slice e)) (hi:P.info? e=some i) (hz:i.zero=some z)
  (hsize:i.size=s) (hby:i.bytes=bytes) (hzs:z.cells.size=s) (hsz:0<s)
  (g off n cap:Nat) (xs:List Value) (ho:fA w s g off n cap xs)
  (ad:Addr) (m c:Nat) (news:List Value) (hl:news.length=m*s) (hnews:∀ j u,news[j]?=some u→w.cell? (ad.add j)=some u) (h1:∀ u∈news,u.oneCell'=true)
  (h63:n+m≤maxLen) (hbytes:(n+m)*bytes≤140737488355328) :
  ∃ g' off' cap' w',(Builtin.append_ #[t,t] ty #[.slice (some ⟨g,off,none⟩) n cap,.slice (some ad) m c]).run P w=.ok (.slice (some ⟨g',off',none⟩) (n+m) cap') w' ∧
   fA w' s g' off' (n+m) cap' (xs++news)∧w.grownBy w' (some g)∧(g'=g∨g'=w.heap.size):=by
 have hms:∀ j,j<m*s→n+m≤cap→n*s+j<cap*s:=by
  intro j hj hr;have:(n+m)*s≤cap*s:=Nat.mul_le_mul_right _ hr;rw[Nat.add_mul] at this;omega
 have hns:n*s≤cap*s:=Nat.mul_le_mul_right _ ho.le;by_cases hroom:n+m≤cap
 ·have hr:=run_append_room_cells (P:=P) w t ty e i ht hi g off n cap ad m c news (by rw[hl,hsize]) hnews h1 hroom
   (fun j hj=>by rw[hsize,Nat.add_assoc];exact ho.some _ (hms j (by omega) hroom)) (fun j hj=>by rw[hsize,Nat.add_assoc];exact ho.free _ (hms j (by omega) hroom))
  rw[hsize] at hr;have hcs:∀ j,j<news.length→(w.cell? ⟨g,off+n*s+j,none⟩).isSome=true:=fun j hj=>by rw[Nat.add_assoc];exact ho.some _ (hms j (by omega) hroom)
  have hin:=World.cell?_setCells_in g news (off+n*s) w hcs;refine⟨g,off,cap,_,hr,⟨by rw[List.length_append,ho.len,hl,Nat.add_mul],hroom,ho.max,by rw[size_setCells];exact ho.blk,fun k hk=>?_,fun k hk=>?_,fun k hk=>?_⟩,yF _ _ _ _,.inl rfl⟩
  ·by_cases hlt:k<n*s
   ·rw[World.cell?_setCells_out _ _ _ _ _ (fun _ _=>.inl (by simp;omega)),ho.cell k hlt,List.getElem?_append_left (by rw[ho.len];exact hlt)]
   ·have e1:off+k=off+n*s+(k-n*s):=by omega
    rw[Nat.add_mul] at hk;rw[e1,hin (k-n*s) (by omega),List.getElem?_append_right (by rw[ho.len];omega),ho.len]
    simp
  ·by_cases hin':n*s≤k∧k<n*s+m*s
   ·have e1:off+k=off+n*s+(k-n*s):=by omega
    rw[e1,hin (k-n*s) (by omega)];simp
   ·rw[World.cell?_setCells_out _ _ _ _ _ (fun _ _=>by simp;omega)];exact ho.some k hk
  ·rw[World.frozen?_setCells];exact ho.free k hk
 ·have hg := run_append_arg_grows (P := P) w t ty e i z s bytes ht hi hz hsize hby hzs hsz ⟨g,off,none⟩ n cap xs ho.len (fun j u hu => by
   rw[vX]
   have hj:j<xs.length:=by
    rcases Nat.lt_or_ge j xs.length with h|h
    ·exact h
    ·rw[List.getElem?_eq_none h] at hu;cases hu
   rw[ho.cell j (by rw[← ho.len];exact hj)];exact hu) ad m c news hl hnews (by omega) h63 hbytes
  obtain⟨v',w',hr,hown,hgr⟩:=hg;have hm:0<n+m:=by omega
  obtain⟨g',cap',rfl,hb,hlt⟩:=hown.form hm;obtain⟨g2,cap2,hv2,_,hO⟩:=fA.pq hown (by intro h;cases h)
  cases hv2
  rcases hown.2 with ⟨h0,_⟩|⟨g3,cap3,cur,hv3,hb3,hg3,_⟩
  ·cases h0
  ·cases hv3
   refine⟨g',0,cap',w',hr,hO,⟨hgr.os,hgr.tape,hgr.output,hgr.size,fun k hk _=>hgr.block k hk (by simp)⟩, ?_⟩
   right
   have hr2 := run_append_grow (P := P) w t ty e i z ht hi hz ⟨g,off,none⟩ n cap xs (by rw [hsize];exact ho.len) (fun j u hu => by
    rw[vX]
    have hj:j<xs.length:=by
     rcases Nat.lt_or_ge j xs.length with h|h
     ·exact h
     ·rw[List.getElem?_eq_none h] at hu;cases hu
    rw[ho.cell j (by rw[← ho.len];exact hj)];exact hu) ad m c news (by rw[hsize];exact hl) hnews (by omega) (by simp only[maxLen] at h63;omega) (growslice_fits (by omega) (by rw[hby];exact hbytes))
   rw[hr2] at hr;simp only[Result.ok.injEq,Value.slice.injEq,Option.some.injEq,Addr.mk.injEq] at hr;exact hr.1.1.1.symm
theorem Jh {o:Oper} {a:Act} {K:Act→World→Prop} {Q:Exit→Act→World→Prop} (sl x:Operand) (t:TypeId)
  (hop:o.op=.call { callee:=.builtin .append,args:=#[sl,x],argTypes:=#[t,t] })
  (e:TypeId) (i:TypeInfo) (z:Value) (s bytes:Nat) (ht:P.underlying t=some (.slice e)) (hi:P.info? e=some i) (hz:i.zero=some z)
  (hsize:i.size=s) (hby:i.bytes=bytes) (hzs:z.cells.size=s) (hsz:0<s)
  (g off n cap:Nat) (xs:List Value) (hs:a.eval sl=.slice (some ⟨g,off,none⟩) n cap) (ho:fA w s g off n cap xs)
  (ad:Addr) (m c:Nat) (news:List Value) (hx:a.eval x=.slice (some ad) m c) (hl:news.length=m*s) (hnews:∀ j u,news[j]?=some u→w.cell? (ad.add j)=some u) (h1:∀ u∈news,u.oneCell'=true)
  (h63:n+m≤maxLen) (hbytes:(n+m)*bytes≤140737488355328)
  (h:∀ g' off' cap' w',fA w' s g' off' (n+m) cap' (xs++news)→w.grownBy w' (some g)→(g'=g∨g'=w.heap.size)→K (a.put o.dst (.slice (some ⟨g',off',none⟩) (n+m) cap')) w'):o.wp P a w K Q:=by
 obtain⟨g',off',cap',w',hr,h2,h3,h4⟩:=zN (P:=P) w t o.type e i z s bytes ht hi hz hsize hby hzs hsz g off n cap xs ho ad m c news hl hnews h1 h63 hbytes;unfold Oper.wp execOp;simp only[hop,resolve,invoke,builtin,Sem.run_bind,Sem.run_pure,Result.andThen_ok,List.map_toArray,List.map_cons,List.map_nil,hs,hx,hr]
 exact h g' off' cap' w' h2 h3 h4
theorem dG {ops:Array Oper} {rest:List Oper} {o:Oper} {a:Act} {Q:Exit→Act→World→Prop} (hgd:o.guard=none) (sl x:Operand) (t:TypeId)
  (hop:o.op=.call { callee:=.builtin .append,args:=#[sl,x],argTypes:=#[t,t] })
  (e:TypeId) (i:TypeInfo) (z:Value) (s bytes:Nat) (ht:P.underlying t=some (.slice e)) (hi:P.info? e=some i) (hz:i.zero=some z)
  (hsize:i.size=s) (hby:i.bytes=bytes) (hzs:z.cells.size=s) (hsz:0<s)
  (g off n cap:Nat) (xs:List Value) (hs:a.eval sl=.slice (some ⟨g,off,none⟩) n cap) (ho:fA w s g off n cap xs)
  (ad:Addr) (m c:Nat) (news:List Value) (hx:a.eval x=.slice (some ad) m c) (hl:news.length=m*s) (hnews:∀ j u,news[j]?=some u→w.cell? (ad.add j)=some u) (h1:∀ u∈news,u.oneCell'=true)
  (h63:n+m≤maxLen) (hbytes:(n+m)*bytes≤140737488355328)
  (h:∀ g' off' cap' w',fA w' s g' off' (n+m) cap' (xs++news)→w.grownBy w' (some g)→(g'=g∨g'=w.heap.size)→wpList P ops Q rest (a.put o.dst (.slice (some ⟨g',off',none⟩) (n+m) cap')) w'):wpList P ops Q (o::rest) a w :=
 wpList_plain hgd fun _ hK=>Jh w sl x t hop e i z s bytes ht hi hz hsize hby hzs hsz g off n cap xs hs ho ad m c news hx hl hnews h1 h63 hbytes fun g' off' cap' w' h2 h3 h4=>hK _ _ (h g' off' cap' w' h2 h3 h4)
end
def OI (w:World) (g off n cap:Nat) (zs:List Int):Prop:=fA w 1 g off n cap (zs.map (Value.int .i64))
theorem OI.length {w:World} {g off n cap:Nat} {zs:List Int} (h:OI w g off n cap zs):zs.length=n:=by have:=h.len;simpa using this
theorem OI.cellAt {w:World} {g off n cap:Nat} {zs:List Int} (h:OI w g off n cap zs) {i:Nat} (hi:i<n):w.cell? ⟨g,off+i,none⟩=some (.int .i64 (el zs i)):=by
 have hl:=h.length;rw[h.cell i (by omega)]
 simp[el,show i<zs.length by omega]
theorem OI.vec {w:World} {g off n cap:Nat} {zs:List Int} (h:OI w g off n cap zs) (hf:Fits zs):Vec w (some ⟨g,off,none⟩) n zs :=
 ⟨h.length,hf,.inr ⟨g,off,rfl,fun _ hi=>h.cellAt hi⟩⟩
theorem OI.own {w:World} {g cap:Nat} {zs:List Int} (h:OwnAt w g cap zs):OI w g 0 zs.length cap zs:=by
 have hlt:=h.lt;obtain⟨h1,h2,cur,hb,hs,hc⟩:=h;refine⟨by simp,h1,h2,hlt,fun i hi=>?_,fun i hi=>?_,fun i hi=>?_⟩
 ·simp only[World.cell?,hb,Nat.zero_add]
  have:i<zs.length:=by omega
  simp[hc i this,el,this]
 ·simp only[World.cell?,hb,Nat.zero_add]
  have:i<cur.size:=by omega
  simp[this]
 ·simp[World.frozen?,hb]
theorem ZP {w:World} {g off n cap:Nat} {zs:List Int} (h:OI w g off n cap zs) {i:Nat} (hi:i<n) (y:Int):OI (w.setCell ⟨g,off+i,none⟩ (.int .i64 y)) g off n cap (zs.set i y):=by
 have hl:=h.length;have hc:=h.cellAt hi;refine⟨by simp[hl],h.le,h.max,by simp[World.setCell];exact h.blk,fun j hj=>?_,fun j hj=>?_,fun j hj=>by rw[World.frozen?_setCell];exact h.free j hj⟩
 ·by_cases e:i=j
  ·subst e
   rw[World.cell?_setCell_same _ _ _ hc];simp[show i<zs.length by omega]
  ·rw[World.cell?_setCell_other _ _ _ _ (by simp[e]),h.cell j hj]
   simp[e]
 ·by_cases e:i=j
  ·subst e;rw[World.cell?_setCell_same _ _ _ hc];rfl
  ·rw[World.cell?_setCell_other _ _ _ _ (by simp[e])];exact h.some j hj
theorem jX (w:World) (T:TypeId):OI (w.alloc (.cells #[] T)) w.heap.size 0 0 0 [] :=
 ⟨rfl,Nat.le_refl _,Nat.zero_le _,by simp,fun i hi=>by omega,fun i hi=>by omega,fun i hi=>by omega⟩
theorem lI {w:World} {b off:Nat} {xs:List Int} (h:∀ i,i<xs.length→w.cell? ⟨b,off+i,none⟩=some (.int .i64 (el xs i))) (j:Nat) (u:Value) (hu:(xs.map (Value.int .i64))[j]?=some u):w.cell? ((⟨b,off,none⟩:Addr).add j)=some u:=by
 have hj:j<xs.length:=by
  have:=(List.getElem?_eq_some_iff.1 hu).1;simpa using this
 rw[vX,h j hj];simp only[List.getElem?_map,List.getElem?_eq_getElem hj,Option.map_some,Option.some.injEq] at hu;rw[o8 hj,← hu]
theorem kE {B g:Nat} {w w1 w2:World} (h:Below B w w1) (hg:w1.grownBy w2 (some g)) (hB:B≤g) (hs:B≤w1.heap.size):Below B w w2 :=
 ⟨hg.os.trans h.os,hg.tape.trans h.tape,hg.output.trans h.output,Nat.le_trans h.size hg.size,fun k hk=>(hg.block k (by omega) (by simp;omega)).trans (h.block k hk)⟩
def DX (w w':World) (e:Ending) (Z:List Int):Prop:=∃ g off c,e=.returned (.slice (some ⟨g,off,none⟩) Z.length c)∧w.heap.size≤g∧OI w' g off Z.length c Z∧Below w.heap.size w w'
theorem Tryz.info2n:(Tryz.prog.info? 2).map (fun i=>(i.zero,i.size,i.bytes))=some (some (.int .i64 0),1,8):=by kernel_rfl
theorem gX {T s b:Nat} {z:Value} (h:(Tryz.prog.info? T).map (fun i=>(i.zero,i.size,i.bytes))=some (some z,s,b)):∃ i,Tryz.prog.info? T=some i∧i.zero=some z∧i.size=s∧i.bytes=b:=by
 obtain⟨i,hi,hh⟩:=Option.map_eq_some_iff.1 h;simp only[Prod.mk.injEq] at hh;exact⟨i,hi,hh.1,hh.2.1,hh.2.2⟩
def Bx (w:World) (B:Nat) (T:TypeId) (cs:Array Value):Prop:=w.heap[B]?=some (.cells cs T (0,0))
theorem Bx.lt {w:World} {B:Nat} {T:TypeId} {cs:Array Value} (h:Bx w B T cs):B<w.heap.size:=(Array.getElem?_eq_some_iff.1 h).1
theorem Bx.cell {w:World} {B:Nat} {T:TypeId} {cs:Array Value} (h:Bx w B T cs) (i:Nat):w.cell? ⟨B,i,none⟩=cs[i]?:=by simp[World.cell?,show w.heap[B]?=_ from h]
theorem Bx.at {w:World} {B:Nat} {T:TypeId} {cs:Array Value} (h:Bx w B T cs) (i:Nat) {v:Value} (hi:cs[i]?=some v):w.cell? ⟨B,i,none⟩=some v:=(h.cell i).trans hi
theorem Bx.f {w:World} {B:Nat} {T:TypeId} {cs:Array Value} (h:Bx w B T cs) (i:Nat):w.frozen? ⟨B,i,none⟩=false:=by simp[World.frozen?,show w.heap[B]?=_ from h]
theorem Bx.new (w:World) (T:TypeId) (cs:Array Value):Bx (w.alloc (.cells cs T)) w.heap.size T cs:=heap_alloc_new w _
theorem Bx.grown {w w':World} {r:Option Nat} {B:Nat} {T:TypeId} {cs:Array Value} (h:Bx w B T cs) (hg:w.grownBy w' r) (hne:some B≠r):Bx w' B T cs:=(hg.block B h.lt hne).trans h
theorem Bx.alloc {w:World} {B:Nat} {T:TypeId} {cs:Array Value} (h:Bx w B T cs) (o:Obj):Bx (w.alloc o) B T cs:=h.grown (World.grownBy_alloc w o none) (by simp)
theorem Bx.below {w w':World} {B:Nat} {T:TypeId} {cs:Array Value} (h:Bx w B T cs) (hb:Below w.heap.size w w'):Bx w' B T cs:=(hb.block B h.lt).trans h
theorem below_of_grown {w w':World} {B:Nat} {r:Option Nat} {v:World} (h:Below B v w) (hg:w.grownBy w' r) (hr:∀ k,r=some k→B≤k) (hs:B≤w.heap.size):Below B v w' :=
 ⟨hg.os.trans h.os,hg.tape.trans h.tape,hg.output.trans h.output,Nat.le_trans h.size hg.size,fun k hk=>(hg.block k (by omega) (fun e=>by have:=hr k e.symm;omega)).trans (h.block k hk)⟩
end Go.Proofs.YtafimeakbdmkjaaGreat