/-
  Texts in one: Base Vok Copy LawVok Und Rnd Rel Ends JoinSpec JoinImpl LawJoin Draw DrawVec DrawTwo Own Oim Rlr Rzp Frm Str Rdl Lgp Wds Stx Bxs Oso Cel Cei Csp Its Lgm Lgs Lga.
-/
import Derived.Test.YtlnmdfgcpfbleaaRows
import Derived.WalkKit
import Derived.ProofKit
import Derived.Below
import Derived.Lib.MinMax
import Derived.Deep.QuietTactic
import Derived.BigQuiet
import Derived.WalkLawsBesides
import Derived.Deep.OwnRows
import Derived.OpenShut
import Derived.Deep.AppendLies
import Derived.Deep.RegionHeld3
import Derived.Deep.DrawnRows
import Derived.ArgAppend
import Derived.Laws.IdiomCopy
import Derived.Shelf.SlSortCmp.QuietGrown
import Derived.Deep.LoopGhost
import Derived.Laws.IdiomStrings
import Derived.Lib.AppendZeros
namespace Go.Proofs.Ytlnmdfgcpfbleaa
open Go.RowKit
def el (xs : List Int) (i : Nat) : Int := xs.getD i 0
def Vec (w : World) (a : Option Addr) (len : Nat) (xs : List Int) : Prop :=
 xs.length = len ∧ (∀ x ∈ xs,-9223372036854775808 ≤ x ∧ x ≤ 9223372036854775807) ∧
  (len = 0 ∨ ∃ b off,a = some ⟨b,off,none⟩ ∧ ∀ i,i < len → w.cell? ⟨b,off + i,none⟩ = some (.int .i64 (el xs i)))
theorem ret_bool {a b : Bool} (h : a = b) : Ending.returned (.bool a) = .returned (.bool b) := by rw [h]
theorem ret_int {k : IntKind} {a b : Int} (h : a = b) : Ending.returned (.int k a) = .returned (.int k b) := by rw [h]
def inB (x lo hi : Int) : Bool := decide (lo ≤ x) && decide (x ≤ hi)
def okB (xs : List Int) : Bool := decide (1 ≤ xs.length) && decide (xs.length ≤ 8) && xs.all (fun x => inB x 0 1000000)
def loL (x : Int) (xs : List Int) : Int := xs.foldl min x
def hiL (x : Int) (xs : List Int) : Int := xs.foldl max x
theorem el_eq {xs : List Int} {i : Nat} (h : i < xs.length) : el xs i = xs[i] := by simp [el,h]
theorem el_mem {xs : List Int} {i : Nat} (h : i < xs.length) : el xs i ∈ xs := by
 rw [el_eq h];exact List.getElem_mem h
theorem take_snoc {xs : List Int} {k : Nat} (h : k < xs.length) : xs.take (k + 1) = xs.take k ++ [el xs k] := by
 rw [List.take_succ_eq_append_getElem h,el_eq h]
theorem loL_snoc (x : Int) (xs : List Int) (y : Int) : loL x (xs ++ [y]) = min (loL x xs) y := by simp [loL]
theorem hiL_snoc (x : Int) (xs : List Int) (y : Int) : hiL x (xs ++ [y]) = max (hiL x xs) y := by simp [hiL]
theorem okB_false_len {xs : List Int} (h : xs.length < 1 ∨ 8 < xs.length) : okB xs = false := by
 unfold okB;rcases h with h | h <;> simp <;> omega
theorem okB_false_at {xs : List Int} {k : Nat} (hk : k < xs.length) (h : inB (el xs k) 0 1000000 = false) : okB xs = false := by
 unfold okB
 have : (xs.all fun x => inB x 0 1000000) = false := by
  rw [List.all_eq_false];exact ⟨_,el_mem hk,by simp [h]⟩
 simp [this]
theorem okB_true_of {xs : List Int} (h1 : 1 ≤ xs.length) (h8 : xs.length ≤ 8) (h : ∀ j,j < xs.length → inB (el xs j) 0 1000000 = true) : okB xs = true := by
 unfold okB
 have : (xs.all fun x => inB x 0 1000000) = true := by
  rw [List.all_eq_true];intro x hx
  obtain ⟨i,hi,rfl⟩ := List.getElem_of_mem hx
  have := h i hi
  rwa [el_eq hi] at this
 simp [this,h1,h8]
set_option maxHeartbeats 400000 in
theorem l1In_any (x lo hi : Int) (w : World) :
  Calls Try.prog 73 #[.int .i64 x,.int .i64 lo,.int .i64 hi] w fun e w' => e = .returned (.bool (inB x lo hi)) ∧ w' = w := by
 unfold inB
 by_cases h : lo ≤ x
 ·go_enter Try.func73,Try.ntmps73
  go_wp2
  go_ret
  exact ⟨ret_bool (by simp [h]),rfl⟩
 ·have h' : decide (lo ≤ x) = false := by simpa using h
  go_enter Try.func73,Try.ntmps73
  go_wp2
  go_ret
  exact ⟨ret_bool (by simp),rfl⟩
set_option maxHeartbeats 400000 in
theorem specOk_any (a : Option Addr) (len cap : Nat) (xs : List Int) (w : World) (hv : Vec w a len xs) (hm : len ≤ maxLen) :
  Calls Try.prog 25 #[.slice a len cap] w fun e w' => e = .returned (.bool (okB xs)) ∧ w' = w := by
 unfold maxLen at hm
 obtain ⟨hlen,hb,hcs⟩ := hv
 by_cases h1 : (len : Int) < 1
 ·go_enter Try.func25,Try.ntmps25
  go_wp2
  go_ret
  exact ⟨ret_bool (by rw [okB_false_len (by omega)]),rfl⟩
 ·have h1' : decide ((len : Int) < 1) = false := by simpa using h1
  by_cases h8 : (8 : Int) < (len : Int)
  ·go_enter Try.func25,Try.ntmps25
   go_wp2
   go_ret
   exact ⟨ret_bool (by rw [okB_false_len (by omega)]),rfl⟩
  ·have h8' : decide ((8 : Int) < (len : Int)) = false := by simpa using h8
   rcases hcs with h0 | ⟨b,off,rfl,hc⟩
   ·omega
   ·have HL : Hid (xs.length = len) := hlen
    clear hlen
    go_enter Try.func25,Try.ntmps25
    go_wp2
    go_loop [3] (fun i => ∃ k : Nat,k ≤ len ∧ i = .int .i64 k ∧ ∀ j,j < k → inB (el xs j) 0 1000000 = true) (fun i => len - (intOf i).toNat)
    case atStart => exact ⟨0,Nat.zero_le _,rfl,fun j hj => by omega⟩
    case round =>
     obtain ⟨k,hk,rfl,hall⟩ := hrel
     have HA : Hid (∀ j,j < k → inB (el xs j) 0 1000000 = true) := hall
     clear hall
     by_cases hlt : k < len
     ·have hck := hc k hlt
      cases hin : inB (el xs k) 0 1000000
      ·go_wp2_with (go_at_call 73;refine (l1In_any _ _ _ _).mono ?_;rintro e w' ⟨rfl,rfl⟩)
       go_ret
       exact ⟨ret_bool (by rw [okB_false_at (by rw [HL.out];exact hlt) hin]),rfl⟩
      ·go_wp2_with (go_at_call 73;refine (l1In_any _ _ _ _).mono ?_;rintro e w' ⟨rfl,rfl⟩)
       go_round
       case rel => exact ⟨k + 1,by omega,by go_num,fun j hj => by
        rcases Nat.lt_succ_iff_lt_or_eq.1 hj with h | h
        ·exact HA.out j h
        ·rw [h];exact hin⟩
       case measure => simp [intOf];omega
     ·go_wp2
      go_ret
      exact ⟨ret_bool (by rw [okB_true_of (by rw [HL.out];omega) (by rw [HL.out];omega) (fun j hj => HA.out j (by rw [HL.out] at hj;omega))]),rfl⟩
set_option maxHeartbeats 400000 in
theorem least_any (x : Int) (a : Option Addr) (len cap : Nat) (xs : List Int) (w : World) (hv : Vec w a len xs) (hm : len ≤ maxLen) :
    Calls Try.prog 61 #[.int .i64 x, .slice a len cap] w fun e w' => e = .returned (.int .i64 (loL x xs)) ∧ w' = w := by
  unfold maxLen at hm
  obtain ⟨hlen, hb, hcs⟩ := hv
  have HL : Hid (xs.length = len) := hlen
  clear hlen hb
  rcases hcs with h0 | ⟨b, off, rfl, hc⟩
  all_goals
    go_enter Try.func61, Try.ntmps61
    go_wp2
    go_loop [5, 7, 11] (fun m n i => ∃ k : Nat, k ≤ len ∧ i = .int .i64 k ∧ m = .int .i64 (loL x (xs.take k))) (fun _ _ i => len - (intOf i).toNat)
    case atStart => exact ⟨0, Nat.zero_le _, rfl, rfl⟩
    case round =>
      obtain ⟨k, hk, rfl, rfl⟩ := hrel
      by_cases hlt : k < len
      · first
          | omega
          | (have hck := hc k hlt
             have HS : Hid (loL x (xs.take (k + 1)) = min (loL x (xs.take k)) (el xs k)) := by
               rw [Hid, take_snoc (by rw [HL.out]; exact hlt), loL_snoc]
             go_wp2
             go_round
             case rel => exact ⟨k + 1, by omega, by go_num, by rw [HS.out]⟩
             case measure => simp [intOf]; omega)
      · go_wp2
        go_ret
        exact ⟨ret_int (by rw [List.take_of_length_le (by rw [HL.out]; omega)]), rfl⟩
set_option maxHeartbeats 400000 in
theorem greatest_any (x : Int) (a : Option Addr) (len cap : Nat) (xs : List Int) (w : World) (hv : Vec w a len xs) (hm : len ≤ maxLen) :
    Calls Try.prog 60 #[.int .i64 x, .slice a len cap] w fun e w' => e = .returned (.int .i64 (hiL x xs)) ∧ w' = w := by
  unfold maxLen at hm
  obtain ⟨hlen, hb, hcs⟩ := hv
  have HL : Hid (xs.length = len) := hlen
  clear hlen hb
  rcases hcs with h0 | ⟨b, off, rfl, hc⟩
  all_goals
    go_enter Try.func60, Try.ntmps60
    go_wp2
    go_loop [5, 7, 11] (fun m n i => ∃ k : Nat, k ≤ len ∧ i = .int .i64 k ∧ m = .int .i64 (hiL x (xs.take k))) (fun _ _ i => len - (intOf i).toNat)
    case atStart => exact ⟨0, Nat.zero_le _, rfl, rfl⟩
    case round =>
      obtain ⟨k, hk, rfl, rfl⟩ := hrel
      by_cases hlt : k < len
      · first
          | omega
          | (have hck := hc k hlt
             have HS : Hid (hiL x (xs.take (k + 1)) = max (hiL x (xs.take k)) (el xs k)) := by
               rw [Hid, take_snoc (by rw [HL.out]; exact hlt), hiL_snoc]
             go_wp2
             go_round
             case rel => exact ⟨k + 1, by omega, by go_num, by rw [HS.out]⟩
             case measure => simp [intOf]; omega)
      · go_wp2
        go_ret
        exact ⟨ret_int (by rw [List.take_of_length_le (by rw [HL.out]; omega)]), rfl⟩
theorem Vec.tail {w : World} {b off len cap : Nat} {xs : List Int} (hlen : xs.length = len) (hb : ∀ x ∈ xs,-9223372036854775808 ≤ x ∧ x ≤ 9223372036854775807)
  (hc : ∀ i,i < len → w.cell? ⟨b,off + i,none⟩ = some (.int .i64 (el xs i))) (hcap : len ≤ cap) (n : Nat) :
  Vec (w.drewN n) (if cap = 1 then some ⟨b,off,none⟩ else some ⟨b,off + 1,none⟩) (len - 1) xs.tail := by
 refine ⟨by simp [hlen],fun x hx => hb x (List.mem_of_mem_tail hx), ?_⟩
 by_cases h : cap = 1
 ·left;omega
 ·right
  refine ⟨b,off + 1,by simp [h],fun i hi => ?_⟩
  have := hc (i + 1) (by omega)
  rw [show off + (i + 1) = off + 1 + i from by omega] at this
  simp only [World.cell?_drewN]
  rw [this];simp [el]
set_option maxHeartbeats 400000 in
theorem vleast_any (b off len cap : Nat) (xs : List Int) (w : World) (hlen : xs.length = len) (hb : ∀ x ∈ xs,-9223372036854775808 ≤ x ∧ x ≤ 9223372036854775807)
  (hc : ∀ i,i < len → w.cell? ⟨b,off + i,none⟩ = some (.int .i64 (el xs i))) (h1 : 1 ≤ len) (hcap : len ≤ cap) (hm : cap ≤ maxLen) :
  Calls Try.prog 71 #[.slice (some ⟨b,off,none⟩) len cap] w fun e w' => e = .returned (.int .i64 (loL (el xs 0) xs.tail)) ∧ ∃ n,w' = w.drewN n := by
 have hT := Vec.tail hlen hb hc hcap
 unfold maxLen at hm
 have hc0 := hc 0 (by omega)
 simp only [Nat.add_zero] at hc0
 have hp : (0 : Int) < (len : Int) := by omega
 have hp1 : (1 : Int) ≤ (len : Int) := by omega
 have hp2 : (len : Int) ≤ (cap : Int) := by omega
 go_enter Try.func71,Try.ntmps71
 go_wp2_with fail
 go_quiet ((go_at_call 61;exact (least_any _ _ _ _ _ _ (hT _) (by unfold maxLen;omega)).mono (fun e w' h => ⟨h.1,_,h.2⟩)))
 go_wp2
 all_goals
  go_ret
  exact ⟨rfl,_,rfl⟩
set_option maxHeartbeats 400000 in
theorem vgreatest_any (b off len cap : Nat) (xs : List Int) (w : World) (hlen : xs.length = len) (hb : ∀ x ∈ xs,-9223372036854775808 ≤ x ∧ x ≤ 9223372036854775807)
  (hc : ∀ i,i < len → w.cell? ⟨b,off + i,none⟩ = some (.int .i64 (el xs i))) (h1 : 1 ≤ len) (hcap : len ≤ cap) (hm : cap ≤ maxLen) :
  Calls Try.prog 111 #[.slice (some ⟨b,off,none⟩) len cap] w fun e w' => e = .returned (.int .i64 (hiL (el xs 0) xs.tail)) ∧ ∃ n,w' = w.drewN n := by
 have hT := Vec.tail hlen hb hc hcap
 unfold maxLen at hm
 have hc0 := hc 0 (by omega)
 simp only [Nat.add_zero] at hc0
 have hp : (0 : Int) < (len : Int) := by omega
 have hp1 : (1 : Int) ≤ (len : Int) := by omega
 have hp2 : (len : Int) ≤ (cap : Int) := by omega
 go_enter Try.func111,Try.ntmps111
 go_wp2_with fail
 go_quiet ((go_at_call 60;exact (greatest_any _ _ _ _ _ _ (hT _) (by unfold maxLen;omega)).mono (fun e w' h => ⟨h.1,_,h.2⟩)))
 go_wp2
 all_goals
  go_ret
  exact ⟨rfl,_,rfl⟩
theorem okB_ends {xs : List Int} (h1 : 1 ≤ xs.length) (h8 : xs.length ≤ 8) :
  okB xs = (decide (0 ≤ loL (el xs 0) xs.tail) && decide (hiL (el xs 0) xs.tail ≤ 1000000)) := by
 have lo : ∀ (l : List Int) (x m : Int),m ≤ loL x l ↔ m ≤ x ∧ ∀ y ∈ l,m ≤ y := by
  intro l;induction l with
  | nil => intro x m;simp [loL]
  | cons y l ih => intro x m;have := ih (min x y) m;unfold loL at this ⊢;simp only [List.foldl_cons,List.mem_cons,forall_eq_or_imp];rw [this,Int.le_min];exact ⟨fun h => ⟨h.1.1,h.1.2,h.2⟩,fun h => ⟨⟨h.1,h.2.1⟩,h.2.2⟩⟩
 have hi : ∀ (l : List Int) (x m : Int),hiL x l ≤ m ↔ x ≤ m ∧ ∀ y ∈ l,y ≤ m := by
  intro l;induction l with
  | nil => intro x m;simp [hiL]
  | cons y l ih => intro x m;have := ih (max x y) m;unfold hiL at this ⊢;simp only [List.foldl_cons,List.mem_cons,forall_eq_or_imp];rw [this,Int.max_le];exact ⟨fun h => ⟨h.1.1,h.1.2,h.2⟩,fun h => ⟨⟨h.1,h.2.1⟩,h.2.2⟩⟩
 match xs,h1,h8 with
 | x :: l,h1,h8 =>
  rw [Bool.eq_iff_iff]
  simp only [Bool.and_eq_true,decide_eq_true_eq,List.tail_cons,lo,hi]
  unfold okB inB
  simp only [Bool.and_eq_true,decide_eq_true_eq,List.all_cons,List.all_eq_true]
  have e : el (x :: l) 0 = x := rfl
  rw [e]
  constructor
  ·rintro ⟨_,⟨a,b⟩,c⟩;exact ⟨⟨a,fun y hy => (c y hy).1⟩,b,fun y hy => (c y hy).2⟩
  ·rintro ⟨⟨a,c⟩,b,d⟩;exact ⟨⟨h1,h8⟩,⟨a,b⟩,fun y hy => ⟨c y hy,d y hy⟩⟩
set_option maxHeartbeats 400000 in
theorem vok_any (a : Option Addr) (len cap : Nat) (xs : List Int) (w : World) (hv : Vec w a len xs) (hcap : len ≤ cap) (hm : cap ≤ maxLen) :
  Calls Try.prog 72 #[.slice a len cap] w fun e w' => e = .returned (.bool (okB xs)) ∧ ∃ n,w' = w.drewN n := by
 obtain ⟨hlen,hb,hcs⟩ := hv
 by_cases h1 : (len : Int) < 1
 ·go_enter Try.func72,Try.ntmps72
  go_wp2
  go_ret
  exact ⟨ret_bool (by rw [okB_false_len (by omega)]),0,rfl⟩
 ·have h1' : decide ((len : Int) < 1) = false := by simpa using h1
  by_cases h8 : (8 : Int) < (len : Int)
  ·go_enter Try.func72,Try.ntmps72
   go_wp2
   go_ret
   exact ⟨ret_bool (by rw [okB_false_len (by omega)]),0,rfl⟩
  ·have h8' : decide ((8 : Int) < (len : Int)) = false := by simpa using h8
   rcases hcs with h0 | ⟨b,off,rfl,hc⟩
   ·omega
   ·have HE : Hid (okB xs = (decide (0 ≤ loL (el xs 0) xs.tail) && decide (hiL (el xs 0) xs.tail ≤ 1000000))) := okB_ends (by omega) (by omega)
    have HL : Hid (xs.length = len) := hlen
    clear hlen
    by_cases hl : 0 ≤ loL (el xs 0) xs.tail
    ·go_enter Try.func72,Try.ntmps72
     go_wp2_with (first | (go_at_call 71;refine (vleast_any b off len cap xs _ HL.out hb (by exact hc) (by omega) hcap hm).mono ?_;rintro e w' ⟨rfl,n1,rfl⟩) | (go_at_call 111;refine (vgreatest_any b off len cap xs _ HL.out hb (by exact hc) (by omega) hcap hm).mono ?_;rintro e w' ⟨rfl,n2,rfl⟩))
     go_ret
     exact ⟨ret_bool (by rw [HE.out];simp [hl]),_,rfl⟩
    ·have hl' : decide (0 ≤ loL (el xs 0) xs.tail) = false := by simpa using hl
     go_enter Try.func72,Try.ntmps72
     go_wp2_with (first | (go_at_call 71;refine (vleast_any b off len cap xs _ HL.out hb (by exact hc) (by omega) hcap hm).mono ?_;rintro e w' ⟨rfl,n1,rfl⟩) | (go_at_call 111;refine (vgreatest_any b off len cap xs _ HL.out hb (by exact hc) (by omega) hcap hm).mono ?_;rintro e w' ⟨rfl,n2,rfl⟩))
     go_ret
     exact ⟨ret_bool (by rw [HE.out];simp [hl']),_,rfl⟩
theorem Try.info2 : (Try.prog.info? 2).map (fun i => (i.zero,i.size,i.bytes)) = some (some (.int .i64 0),1,8) := by kernel_rfl
def RowOf (w : World) (b : Nat) (xs : List Int) : Prop := w.rowIs b 2 xs.length (fun i => .int .i64 (el xs i))
def Fits (xs : List Int) : Prop := ∀ x ∈ xs,-9223372036854775808 ≤ x ∧ x ≤ 9223372036854775807
theorem Vec.below {w w' : World} {a : Option Addr} {len B : Nat} {xs : List Int} (h : Vec w a len xs) (hb : Below B w w') (hB : w.heap.size ≤ B) : Vec w' a len xs := by
 obtain ⟨h1,h2,h3⟩ := h
 refine ⟨h1,h2, ?_⟩
 rcases h3 with h0 | ⟨b,off,rfl,hc⟩
 ·exact .inl h0
 ·refine .inr ⟨b,off,rfl,fun i hi => ?_⟩
  have hlt := World.block_lt_of_cell? _ _ (hc i hi)
  rw [hb.cell (p := ⟨b,off + i,none⟩) (Nat.lt_of_lt_of_le hlt hB)]
  exact hc i hi
theorem Vec.drewN {w : World} {a : Option Addr} {len : Nat} {xs : List Int} (h : Vec w a len xs) (n : Nat) : Vec (w.drewN n) a len xs := h
def part (xs : List Int) (k : Nat) : Nat → Value := fun j => if j < k then .int .i64 (el xs j) else .int .i64 0
theorem part_start {w : World} {xs : List Int} : (w.alloc (.cells (madeCells #[.int .i64 0] xs.length) 2)).rowIs w.heap.size 2 xs.length (part xs 0) :=
 (World.rowIs_made w (.int .i64 0) xs.length 2).congr (fun j _ => by simp [part])
theorem part_step {w : World} {b : Nat} {xs : List Int} {k : Nat} (h : w.rowIs b 2 xs.length (part xs k)) : (w.setCell ⟨b,k,none⟩ (.int .i64 (el xs k))).rowIs b 2 xs.length (part xs (k + 1)) := by
 refine (h.set k _).congr (fun j _ => ?_)
 simp only [part]
 by_cases e : j = k
 ·subst e;simp
 ·rw [if_neg e]
  by_cases hlt : j < k
  ·rw [if_pos hlt,if_pos (by omega)]
  ·rw [if_neg hlt,if_neg (by omega)]
theorem part_done {w : World} {b : Nat} {xs : List Int} {k : Nat} (h : w.rowIs b 2 xs.length (part xs k)) (hk : xs.length ≤ k) : RowOf w b xs :=
 World.rowIs.congr h (fun j hj => by simp only [part];rw [if_pos (by omega)])
set_option maxHeartbeats 400000 in
theorem copy_any (a : Option Addr) (len cap : Nat) (xs : List Int) (w : World) (hv : Vec w a len xs) (hm : len ≤ 17592186044416) :
    Calls Try.prog 88 #[.slice a len cap] w fun e w' => ∃ b, e = .returned (.slice (some ⟨b, 0, none⟩) len len) ∧ w.heap.size ≤ b ∧ RowOf w' b xs ∧ Below w.heap.size w w' := by
  obtain ⟨hlen, hb, hcs⟩ := hv
  subst hlen
  have hmk := run_make_row' (P := Try.prog) 24 2 (.int .i64 0) 8 Try.underlying24 Try.info2 rfl .i64 .i64 xs.length (by omega) (by omega)
  have hcs' : Hid (xs.length = 0) ∨ ∃ b off, a = some ⟨b, off, none⟩ ∧ ∀ i, i < xs.length → w.cell? ⟨b, off + i, none⟩ = some (.int .i64 (el xs i)) := hcs
  clear hcs
  rcases hcs' with h0 | ⟨b, off, rfl, hc⟩
  all_goals
    go_enter Try.func88, Try.ntmps88
    go_wp2
    go_loopw [4] (fun i wr => ∃ k : Nat, k ≤ xs.length ∧ i = .int .i64 k ∧ wr.rowIs w.heap.size 2 xs.length (part xs k) ∧ Below w.heap.size w wr ∧ wr.heap.size = w.heap.size + 1) (fun i _ => xs.length - (intOf i).toNat)
    case atStart => exact ⟨0, Nat.zero_le _, rfl, part_start, (Below.refl _ _).alloc (Nat.le_refl _) _, by simp⟩
    case round =>
      obtain ⟨k, hk, rfl, hrow, hbel, hsz⟩ := hrel
      have HR : Hid (wr.rowIs w.heap.size 2 xs.length (part xs k)) := hrow
      have HB : Hid (Below w.heap.size w wr) := hbel
      have HZ : Hid (wr.heap.size = w.heap.size + 1) := hsz
      clear hrow hbel hsz
      by_cases hlt : k < xs.length
      · first
          | (have := h0.out; omega)
          | (have hck : wr.cell? ⟨b, off + k, none⟩ = some (.int .i64 (el xs k)) := (HB.out.cell (p := ⟨b, off + k, none⟩) (World.block_lt_of_cell? _ _ (hc k hlt))).trans (hc k hlt)
             have hfr := HR.out.frozen k
             have hcl := HR.out.cell hlt
             go_wp2
             go_roundw
             case rel => exact ⟨k + 1, by omega, by go_num, part_step HR.out, HB.out.setCell (Nat.le_refl _) _, by simp [HZ.out]⟩
             case measure => simp [intOf]; omega)
      · go_wp2
        go_ret
        exact ⟨_, rfl, Nat.le_refl _, part_done HR.out (by omega), HB.out⟩
def IsRow (k : IntKind) (w : World) (a : Option Addr) (len cap : Nat) (zs : List Int) : Prop :=
 (a = none ∧ len = 0 ∧ cap = 0 ∧ zs = []) ∨
 ∃ x,a = some x ∧ len ≤ cap ∧ cap ≤ maxLen ∧ zs.length = cap ∧ (∀ i,i < zs.length → w.cell? (x.add i) = some (.int k (zs.getD i 0))) ∧ ∀ n ∈ zs,(Lit.int k n).wf = true
theorem eq_of_all {xs ys : List Int} (h : xs.length = ys.length) (he : ∀ j,j < xs.length → el xs j = el ys j) : xs = ys := by
 refine List.ext_getElem h (fun i h1 h2 => ?_)
 have := he i h1
 rwa [el_eq h1,el_eq h2] at this
set_option maxHeartbeats 400000 in
theorem eq_any (a a' : Option Addr) (len cap len' cap' : Nat) (xs ys : List Int) (w : World) (hv : Vec w a len xs) (hv' : Vec w a' len' ys) (hm : len ≤ maxLen) :
  Calls Try.prog 52 #[.slice a len cap,.slice a' len' cap'] w fun e w' => e = .returned (.bool (decide (xs = ys))) ∧ ∃ n,w' = w.drewN n := by
 unfold maxLen at hm
 obtain ⟨hlen,_,hcs⟩ := hv
 obtain ⟨hlen',_,hcs'⟩ := hv'
 by_cases hl : len = len'
 ·have hne : ((len : Int) != (len' : Int)) = false := by simp [hl]
  have HL : Hid (xs.length = len) := hlen
  have HL' : Hid (ys.length = len') := hlen'
  have HLL : Hid (len = len') := hl
  have hle : (len : Int) ≤ (len' : Int) := by omega
  clear hlen hlen' hl
  by_cases h0 : len = 0
  ·have hx : xs = [] := List.length_eq_zero_iff.1 (by rw [HL.out];exact h0)
   have hy : ys = [] := List.length_eq_zero_iff.1 (by rw [HL'.out,← HLL.out];exact h0)
   subst h0 hx hy
   clear hcs hcs'
   go_enter Try.func52,Try.ntmps52
   go_wp2
   go_loop [5] (fun i => i = .int .i64 0) (fun _ => 0)
   case atStart => rfl
   case round =>
    subst hrel
    go_wp2
    go_ret
    exact ⟨rfl,0,rfl⟩
  ·rcases hcs with h | ⟨b,off,rfl,hc⟩
   ·omega
   rcases hcs' with h | ⟨b',off',rfl,hc'⟩
   ·have := HLL.out;omega
   go_enter Try.func52,Try.ntmps52
   go_wp2
   go_loopw [5] (fun i wr => ∃ k : Nat,k ≤ len ∧ i = .int .i64 k ∧ (∀ j,j < k → el xs j = el ys j) ∧ ∃ n,wr = w.drewN n) (fun i _ => len - (intOf i).toNat)
   case atStart => exact ⟨0,Nat.zero_le _,rfl,fun j hj => by omega,0,rfl⟩
   case round =>
    obtain ⟨k,hk,rfl,hall,n,rfl⟩ := hrel
    have HA : Hid (∀ j,j < k → el xs j = el ys j) := hall
    clear hall
    by_cases hlt : k < len
    ·have hck := hc k hlt
     have hck' := hc' k (by have := HLL.out;omega)
     have hi1 : (k : Int) < (len : Int) := by omega
     have hi2 : (k : Int) < (len' : Int) := by omega
     by_cases he : el xs k = el ys k
     ·have hd : (el xs k != el ys k) = false := by simp [he]
      have HX : Hid (el xs k = el ys k) := he
      clear he
      go_wp2_with fail
      go_quiet (fail)
      go_wp2
      go_roundw
      case rel => exact ⟨k + 1,by omega,by go_num,fun j hj => by
       rcases Nat.lt_succ_iff_lt_or_eq.1 hj with h | h
       ·exact HA.out j h
       ·rw [h];exact HX.out,_,rfl⟩
      case measure => simp [intOf];omega
     ·have hd : (el xs k != el ys k) = true := by simp [he]
      go_wp2_with fail
      go_quiet (fail)
      go_wp2
      go_ret
      exact ⟨ret_bool (by symm;rw [decide_eq_false_iff_not];intro h;exact he (by rw [h])),_,World.drewN_drewN _ _ _⟩
    ·go_wp2
     go_ret
     exact ⟨ret_bool (by symm;rw [decide_eq_true_iff];exact eq_of_all (by rw [HL.out,HL'.out,HLL.out]) (fun j hj => HA.out j (by rw [HL.out] at hj;omega))),_,rfl⟩
 ·have hne : ((len : Int) != (len' : Int)) = true := by simp;omega
  go_enter Try.func52,Try.ntmps52
  go_wp2
  go_ret
  exact ⟨ret_bool (by symm;rw [decide_eq_false_iff_not];intro h;rw [h] at hlen;omega),0,rfl⟩
theorem belowN {B n : Nat} {a w : World} (h : Below B a w) : Below B a (w.drewN n) := ⟨h.os,h.tape,h.output,h.size,h.block⟩
def twoB (xs ys : List Int) : Bool := okB xs && okB ys && decide (xs.length = ys.length)
def leB (xs ys : List Int) : Bool := (List.range xs.length).all (fun i => decide (el xs i ≤ el ys i))
def underB (xs ys : List Int) : Bool := twoB xs ys && leB xs ys
theorem leB_false {xs ys : List Int} {k : Nat} (hk : k < xs.length) (h : ¬ el xs k ≤ el ys k) : leB xs ys = false := by
 unfold leB;rw [List.all_eq_false];exact ⟨k,List.mem_range.2 hk,by simpa using h⟩
theorem leB_true {xs ys : List Int} (h : ∀ j,j < xs.length → el xs j ≤ el ys j) : leB xs ys = true := by
 unfold leB;rw [List.all_eq_true];intro j hj;simpa using h j (List.mem_range.1 hj)
theorem okB_len {xs : List Int} (h : okB xs = true) : 1 ≤ xs.length ∧ xs.length ≤ 8 := by
 unfold okB at h;simp only [Bool.and_eq_true,decide_eq_true_eq] at h;exact h.1
theorem twoB_true {xs ys : List Int} (h : twoB xs ys = true) : okB xs = true ∧ okB ys = true ∧ xs.length = ys.length := by
 unfold twoB at h;simp only [Bool.and_eq_true,decide_eq_true_eq] at h;exact ⟨h.1.1,h.1.2,h.2⟩
theorem Vec.cells {w : World} {a : Option Addr} {len : Nat} {xs : List Int} (h : Vec w a len xs) (h1 : 1 ≤ len) :
  ∃ b off,a = some ⟨b,off,none⟩ ∧ ∀ i,i < len → w.cell? ⟨b,off + i,none⟩ = some (.int .i64 (el xs i)) := by
 obtain ⟨_,_,h0 | h⟩ := h
 ·omega
 ·exact h
set_option maxHeartbeats 400000 in
theorem l1Two_any (a a' : Option Addr) (len cap len' cap' : Nat) (xs ys : List Int) (w : World) (hv : Vec w a len xs) (hv' : Vec w a' len' ys) (hm : len ≤ maxLen) (hm' : len' ≤ maxLen) :
  Calls Try.prog 64 #[.slice a len cap,.slice a' len' cap'] w fun e w' => e = .returned (.bool (twoB xs ys)) ∧ w' = w := by
 have HL : Hid (xs.length = len) := hv.1
 have HL' : Hid (ys.length = len') := hv'.1
 unfold twoB
 cases hx : okB xs
 ·go_enter Try.func64,Try.ntmps64
  go_wp2_with fail
  refine (specOk_any _ _ _ xs _ hv hm).mono ?_
  rintro e w1' ⟨rfl,rfl⟩
  go_wp2_with fail
  go_ret
  exact ⟨ret_bool (by simp),rfl⟩
 ·cases hy : okB ys
  ·go_enter Try.func64,Try.ntmps64
   go_wp2_with fail
   refine (specOk_any _ _ _ xs _ hv hm).mono ?_
   rintro e w1' ⟨rfl,rfl⟩
   go_wp2_with fail
   refine (specOk_any _ _ _ ys _ hv' hm').mono ?_
   rintro e w1' ⟨rfl,rfl⟩
   go_wp2_with fail
   go_ret
   exact ⟨ret_bool (by simp),rfl⟩
  ·go_enter Try.func64,Try.ntmps64
   go_wp2_with fail
   refine (specOk_any _ _ _ xs _ hv hm).mono ?_
   rintro e w1' ⟨rfl,rfl⟩
   go_wp2_with fail
   refine (specOk_any _ _ _ ys _ hv' hm').mono ?_
   rintro e w1' ⟨rfl,rfl⟩
   go_wp2_with fail
   go_ret
   exact ⟨ret_bool (by rw [HL.out,HL'.out,Bool.eq_iff_iff];simp;omega),rfl⟩
set_option maxHeartbeats 400000 in
theorem fits_any (a a' : Option Addr) (len cap len' cap' : Nat) (xs ys : List Int) (w : World) (hv : Vec w a len xs) (hv' : Vec w a' len' ys) (hc : len ≤ cap) (hc' : len' ≤ cap') (hm : cap ≤ maxLen) (hm' : cap' ≤ maxLen) :
  Calls Try.prog 67 #[.slice a len cap,.slice a' len' cap'] w fun e w' => e = .returned (.bool (twoB xs ys)) ∧ ∃ n,w' = w.drewN n := by
 have HL : Hid (xs.length = len) := hv.1
 have HL' : Hid (ys.length = len') := hv'.1
 unfold twoB
 by_cases hl : len = len'
 ·have hd : ((len : Int) == (len' : Int)) = true := by simp [hl]
  have HD : Hid (len = len') := hl
  clear hl
  cases hx : okB xs
  ·go_enter Try.func67,Try.ntmps67
   go_wp2_with fail
   refine (vok_any _ _ _ xs _ hv hc hm).mono ?_
   rintro e w1' ⟨rfl,n1,rfl⟩
   go_wp2_with fail
   go_ret
   exact ⟨ret_bool (by simp),_,rfl⟩
  ·go_enter Try.func67,Try.ntmps67
   go_wp2_with fail
   refine (vok_any _ _ _ xs _ hv hc hm).mono ?_
   rintro e w1' ⟨rfl,n1,rfl⟩
   go_wp2_with fail
   refine (vok_any _ _ _ ys _ (hv'.drewN n1) hc' hm').mono ?_
   rintro e w1' ⟨rfl,n2,rfl⟩
   go_wp2_with fail
   go_ret
   exact ⟨ret_bool (by rw [HL.out,HL'.out,HD.out];simp),_,rfl⟩
 ·have hd : ((len : Int) == (len' : Int)) = false := by simp;omega
  go_enter Try.func67,Try.ntmps67
  go_wp2_with fail
  go_ret
  exact ⟨ret_bool (by rw [HL.out,HL'.out];simp [hl]),0,rfl⟩
set_option maxHeartbeats 400000 in
theorem vunder_any (b off b' off' len cap len' cap' : Nat) (xs ys : List Int) (w : World) (hlen : xs.length = len)
  (hc : ∀ i,i < len → w.cell? ⟨b,off + i,none⟩ = some (.int .i64 (el xs i))) (hc' : ∀ i,i < len' → w.cell? ⟨b',off' + i,none⟩ = some (.int .i64 (el ys i))) (hl : len ≤ len') (hm : len ≤ 8) :
  Calls Try.prog 68 #[.slice (some ⟨b,off,none⟩) len cap,.slice (some ⟨b',off',none⟩) len' cap'] w fun e w' => e = .returned (.bool (leB xs ys)) ∧ w' = w := by
 have HL : Hid (xs.length = len) := hlen
 clear hlen
 go_enter Try.func68,Try.ntmps68
 go_wp2
 go_loop [5,6,9] (fun _ _ i => ∃ k : Nat,k ≤ len ∧ i = .int .i64 k ∧ ∀ j,j < k → el xs j ≤ el ys j) (fun _ _ i => len - (intOf i).toNat)
 case atStart => exact ⟨0,Nat.zero_le _,rfl,fun j hj => by omega⟩
 case round =>
  obtain ⟨k,hk,rfl,hall⟩ := hrel
  have HA : Hid (∀ j,j < k → el xs j ≤ el ys j) := hall
  clear hall
  by_cases hlt : k < len
  ·have hck := hc k hlt
   have hck' := hc' k (by omega)
   have hi1 : (k : Int) < (len : Int) := by omega
   have hi2 : (k : Int) < (len' : Int) := by omega
   by_cases he : el ys k < el xs k
   ·go_wp2
    go_ret
    exact ⟨ret_bool (by rw [leB_false (by rw [HL.out];exact hlt) (by omega)]),rfl⟩
   ·go_wp2
    go_round
    case rel => exact ⟨k + 1,by omega,by go_num,fun j hj => by
     rcases Nat.lt_succ_iff_lt_or_eq.1 hj with h | h
     ·exact HA.out j h
     ·rw [h];omega⟩
    case measure => simp [intOf];omega
  ·go_wp2
   go_ret
   exact ⟨ret_bool (by rw [leB_true (fun j hj => HA.out j (by rw [HL.out] at hj;omega))]),rfl⟩
set_option maxHeartbeats 400000 in
theorem implUnder_any (a a' : Option Addr) (len cap len' cap' : Nat) (xs ys : List Int) (w : World) (hv : Vec w a len xs) (hv' : Vec w a' len' ys) (hc : len ≤ cap) (hc' : len' ≤ cap') (hm : cap ≤ maxLen) (hm' : cap' ≤ maxLen) :
  Calls Try.prog 18 #[.slice a len cap,.slice a' len' cap'] w fun e w' => e = .returned (.bool (underB xs ys)) ∧ ∃ n,w' = w.drewN n := by
 unfold underB
 cases h2 : twoB xs ys
 ·go_enter Try.func18,Try.ntmps18
  go_wp2_with fail
  refine (fits_any _ _ _ _ _ _ xs ys _ hv hv' hc hc' hm hm').mono ?_
  rintro e w1' ⟨rfl,n1,rfl⟩
  go_wp2_with fail
  go_ret
  exact ⟨ret_bool (by simp),_,rfl⟩
 ·obtain ⟨ox,oy,hl⟩ := twoB_true h2
  have kx := okB_len ox
  have ky := okB_len oy
  have hlx := hv.1
  have hly := hv'.1
  obtain ⟨b,off,rfl,hcx⟩ := hv.cells (by omega)
  obtain ⟨b',off',rfl,hcy⟩ := hv'.cells (by omega)
  have HX : Hid (xs.length = len) := hlx
  have h8 : len ≤ 8 := by omega
  have hll : len ≤ len' := by omega
  clear ox oy hl hlx hly kx ky
  go_enter Try.func18,Try.ntmps18
  go_wp2_with fail
  refine (fits_any _ _ _ _ _ _ xs ys _ hv hv' hc hc' hm hm').mono ?_
  rintro e w1' ⟨rfl,n1,rfl⟩
  go_wp2_with fail
  refine (vunder_any b off b' off' len cap len' cap' xs ys _ HX.out (by exact hcx) (by exact hcy) hll h8).mono ?_
  rintro e w1' ⟨rfl,rfl⟩
  go_wp2_with fail
  go_ret
  exact ⟨ret_bool (by simp),_,rfl⟩
set_option maxHeartbeats 400000 in
theorem specUnder_any (a a' : Option Addr) (len cap len' cap' : Nat) (xs ys : List Int) (w : World) (hv : Vec w a len xs) (hv' : Vec w a' len' ys) (hm : len ≤ maxLen) (hm' : len' ≤ maxLen) :
  Calls Try.prog 19 #[.slice a len cap,.slice a' len' cap'] w fun e w' => e = .returned (.bool (underB xs ys)) ∧ ∃ n,w' = w.drewN n := by
 unfold underB
 cases h2 : twoB xs ys
 ·go_enter Try.func19,Try.ntmps19
  go_wp2_with fail
  refine (l1Two_any _ _ _ _ _ _ xs ys _ hv hv' hm hm').mono ?_
  rintro e w1' ⟨rfl,rfl⟩
  go_wp2
  go_ret
  exact ⟨ret_bool (by simp),0,rfl⟩
 ·obtain ⟨ox,oy,hl⟩ := twoB_true h2
  have kx := okB_len ox
  have ky := okB_len oy
  have hlx := hv.1
  have hly := hv'.1
  obtain ⟨b,off,rfl,hcx⟩ := hv.cells (by omega)
  obtain ⟨b',off',rfl,hcy⟩ := hv'.cells (by omega)
  have HX : Hid (xs.length = len) := hlx
  have h8 : len ≤ 8 := by omega
  have hll : len ≤ len' := by omega
  clear ox oy hl hlx hly kx ky
  go_enter Try.func19,Try.ntmps19
  go_wp2_with fail
  refine (l1Two_any _ _ _ _ _ _ xs ys _ hv hv' hm hm').mono ?_
  rintro e w1' ⟨rfl,rfl⟩
  clear hv hv' hm hm'
  go_wp2
  go_loopw [5] (fun i wr => ∃ k : Nat,k ≤ len ∧ i = .int .i64 k ∧ (∀ j,j < k → el xs j ≤ el ys j) ∧ ∃ n,wr = w1'.drewN n) (fun i _ => len - (intOf i).toNat)
  case atStart => exact ⟨0,Nat.zero_le _,rfl,fun j hj => by omega,0,rfl⟩
  case round =>
   obtain ⟨k,hk,rfl,hall,n,rfl⟩ := hrel
   have HA : Hid (∀ j,j < k → el xs j ≤ el ys j) := hall
   clear hall
   by_cases hlt : k < len
   ·have hck := hcx k hlt
    have hck' := hcy k (by omega)
    have hi1 : (k : Int) < (len : Int) := by omega
    have hi2 : (k : Int) < (len' : Int) := by omega
    by_cases he : el ys k < el xs k
    ·go_wp2_with fail
     go_quiet (fail)
     go_wp2
     go_ret
     exact ⟨ret_bool (by rw [leB_false (by rw [HX.out];exact hlt) (by omega)];simp),_,World.drewN_drewN _ _ _⟩
    ·go_wp2_with fail
     go_quiet (fail)
     go_wp2
     go_roundw
     case rel => exact ⟨k + 1,by omega,by go_num,fun j hj => by
      rcases Nat.lt_succ_iff_lt_or_eq.1 hj with h | h
      ·exact HA.out j h
      ·rw [h];omega,_,rfl⟩
     case measure => simp [intOf];omega
   ·go_wp2
    go_ret
    exact ⟨ret_bool (by rw [leB_true (fun j hj => HA.out j (by rw [HX.out] at hj;omega))];simp),_,rfl⟩
end Go.Proofs.Ytlnmdfgcpfbleaa
namespace Go.Proofs.Ytlnmdfgcpfbleaa
set_option linter.unusedVariables false
set_option linter.unusedSimpArgs false
theorem inB7 {x lo hi : Int} : inB x lo hi = true ↔ lo ≤ x ∧ x ≤ hi := by simp [inB]
def bel (cs : List Int) (q : Nat) : Prop := ((q / cs.length : Nat) : Int) < el cs (q % cs.length)
def rdy (cs : List Int) (k : Nat) (b : Int) : Int := (List.range k).foldl (fun b i => min b ((cs.length : Int) * el cs i + (i : Int))) b
set_option linter.unusedVariables false
set_option linter.unusedSimpArgs false
def row (H : List (List Int)) (i : Nat) : List Int := H.getD i []
def okRow (B : Int) (h : List Int) : Prop := (∀ i,i < h.length → 0 ≤ el h i ∧ el h i ≤ B - 1) ∧ ∀ i,i < h.length - 1 → el h i < el h (i + 1)
instance (B : Int) (h : List Int) : Decidable (okRow B h) := by unfold okRow;infer_instance
def okRel (N B : Int) (H : List (List Int)) : Prop := (1 ≤ N ∧ N ≤ 12) ∧ (1 ≤ B ∧ B ≤ 12) ∧ (H.length : Int) = N ∧ ((row H 0).length : Int) = B ∧ ∀ i,i < H.length → okRow B (row H i)
instance (N B : Int) (H : List (List Int)) : Decidable (okRel N B H) := by unfold okRel;infer_instance
def putL : List Int → Int → List Int
 | [],n => [n]
 | x :: l,n => if x < n then x :: putL l n else if x = n then x :: l else n :: x :: l
abbrev Ps := Int × Int × Int
def pat (cs : List Ps) (i : Nat) : Ps := cs.getD i (0,0,0)
def psOk (N : Int) (H : List (List Int)) (cs : List Ps) (i : Nat) : Prop :=
 (0 ≤ (pat cs i).1 ∧ (pat cs i).1 ≤ N - 1) ∧ (0 ≤ (pat cs i).2.1 ∧ (pat cs i).2.1 ≤ N - 1) ∧ (pat cs i).2.2 ∈ row H (pat cs i).1.toNat ∧ ∀ k,k < i → (pat cs k).1 ≠ (pat cs i).1 ∧ (pat cs k).2.1 ≠ (pat cs i).2.1
instance (N : Int) (H : List (List Int)) (cs : List Ps) (i : Nat) : Decidable (psOk N H cs i) := by unfold psOk;infer_instance
def turnOk (N : Int) (H : List (List Int)) (cs : List Ps) : Prop := ∀ i,i < cs.length → psOk N H cs i
instance (N : Int) (H : List (List Int)) (cs : List Ps) : Decidable (turnOk N H cs) := by unfold turnOk;infer_instance
def fullH (B : Int) (H : List (List Int)) : Prop := ∀ i,i < H.length → ((row H i).length : Int) = B
instance (B : Int) (H : List (List Int)) : Decidable (fullH B H) := by unfold fullH;infer_instance
end Go.Proofs.Ytlnmdfgcpfbleaa
namespace Go.Proofs.Ytlnmdfgcpfbleaa
open Go.RowKit
def OwnAt (w : World) (g cap : Nat) (zs : List Int) : Prop :=
 zs.length ≤ cap ∧ cap ≤ maxLen ∧ ∃ cur,w.heap[g]? = some (.cells cur 2 (0,0)) ∧ cur.size = cap ∧ ∀ i,i < zs.length → cur[i]? = some (.int .i64 (el zs i))
theorem OwnAt.lt {w : World} {g cap : Nat} {zs : List Int} (h : OwnAt w g cap zs) : g < w.heap.size := by
 obtain ⟨_,_,c,hb,_⟩ := h
 obtain ⟨hlt,_⟩ := Array.getElem?_eq_some_iff.1 hb
 exact hlt
theorem RowOf.own {w : World} {b : Nat} {xs : List Int} (h : RowOf w b xs) (hm : xs.length ≤ maxLen) : OwnAt w b xs.length xs := by
 obtain ⟨c,hb,hn,hc⟩ := h
 exact ⟨Nat.le_refl _,hm,c,hb,hn,hc⟩
attribute [local go_sem ↓] Go.wp_at_zero Go.wp_at_succ
end Go.Proofs.Ytlnmdfgcpfbleaa
namespace Go.Proofs.Ytlnmdfgcpfbleaa
open Go.RowKit
theorem grown_refl (w : World) (r : Option Nat) : w.grownBy w r := ⟨rfl,rfl,rfl,Nat.le_refl _,fun _ _ _ => rfl⟩
theorem grown_set {w w1 : World} {p : Nat} (h : w.grownBy w1 (some p)) (i : Nat) (u : Value) : w.grownBy (w1.setCell ⟨p,i,none⟩ u) (some p) :=
 ⟨h.os,h.tape,h.output,by simp [World.setCell];exact h.size,fun k hk hr => (Below.heap_setCell _ _ _ _ (by intro e;exact hr (by rw [e]))).trans (h.block k hk hr)⟩
end Go.Proofs.Ytlnmdfgcpfbleaa
namespace Go.Proofs.Ytlnmdfgcpfbleaa
open Go.RowKit Go.Sort
structure OSl (w : World) (s g off n cap : Nat) (xs : List Value) : Prop where
 len : xs.length = n * s
 le : n ≤ cap
 max : cap ≤ maxLen
 blk : g < w.heap.size
 cell : ∀ i,i < n * s → w.cell? ⟨g,off + i,none⟩ = xs[i]?
 some : ∀ i,i < cap * s → (w.cell? ⟨g,off + i,none⟩).isSome = true
 free : ∀ i,i < cap * s → w.frozen? ⟨g,off + i,none⟩ = false
theorem OSl.of_block {w w' : World} {s g off n cap : Nat} {xs : List Value} (h : OSl w s g off n cap xs) (e : w'.heap[g]? = w.heap[g]?) (hs : g < w'.heap.size) : OSl w' s g off n cap xs :=
 ⟨h.len,h.le,h.max,hs,fun i hi => by rw [World.cell?_of_block (w := w) e];exact h.cell i hi,fun i hi => by rw [World.cell?_of_block (w := w) e];exact h.some i hi,
  fun i hi => by rw [show w'.frozen? ⟨g,off + i,none⟩ = w.frozen? ⟨g,off + i,none⟩ from by simp only [World.frozen?,e]];exact h.free i hi⟩
theorem add_lit0 (g off j : Nat) : (⟨g,off,none⟩ : Addr).add j = ⟨g,off + j,none⟩ := by unfold Addr.add;split <;> simp_all
section
variable {P : Program} (w : World)
end
def OI (w : World) (g off n cap : Nat) (zs : List Int) : Prop := OSl w 1 g off n cap (zs.map (Value.int .i64))
theorem OI.own {w : World} {g cap : Nat} {zs : List Int} (h : OwnAt w g cap zs) : OI w g 0 zs.length cap zs := by
 have hlt := h.lt
 obtain ⟨h1,h2,cur,hb,hs,hc⟩ := h
 refine ⟨by simp,h1,h2,hlt,fun i hi => ?_,fun i hi => ?_,fun i hi => ?_⟩
 ·simp only [World.cell?,hb,Nat.zero_add]
  have : i < zs.length := by omega
  simp [hc i this,el,this]
 ·simp only [World.cell?,hb,Nat.zero_add]
  have : i < cur.size := by omega
  simp [this]
 ·simp [World.frozen?,hb]
def Grew (w w' : World) : Prop := Below w.heap.size w w' ∧ w.drawn ≤ w'.drawn
theorem Grew.refl (w : World) : Grew w w := ⟨Below.refl _ _,Nat.le_refl _⟩
theorem Grew.trans {a b c : World} (h : Grew a b) (k : Grew b c) : Grew a c := ⟨h.1.trans (k.1.mono h.1.size),Nat.le_trans h.2 k.2⟩
theorem Grew.alloc {a b : World} (h : Grew a b) (o : Obj) : Grew a (b.alloc o) := ⟨h.1.alloc h.1.size o,h.2⟩
theorem Grew.drewN {a b : World} (h : Grew a b) (n : Nat) : Grew a (b.drewN n) := ⟨⟨h.1.os,h.1.tape,h.1.output,h.1.size,h.1.block⟩,Nat.le_trans h.2 (Nat.le_add_right _ _)⟩
end Go.Proofs.Ytlnmdfgcpfbleaa
namespace Go.Proofs.Ytlnmdfgcpfbleaa
set_option linter.unusedSimpArgs false
set_option linter.unusedVariables false
open Go.RowKit Go.Sort
end Go.Proofs.Ytlnmdfgcpfbleaa
namespace Go.Proofs.Ytlnmdfgcpfbleaa
set_option linter.unusedVariables false
set_option linter.unusedSimpArgs false
open Go.RowKit Go.Sort
theorem el_mem10 {xs : List Int} {x : Int} : x ∈ xs ↔ ∃ j,j < xs.length ∧ el xs j = x := by
 constructor
 ·intro h
  obtain ⟨i,hi,rfl⟩ := List.getElem_of_mem h
  exact ⟨i,hi,by rw [el_eq hi]⟩
 ·rintro ⟨j,hj,rfl⟩
  exact el_mem hj
def risB (xs : List Int) : Bool := decide (∀ i,i < xs.length - 1 → el xs i < el xs (i + 1))
set_option maxHeartbeats 400000 in
theorem l1Has_any (a : Option Addr) (len cap : Nat) (x : Int) (xs : List Int) (w : World) (hv : Vec w a len xs) (hm : len ≤ maxLen) :
  Calls Try.prog 120 #[.slice a len cap,.int .i64 x] w fun e w' => e = .returned (.bool (decide (x ∈ xs))) ∧ w' = w := by
 unfold maxLen at hm
 have HL : Hid (xs.length = len) := hv.1
 have hc := hv.2.2
 clear hv
 go_enter Try.func120,Try.ntmps120
 go_wp2
 go_loop [5] (fun i => ∃ k : Nat,k ≤ len ∧ i = .int .i64 k ∧ ∀ j,j < k → el xs j ≠ x) (fun i => len - (intOf i).toNat)
 case atStart => exact ⟨0,Nat.zero_le _,rfl,fun j hj => by omega⟩
 case round =>
  obtain ⟨k,hk,rfl,hno⟩ := hrel
  have HN : Hid (∀ j,j < k → el xs j ≠ x) := hno
  clear hno
  by_cases hlt : k < len
  ·rcases hc with h0 | ⟨b,off,rfl,hc⟩
   ·omega
   have hck := hc k hlt
   by_cases he : el xs k = x
   ·have hb : (el xs k == x) = true := by simpa using he
    have HF : Hid (decide (x ∈ xs) = true) := by rw [Hid,decide_eq_true_eq];exact el_mem10.2 ⟨k,by rw [HL.out];exact hlt,he⟩
    clear he
    go_wp2
    go_ret
    exact ⟨ret_bool (by rw [HF.out]),rfl⟩
   ·have hb : (el xs k == x) = false := by simpa using he
    have HE : Hid (el xs k ≠ x) := he
    clear he
    go_wp2
    go_round
    case rel => exact ⟨k + 1,by omega,by go_num,fun j hj => by
     rcases Nat.lt_succ_iff_lt_or_eq.1 hj with h | h
     ·exact HN.out j h
     ·rw [h];exact HE.out⟩
    case measure => simp [intOf];omega
  ·have HF : Hid (decide (x ∈ xs) = false) := by
    rw [Hid,decide_eq_false_iff_not,el_mem10]
    rintro ⟨j,hj,e⟩
    exact HN.out j (by rw [HL.out] at hj;omega) e
   clear hc
   go_wp2
   go_ret
   exact ⟨ret_bool (by rw [HF.out]),rfl⟩
set_option maxHeartbeats 800000 in
theorem l1Rises_any (a : Option Addr) (len cap : Nat) (xs : List Int) (w : World) (hv : Vec w a len xs) (hm : len ≤ maxLen) :
  Calls Try.prog 121 #[.slice a len cap] w fun e w' => e = .returned (.bool (risB xs)) ∧ ∃ n,w' = w.drewN n := by
 unfold maxLen at hm
 have HL : Hid (xs.length = len) := hv.1
 have hc := hv.2.2
 clear hv
 go_enter Try.func121,Try.ntmps121
 go_wp2
 go_loopw [3] (fun i wr => ∃ k n : Nat,k ≤ len ∧ i = .int .i64 ((k : Int) + 1) ∧ wr = w.drewN n ∧ ∀ j,j < k → el xs j < el xs (j + 1)) (fun i _ => (len + 1) - (intOf i).toNat)
 case atStart => exact ⟨0,0,Nat.zero_le _,rfl,rfl,fun j hj => by omega⟩
 case round =>
  obtain ⟨k,n,hk,rfl,rfl,hr⟩ := hrel
  have HR : Hid (∀ j,j < k → el xs j < el xs (j + 1)) := hr
  clear hr
  by_cases hlt : k + 1 < len
  ·rcases hc with h0 | ⟨b,off,rfl,hc⟩
   ·omega
   have c1 := hc (k + 1) hlt
   have c0 := hc k (by omega)
   have h1 : (k : Int) + 1 < (len : Int) := by omega
   have h2 : (k : Int) < (len : Int) := by omega
   have h0 : (0 : Int) ≤ (k : Int) + 1 := by omega
   have h3 : (0 : Int) ≤ (k : Int) := by omega
   have e1 : ((k : Int) + 1).toNat = k + 1 := by omega
   by_cases hx : el xs k < el xs (k + 1)
   ·have hd : decide (el xs (k + 1) ≤ el xs k) = false := by simp;omega
    have HX : Hid (el xs k < el xs (k + 1)) := hx
    clear hx
    go_wp2_with fail
    go_quiet (fail)
    go_wp2
    go_roundw
    case rel => exact ⟨k + 1,_,by omega,by go_num,rfl,fun j hj => by
     rcases Nat.lt_succ_iff_lt_or_eq.1 hj with h | h
     ·exact HR.out j h
     ·rw [h];exact HX.out⟩
    case measure => simp [intOf];omega
   ·have hd : decide (el xs (k + 1) ≤ el xs k) = true := by simp;omega
    have HF : Hid (risB xs = false) := by
     rw [Hid,risB,decide_eq_false_iff_not]
     intro h
     exact hx (h k (by rw [HL.out];omega))
    clear hx
    go_wp2_with fail
    go_quiet (fail)
    go_wp2
    go_ret
    exact ⟨ret_bool (by rw [HF.out]),n + nq,by simp⟩
  ·have hd : decide ((k : Int) + 1 < (len : Int)) = false := by simp;omega
   have HF : Hid (risB xs = true) := by
    rw [Hid,risB,decide_eq_true_eq]
    intro j hj
    exact HR.out j (by rw [HL.out] at hj;omega)
   clear hc
   go_wp2
   go_ret
   exact ⟨ret_bool (by rw [HF.out]),_,rfl⟩
end Go.Proofs.Ytlnmdfgcpfbleaa
namespace Go.Proofs.Ytlnmdfgcpfbleaa
set_option linter.unusedVariables false
set_option linter.unusedSimpArgs false
open Go.RowKit Go.Sort
structure Rw where
 ver : Int
 txt : List (List UInt8)
 got : List Int
 sus : List Int
 wed : Bool
 rdy : Bool
 by_ : Int
 trm : List Int
def susB (l : List Int) (n : Int) : Bool := l.all (fun x => inB x 0 (n - 1)) && risB l
def smB (v : List Int) (n : Int) : Bool := okB v && (decide ((v.length : Int) = n) && v.all (fun x => decide (x ≤ 12)))
def okRw (r : Rw) (n : Int) : Bool :=
 inB n 1 5 && (inB r.ver 0 1000000 && (decide (r.txt.length ≤ 12) && (smB r.got n && (susB r.sus n && (r.txt.all (fun t => decide (t.length ≤ 20)) &&
  (if r.rdy then r.wed && (inB r.by_ 0 (n - 1) && smB r.trm n) else decide (r.by_ = 0) && decide (r.trm = [])))))))
def folB (a b : Rw) (n : Int) : Bool :=
 okRw a n && (okRw b n && (decide (a.ver ≤ b.ver) && (decide (a.txt.length ≤ b.txt.length) && (underB a.got b.got && (a.sus.all (fun x => decide (x ∈ b.sus)) && (decide (b.txt.take a.txt.length = a.txt) &&
  ((!a.wed || b.wed) && (!a.rdy || (b.rdy && decide (a.by_ ≤ b.by_))))))))))
end Go.Proofs.Ytlnmdfgcpfbleaa
namespace Go.Proofs.Ytlnmdfgcpfbleaa
set_option linter.unusedVariables false
set_option linter.unusedSimpArgs false
set_option linter.unusedVariables false
open Go.RowKit Go.Sort
def sv (l : List UInt8) : ByteArray := ⟨l.toArray⟩
theorem sv_size (l : List UInt8) : (sv l).size = l.length := by simp [sv,ByteArray.size]
theorem sv_list (l : List UInt8) : (sv l).toList = l := by
 have h := ByteArray.toList_mk l
 exact h
theorem sv_of (s : ByteArray) : s = sv s.data.toList := by cases s;simp [sv]
end Go.Proofs.Ytlnmdfgcpfbleaa
namespace Go.Proofs.Ytlnmdfgcpfbleaa
set_option linter.unusedSimpArgs false
set_option linter.unusedVariables false
open Go.RowKit Go.Sort
attribute [local irreducible] sv
end Go.Proofs.Ytlnmdfgcpfbleaa
namespace Go.Proofs.Ytlnmdfgcpfbleaa
set_option linter.unusedVariables false
set_option linter.unusedSimpArgs false
abbrev Lg := Int × List (List UInt8)
def okLg (l : Lg) : Prop := (1 ≤ l.1 ∧ l.1 ≤ 1000000) ∧ l.2.length ≤ 40 ∧ ∀ i,i < l.2.length → (l.2.getD i []).length ≤ 100
instance (l : Lg) : Decidable (okLg l) := by unfold okLg;infer_instance
def addB (l : Lg) (v : Int) (s : List UInt8) : Prop := v = l.1 + (l.2.length : Int) ∧ l.2.length ≠ 40 ∧ s.length ≤ 100
instance (l : Lg) (v : Int) (s : List UInt8) : Decidable (addB l v s) := by unfold addB;infer_instance
def txtB (l : Lg) (v : Int) : Prop := l.1 ≤ v ∧ v ≤ l.1 + (l.2.length : Int) - 1
instance (l : Lg) (v : Int) : Decidable (txtB l v) := by unfold txtB;infer_instance
set_option linter.unusedSimpArgs false
set_option linter.unusedVariables false
open Go.RowKit Go.Sort
theorem Try.info9 : (Try.prog.info? 9).map (fun i => (i.zero,i.size,i.bytes)) = some (some (.string ⟨#[]⟩),1,16) := by kernel_rfl
theorem info_parts9 {T s b : Nat} {z : Value} (h : (Try.prog.info? T).map (fun i => (i.zero,i.size,i.bytes)) = some (some z,s,b)) : ∃ i,Try.prog.info? T = some i ∧ i.zero = some z ∧ i.size = s ∧ i.bytes = b := by
 cases hq : Try.prog.info? T with
 | none => rw [hq] at h;simp at h
 | some i => rw [hq] at h;simp at h;exact ⟨i,rfl,h.1,h.2.1,h.2.2⟩
def svs (zs : List (List UInt8)) : List Value := zs.map (fun s => Value.string (sv s))
def OS (w : World) (g off n cap : Nat) (zs : List (List UInt8)) : Prop := OSl w 1 g off n cap (svs zs)
theorem OS.length {w : World} {g off n cap : Nat} {zs : List (List UInt8)} (h : OS w g off n cap zs) : zs.length = n := by have := h.len;simpa [svs] using this
theorem OS.cellAt {w : World} {g off n cap : Nat} {zs : List (List UInt8)} (h : OS w g off n cap zs) {i : Nat} (hi : i < n) : w.cell? ⟨g,off + i,none⟩ = some (.string (sv (zs.getD i []))) := by
 have hl := h.length
 rw [h.cell i (by omega)]
 simp [svs,show i < zs.length by omega]
attribute [local irreducible] sv
end Go.Proofs.Ytlnmdfgcpfbleaa
namespace Go.Proofs.Ytlnmdfgcpfbleaa
set_option linter.unusedSimpArgs false
set_option linter.unusedVariables false
open Go.RowKit Go.Sort
theorem OS.set {w : World} {g off n cap : Nat} {zs : List (List UInt8)} (h : OS w g off n cap zs) {i : Nat} (hi : i < n) (y : List UInt8) : OS (w.setCell ⟨g,off + i,none⟩ (.string (sv y))) g off n cap (zs.set i y) := by
 have hl := h.length
 have hc := h.cellAt hi
 refine ⟨by simp [svs,hl],h.le,h.max,by simp [World.setCell];exact h.blk,fun j hj => ?_,fun j hj => ?_,fun j hj => by rw [World.frozen?_setCell];exact h.free j hj⟩
 ·by_cases e : i = j
  ·subst e
   rw [World.cell?_setCell_same _ _ _ hc]
   simp [svs,show i < zs.length by omega]
  ·rw [World.cell?_setCell_other _ _ _ _ (by simp [e]),h.cell j hj]
   simp [svs,e]
 ·by_cases e : i = j
  ·subst e
   rw [World.cell?_setCell_same _ _ _ hc];rfl
  ·rw [World.cell?_setCell_other _ _ _ _ (by simp [e])];exact h.some j hj
attribute [local irreducible] sv
end Go.Proofs.Ytlnmdfgcpfbleaa
namespace Go.Proofs.Ytlnmdfgcpfbleaa
set_option linter.unusedVariables false
set_option linter.unusedSimpArgs false
open Go.RowKit Go.Sort
def Bx (w : World) (B : Nat) (T : TypeId) (cs : Array Value) : Prop := w.heap[B]? = some (.cells cs T (0,0))
theorem Bx.lt {w : World} {B : Nat} {T : TypeId} {cs : Array Value} (h : Bx w B T cs) : B < w.heap.size := (Array.getElem?_eq_some_iff.1 h).1
theorem Bx.cell {w : World} {B : Nat} {T : TypeId} {cs : Array Value} (h : Bx w B T cs) (i : Nat) : w.cell? ⟨B,i,none⟩ = cs[i]? := by simp [World.cell?,show w.heap[B]? = _ from h]
theorem Bx.at {w : World} {B : Nat} {T : TypeId} {cs : Array Value} (h : Bx w B T cs) (i : Nat) {v : Value} (hi : cs[i]? = some v) : w.cell? ⟨B,i,none⟩ = some v := (h.cell i).trans hi
theorem Bx.f {w : World} {B : Nat} {T : TypeId} {cs : Array Value} (h : Bx w B T cs) (i : Nat) : w.frozen? ⟨B,i,none⟩ = false := by simp [World.frozen?,show w.heap[B]? = _ from h]
theorem Bx.new (w : World) (T : TypeId) (cs : Array Value) : Bx (w.alloc (.cells cs T)) w.heap.size T cs := heap_alloc_new w _
theorem Bx.grown {w w' : World} {r : Option Nat} {B : Nat} {T : TypeId} {cs : Array Value} (h : Bx w B T cs) (hg : w.grownBy w' r) (hne : some B ≠ r) : Bx w' B T cs := (hg.block B h.lt hne).trans h
theorem Bx.alloc {w : World} {B : Nat} {T : TypeId} {cs : Array Value} (h : Bx w B T cs) (o : Obj) : Bx (w.alloc o) B T cs := h.grown (World.grownBy_alloc w o none) (by simp)
theorem Bx.below {w w' : World} {B : Nat} {T : TypeId} {cs : Array Value} (h : Bx w B T cs) (hb : Below w.heap.size w w') : Bx w' B T cs := (hb.block B h.lt).trans h
end Go.Proofs.Ytlnmdfgcpfbleaa
namespace Go.Proofs.Ytlnmdfgcpfbleaa
set_option linter.unusedVariables false
set_option linter.unusedSimpArgs false
open Go.RowKit Go.Sort
def PlainA (a : Option Addr) : Prop := ∀ x,a = some x → ∃ b off,x = ⟨b,off,none⟩
theorem plainS (b off : Nat) : PlainA (some ⟨b,off,none⟩) := fun x h => by cases h;exact ⟨b,off,rfl⟩
def OSo (w : World) (s : Nat) (a : Option Addr) (n c : Nat) (xs : List Value) (G : Option Nat) : Prop :=
 (n = 0 ∧ c = 0 ∧ xs = [] ∧ G = none ∧ PlainA a) ∨ ∃ g off,a = some ⟨g,off,none⟩ ∧ OSl w s g off n c xs ∧ G = some g
theorem OSo.plain {w : World} {s : Nat} {a : Option Addr} {n c : Nat} {xs : List Value} {G : Option Nat} (h : OSo w s a n c xs G) : PlainA a := by
 rcases h with ⟨_,_,_,_,h⟩ | ⟨g,off,rfl,_,_⟩
 ·exact h
 ·exact plainS _ _
theorem OSo.of {w : World} {s g off n c : Nat} {xs : List Value} (h : OSl w s g off n c xs) : OSo w s (some ⟨g,off,none⟩) n c xs (some g) := .inr ⟨g,off,rfl,h,rfl⟩
theorem OSo.len {w : World} {s : Nat} {a : Option Addr} {n c : Nat} {xs : List Value} {G : Option Nat} (h : OSo w s a n c xs G) : xs.length = n * s := by
 rcases h with ⟨rfl,_,rfl,_⟩ | ⟨g,off,_,h,_⟩
 ·simp
 ·exact h.len
theorem OSo.le {w : World} {s : Nat} {a : Option Addr} {n c : Nat} {xs : List Value} {G : Option Nat} (h : OSo w s a n c xs G) : n ≤ c ∧ c ≤ maxLen := by
 rcases h with ⟨rfl,rfl,rfl,_⟩ | ⟨g,off,_,h,_⟩
 ·exact ⟨Nat.le_refl _,Nat.zero_le _⟩
 ·exact ⟨h.le,h.max⟩
theorem OSo.lt {w : World} {s : Nat} {a : Option Addr} {n c : Nat} {xs : List Value} {G : Option Nat} (h : OSo w s a n c xs G) {g : Nat} (hg : G = some g) : g < w.heap.size := by
 rcases h with ⟨_,_,_,h,_⟩ | ⟨g',off,_,h,h'⟩
 ·rw [h] at hg;cases hg
 ·rw [h'] at hg;cases hg;exact h.blk
theorem OSo.frame {w w' : World} {s : Nat} {a : Option Addr} {n c : Nat} {xs : List Value} {G : Option Nat} (h : OSo w s a n c xs G) (hs : w.heap.size ≤ w'.heap.size) (e : ∀ g,G = some g → w'.heap[g]? = w.heap[g]?) : OSo w' s a n c xs G := by
 rcases h with h | ⟨g,off,ha,h,h'⟩
 ·exact .inl h
 ·exact .inr ⟨g,off,ha,h.of_block (e g h') (Nat.lt_of_lt_of_le h.blk hs),h'⟩
theorem OSo.cell {w : World} {s : Nat} {a : Option Addr} {n c : Nat} {xs : List Value} {G : Option Nat} (h : OSo w s a n c xs G) (hn : 0 < n) : ∃ g off,a = some ⟨g,off,none⟩ ∧ G = some g ∧ (∀ j,j < n * s → w.cell? ⟨g,off + j,none⟩ = xs[j]?) ∧ ∀ j,j < n * s → w.frozen? ⟨g,off + j,none⟩ = false := by
 rcases h with ⟨h0,_⟩ | ⟨g,off,ha,h,h'⟩
 ·omega
 ·exact ⟨g,off,ha,h',h.cell,fun j hj => h.free j (Nat.lt_of_lt_of_le hj (Nat.mul_le_mul_right _ h.le))⟩
section
variable {P : Program} (w : World)
end
end Go.Proofs.Ytlnmdfgcpfbleaa
namespace Go.Proofs.Ytlnmdfgcpfbleaa
set_option linter.unusedVariables false
set_option linter.unusedSimpArgs false
open Go.RowKit Go.Sort
inductive Cel where
 | v (x : Value)
 | sl (s n : Nat) (cs : List Cel)
abbrev Fp := Nat → Prop
mutual
def Cel.ow (w : World) : Cel → Value → Fp → Prop
 | .v x,u,fp => u = x ∧ ∀ b,¬ fp b
 | .sl s n cs,u,fp => ∃ a c us G f,u = .slice a n c ∧ OSo w s a n c us G ∧ owL w cs us f ∧ (∀ b,G = some b → ¬ f b) ∧ ∀ b,fp b ↔ G = some b ∨ f b
def owL (w : World) : List Cel → List Value → Fp → Prop
 | [],us,fp => us = [] ∧ ∀ b,¬ fp b
 | c :: cs,us,fp => ∃ u us' f1 f2,us = u :: us' ∧ Cel.ow w c u f1 ∧ owL w cs us' f2 ∧ (∀ b,f1 b → ¬ f2 b) ∧ ∀ b,fp b ↔ f1 b ∨ f2 b
end
mutual
def Cel.vw (w : World) : Cel → Value → Prop
 | .v x,u => u = x
 | .sl s n cs,u => ∃ a c us,u = .slice a n c ∧ n ≤ c ∧ c ≤ maxLen ∧ us.length = n * s ∧ (n = 0 ∨
   ∃ b off,a = some ⟨b,off,none⟩ ∧ ∀ j,j < n * s → w.cell? ⟨b,off + j,none⟩ = us[j]?) ∧ vwL w cs us
def vwL (w : World) : List Cel → List Value → Prop
 | [],us => us = []
 | c :: cs,us => ∃ u us',us = u :: us' ∧ Cel.vw w c u ∧ vwL w cs us'
end
mutual
theorem Cel.ow_frame {w w' : World} (hs : w.heap.size ≤ w'.heap.size) : ∀ {c : Cel} {u : Value} {fp : Fp},Cel.ow w c u fp → (∀ b,fp b → w'.heap[b]? = w.heap[b]?) → Cel.ow w' c u fp
 | .v x,u,fp,h,_ => h
 | .sl s n cs,u,fp,h,e => by
  obtain ⟨a,c,us,G,f,rfl,ho,hl,hn,hf⟩ := h
  exact ⟨a,c,us,G,f,rfl,ho.frame hs (fun g hg => e g ((hf g).2 (.inl hg))),owL_frame hs hl (fun b hb => e b ((hf b).2 (.inr hb))),hn,hf⟩
theorem owL_frame {w w' : World} (hs : w.heap.size ≤ w'.heap.size) : ∀ {cs : List Cel} {us : List Value} {fp : Fp},owL w cs us fp → (∀ b,fp b → w'.heap[b]? = w.heap[b]?) → owL w' cs us fp
 | [],us,fp,h,_ => h
 | c :: cs,us,fp,h,e => by
  obtain ⟨u,us',f1,f2,rfl,h1,h2,hd,hf⟩ := h
  exact ⟨u,us',f1,f2,rfl,Cel.ow_frame hs h1 (fun b hb => e b ((hf b).2 (.inl hb))),owL_frame hs h2 (fun b hb => e b ((hf b).2 (.inr hb))),hd,hf⟩
end
mutual
theorem Cel.ow_lt {w : World} : ∀ {c : Cel} {u : Value} {fp : Fp},Cel.ow w c u fp → ∀ b,fp b → b < w.heap.size
 | .v x,u,fp,h => fun b hb => absurd hb (h.2 b)
 | .sl s n cs,u,fp,h => fun b hb => by
  obtain ⟨a,c,us,G,f,rfl,ho,hl,hn,hf⟩ := h
  rcases (hf b).1 hb with hb | hb
  ·exact ho.lt hb
  ·exact owL_lt hl b hb
theorem owL_lt {w : World} : ∀ {cs : List Cel} {us : List Value} {fp : Fp},owL w cs us fp → ∀ b,fp b → b < w.heap.size
 | [],us,fp,h => fun b hb => absurd hb (h.2 b)
 | c :: cs,us,fp,h => fun b hb => by
  obtain ⟨u,us',f1,f2,rfl,h1,h2,hd,hf⟩ := h
  rcases (hf b).1 hb with hb | hb
  ·exact Cel.ow_lt h1 b hb
  ·exact owL_lt h2 b hb
end
mutual
theorem Cel.ow_vw {w : World} : ∀ {c : Cel} {u : Value} {fp : Fp},Cel.ow w c u fp → Cel.vw w c u
 | .v x,u,fp,h => h.1
 | .sl s n cs,u,fp,h => by
  obtain ⟨a,c,us,G,f,rfl,ho,hl,hn,hf⟩ := h
  refine ⟨a,c,us,rfl,ho.le.1,ho.le.2,ho.len, ?_,owL_vw hl⟩
  rcases Nat.eq_zero_or_pos n with h0 | h0
  ·exact .inl h0
  ·obtain ⟨g,off,ha,_,hc,_⟩ := ho.cell h0
   exact .inr ⟨g,off,ha,hc⟩
theorem owL_vw {w : World} : ∀ {cs : List Cel} {us : List Value} {fp : Fp},owL w cs us fp → vwL w cs us
 | [],us,fp,h => h.1
 | c :: cs,us,fp,h => by
  obtain ⟨u,us',f1,f2,rfl,h1,h2,hd,hf⟩ := h
  exact ⟨u,us',rfl,Cel.ow_vw h1,owL_vw h2⟩
end
theorem owL_below {w w' : World} {cs : List Cel} {us : List Value} {fp : Fp} (h : owL w cs us fp) (hb : Below w.heap.size w w') : owL w' cs us fp := owL_frame hb.size h (fun b hf => hb.block b (owL_lt h b hf))
theorem Cel.ow_congr {w : World} : ∀ {c : Cel} {u : Value} {f g : Fp},Cel.ow w c u f → (∀ b,g b ↔ f b) → Cel.ow w c u g
 | .v x,u,f,g,h,e => ⟨h.1,fun b hb => h.2 b ((e b).1 hb)⟩
 | .sl s n cs,u,f,g,h,e => by
  obtain ⟨a,c,us,G,f',rfl,ho,hl,hn,hf⟩ := h
  exact ⟨a,c,us,G,f',rfl,ho,hl,hn,fun b => (e b).trans (hf b)⟩
theorem owL_congr {w : World} : ∀ {cs : List Cel} {us : List Value} {f g : Fp},owL w cs us f → (∀ b,g b ↔ f b) → owL w cs us g
 | [],us,f,g,h,e => ⟨h.1,fun b hb => h.2 b ((e b).1 hb)⟩
 | c :: cs,us,f,g,h,e => by
  obtain ⟨u,us',f1,f2,rfl,h1,h2,hd,hf⟩ := h
  exact ⟨u,us',f1,f2,rfl,h1,h2,hd,fun b => (e b).trans (hf b)⟩
theorem owL_append {w : World} : ∀ {cs ds : List Cel} {us vs : List Value} {f g : Fp},owL w cs us f → owL w ds vs g → (∀ b,f b → ¬ g b) → owL w (cs ++ ds) (us ++ vs) (fun b => f b ∨ g b)
 | [],ds,us,vs,f,g,h,k,hd => by
  rw [h.1]
  exact owL_congr k (fun b => ⟨fun hb => hb.elim (fun hb => absurd hb (h.2 b)) id,.inr⟩)
 | c :: cs,ds,us,vs,f,g,h,k,hd => by
  obtain ⟨u,us',f1,f2,rfl,h1,h2,hd1,hf⟩ := h
  refine ⟨u,us' ++ vs,f1,_,rfl,h1,owL_append h2 k (fun b hb => hd b ((hf b).2 (.inr hb))),fun b hb hb2 => ?_,fun b => ?_⟩
  ·rcases hb2 with hb2 | hb2
   ·exact hd1 b hb hb2
   ·exact hd b ((hf b).2 (.inl hb)) hb2
  ·show f b ∨ g b ↔ _
   rw [hf b]
   constructor
   ·rintro ((h | h) | h)
    ·exact .inl h
    ·exact .inr (.inl h)
    ·exact .inr (.inr h)
   ·rintro (h | h | h)
    ·exact .inl (.inl h)
    ·exact .inl (.inr h)
    ·exact .inr h
end Go.Proofs.Ytlnmdfgcpfbleaa
namespace Go.Proofs.Ytlnmdfgcpfbleaa
set_option linter.unusedVariables false
set_option linter.unusedSimpArgs false
open Go.RowKit Go.Sort
structure Wrt (f : Fp) (w w' : World) : Prop where
 os : w'.os = w.os
 tape : w'.tape = w.tape
 output : w'.output = w.output
 size : w.heap.size ≤ w'.heap.size
 block : ∀ b,b < w.heap.size → ¬ f b → w'.heap[b]? = w.heap[b]?
theorem Wrt.mono {f g : Fp} {w w' : World} (h : Wrt f w w') (hs : ∀ b,b < w.heap.size → f b → g b) : Wrt g w w' := ⟨h.os,h.tape,h.output,h.size,fun b hb hn => h.block b hb (fun hf => hn (hs b hb hf))⟩
theorem Wrt.trans {f g : Fp} {w w1 w2 : World} (h : Wrt f w w1) (k : Wrt g w1 w2) (hs : ∀ b,b < w.heap.size → g b → f b) : Wrt f w w2 :=
 ⟨k.os.trans h.os,k.tape.trans h.tape,k.output.trans h.output,Nat.le_trans h.size k.size,fun b hb hn => (k.block b (Nat.lt_of_lt_of_le hb h.size) (fun hg => hn (hs b hb hg))).trans (h.block b hb hn)⟩
theorem Wrt.below {f : Fp} {w w' v : World} {B : Nat} (h : Wrt f w w') (hv : Below B v w) (hB : B ≤ w.heap.size) (hf : ∀ b,f b → B ≤ b) : Below B v w' :=
 ⟨h.os.trans hv.os,h.tape.trans hv.tape,h.output.trans hv.output,Nat.le_trans hv.size h.size,fun b hb => (h.block b (by omega) (fun k => by have := hf b k;omega)).trans (hv.block b hb)⟩
theorem Wrt.of_grown {w w' : World} {G : Option Nat} (h : w.grownBy w' G) : Wrt (fun b => G = some b) w w' := ⟨h.os,h.tape,h.output,h.size,fun b hb hn => h.block b hb (fun e => hn e.symm)⟩
theorem Wrt.set (w : World) (g o : Nat) (v : Value) : Wrt (fun b => b = g) w (w.setCell ⟨g,o,none⟩ v) := (Wrt.of_grown (grown_set (grown_refl w (some g)) o v)).mono (fun b _ h => by simpa using h.symm)
theorem owL_wrt {w w' : World} {cs : List Cel} {us : List Value} {fp f : Fp} (h : owL w cs us fp) (hw : Wrt f w w') (hd : ∀ b,fp b → ¬ f b) : owL w' cs us fp := owL_frame hw.size h (fun b hb => hw.block b (owL_lt h b hb) (hd b hb))
def pl (vs : List Value) : List Cel := vs.map Cel.v
theorem owL_pl {w : World} : ∀ {vs us : List Value} {fp : Fp},owL w (pl vs) us fp ↔ us = vs ∧ ∀ b,¬ fp b
 | [],us,fp => Iff.rfl
 | v :: vs,us,fp => by
  constructor
  ·rintro ⟨u,us',f1,f2,rfl,⟨rfl,h1⟩,h2,hd,hf⟩
   have h3 := owL_pl.1 h2
   exact ⟨by rw [h3.1],fun b hb => ((hf b).1 hb).elim (h1 b) (h3.2 b)⟩
  ·rintro ⟨rfl,h⟩
   exact ⟨v,vs,fp,fp,rfl,⟨rfl,h⟩,owL_pl.2 ⟨rfl,h⟩,fun b hb => absurd hb (h b),fun b => ⟨.inl,fun h => h.elim id id⟩⟩
theorem vwL_pl {w : World} : ∀ {vs us : List Value},vwL w (pl vs) us ↔ us = vs
 | [],us => Iff.rfl
 | v :: vs,us => by
  constructor
  ·rintro ⟨u,us',rfl,rfl,h2⟩
   rw [vwL_pl.1 h2]
  ·rintro rfl
   exact ⟨v,vs,rfl,rfl,vwL_pl.2 rfl⟩
def icl (xs : List Int) : Cel := .sl 1 xs.length (pl (xs.map (Value.int .i64)))
theorem ow_icl {w : World} {xs : List Int} {u : Value} {fp : Fp} : Cel.ow w (icl xs) u fp ↔ ∃ a c G,u = .slice a xs.length c ∧ OSo w 1 a xs.length c (xs.map (Value.int .i64)) G ∧ ∀ b,fp b ↔ G = some b := by
 constructor
 ·rintro ⟨a,c,us,G,f,rfl,ho,hl,hn,hf⟩
  obtain ⟨rfl,h0⟩ := owL_pl.1 hl
  exact ⟨a,c,G,rfl,ho,fun b => (hf b).trans ⟨fun h => h.elim id (fun h => absurd h (h0 b)),.inl⟩⟩
 ·rintro ⟨a,c,G,rfl,ho,hf⟩
  exact ⟨a,c,_,G,fun _ => False,rfl,ho,owL_pl.2 ⟨rfl,fun _ h => h⟩,fun _ _ h => h,fun b => (hf b).trans ⟨.inl,fun h => h.elim id False.elim⟩⟩
theorem vw_icl {w : World} {xs : List Int} {u : Value} (h : Cel.vw w (icl xs) u) (hf : Fits xs) : ∃ a c,u = .slice a xs.length c ∧ Vec w a xs.length xs ∧ xs.length ≤ c ∧ c ≤ maxLen := by
 obtain ⟨a,c,us,rfl,h1,h2,h3,h,hl⟩ := h
 have e := vwL_pl.1 hl
 subst e
 refine ⟨a,c,rfl,⟨rfl,hf, ?_⟩,h1,h2⟩
 rcases h with h | ⟨b,off,ha,hc⟩
 ·exact .inl h
 ·refine .inr ⟨b,off,ha,fun i hi => ?_⟩
  rw [hc i (by omega)]
  simp [el,hi]
def NewO (w w' : World) (c : Cel) (v : Value) : Prop := ∃ fp,Cel.ow w' c v fp ∧ (∀ b,fp b → w.heap.size ≤ b) ∧ Below w.heap.size w w'
def NewL (w w' : World) (cs : List Cel) (vs : List Value) : Prop := ∃ fp,owL w' cs vs fp ∧ (∀ b,fp b → w.heap.size ≤ b) ∧ Below w.heap.size w w'
theorem getElem?_flatten_replicate {α : Type} (l : List α) : ∀ (n i : Nat),i < n * l.length → (List.replicate n l).flatten[i]? = l[i % l.length]?
 | 0,i,h => by simp at h
 | n + 1,i,h => by
  rw [List.replicate_succ,List.flatten_cons]
  by_cases hi : i < l.length
  ·rw [List.getElem?_append_left hi,Nat.mod_eq_of_lt hi]
  ·have hl : l.length ≤ i := by omega
   rw [List.getElem?_append_right hl,getElem?_flatten_replicate l n (i - l.length) (by rw [Nat.add_mul] at h;omega),Nat.mod_eq_sub_mod hl]
theorem osl_made (w : World) (zs : Array Value) (s n : Nat) (e : TypeId) (hz : zs.size = s) (hs : 0 < s) (hn : n ≤ maxLen) : OSl (w.alloc (.cells (madeCells zs (n * s)) e)) s w.heap.size 0 n n (List.replicate n zs.toList).flatten := by
 have hb : (w.alloc (.cells (madeCells zs (n * s)) e)).heap[w.heap.size]? = some (.cells (madeCells zs (n * s)) e (0,0)) := heap_alloc_new w _
 have hc : ∀ i,i < n * s → (madeCells zs (n * s))[i]? = zs.toList[i % s]? := fun i hi => by
  have hm : i % s < zs.size := by rw [hz];exact Nat.mod_lt _ hs
  have hm' : i % s < zs.toList.length := by simpa using hm
  rw [List.getElem?_eq_getElem hm']
  simp [madeCells,hi,hz]
  exact getElem!_pos zs (i % s) hm
 refine ⟨by simp [hz],Nat.le_refl _,hn,by simp,fun i hi => ?_,fun i hi => ?_,fun i hi => ?_⟩
 ·rw [getElem?_flatten_replicate _ _ _ (by simp [hz];omega)]
  simp only [World.cell?,hb,Nat.zero_add]
  rw [hc i hi]
  simp [hz]
 ·simp only [World.cell?,hb,Nat.zero_add]
  have : i < (madeCells zs (n * s)).size := by rw [size_madeCells];exact hi
  simp [this]
 ·unfold World.frozen?
  rw [hb]
  simp
end Go.Proofs.Ytlnmdfgcpfbleaa
namespace Go.Proofs.Ytlnmdfgcpfbleaa
set_option linter.unusedVariables false
set_option linter.unusedSimpArgs false
open Go.RowKit Go.Sort
theorem Bx.setC {w : World} {B : Nat} {T : TypeId} {cs : Array Value} (h : Bx w B T cs) (i : Nat) (v : Value) : Bx (w.setCell ⟨B,i,none⟩ v) B T (cs.setIfInBounds i v) := by
 have hh : w.heap[B]? = some (.cells cs T (0,0)) := h
 unfold Bx
 simp only [World.setCell]
 rw [Array.getElem?_modify,hh]
 simp
theorem Bx.wrt {w w' : World} {B : Nat} {T : TypeId} {cs : Array Value} {f : Fp} (h : Bx w B T cs) (hw : Wrt f w w') (hn : ¬ f B) : Bx w' B T cs := (hw.block B h.lt hn).trans h
theorem Bx.far {w : World} {B g i : Nat} {T : TypeId} {cs : Array Value} (h : Bx w B T cs) (hne : B ≠ g) (v : Value) : Bx (w.setCell ⟨g,i,none⟩ v) B T cs := h.wrt (Wrt.set w g i v) hne
end Go.Proofs.Ytlnmdfgcpfbleaa
namespace Go.Proofs.Ytlnmdfgcpfbleaa
set_option linter.unusedVariables false
set_option linter.unusedSimpArgs false
open Go.RowKit Go.Sort
def It (w : World) (cs : List Cel) (vs : List Value) (lo hi : Nat) : Prop := ∃ f,owL w cs vs f ∧ ∀ b,f b → lo ≤ b ∧ b < hi
theorem It.below {w w' : World} {cs : List Cel} {vs : List Value} {lo hi : Nat} (h : It w cs vs lo hi) (hb : Below w.heap.size w w') : It w' cs vs lo hi := by
 obtain ⟨f,h1,h2⟩ := h
 exact ⟨f,owL_below h1 hb,h2⟩
theorem It.of_new {w w' : World} {cs : List Cel} {vs : List Value} (h : NewL w w' cs vs) : It w' cs vs w.heap.size w'.heap.size := by
 obtain ⟨f,h1,h2,_⟩ := h
 exact ⟨f,h1,fun b hb => ⟨h2 b hb,owL_lt h1 b hb⟩⟩
theorem owL_one {w : World} {c : Cel} {v : Value} {f : Fp} : owL w [c] [v] f ↔ Cel.ow w c v f := by
 constructor
 ·rintro ⟨u,us,f1,f2,e,h1,h2,hd,hf⟩
  cases e
  exact Cel.ow_congr h1 (fun b => (hf b).trans ⟨fun h => h.elim id (fun h => absurd h (h2.2 b)),.inl⟩)
 ·intro h
  exact ⟨v,[],f,fun _ => False,rfl,h,⟨rfl,fun _ h => h⟩,fun _ _ h => h,fun b => by simp⟩
end Go.Proofs.Ytlnmdfgcpfbleaa
namespace Go.Proofs.Ytlnmdfgcpfbleaa
set_option linter.unusedVariables false
set_option linter.unusedSimpArgs false
open Go.RowKit Go.Sort
def TxS (w : World) (a : Option Addr) (T : List (List UInt8)) : Prop := T.length = 0 ∨ ∃ b off,a = some ⟨b,off,none⟩ ∧ ∀ i,i < T.length → w.cell? ⟨b,off + i,none⟩ = some (.string (sv (T.getD i [])))
theorem TxS.below {w w' : World} {a : Option Addr} {T : List (List UInt8)} (h : TxS w a T) (hb : Below w.heap.size w w') : TxS w' a T := by
 rcases h with h | ⟨b,off,ha,hc⟩
 ·exact .inl h
 ·exact .inr ⟨b,off,ha,fun i hi => (hb.cell (World.block_lt_of_cell? _ _ (hc i hi))).trans (hc i hi)⟩
def scl (T : List (List UInt8)) : Cel := .sl 1 T.length (pl (svs T))
theorem ow_scl {w : World} {T : List (List UInt8)} {u : Value} {fp : Fp} : Cel.ow w (scl T) u fp ↔ ∃ a c G,u = .slice a T.length c ∧ OSo w 1 a T.length c (svs T) G ∧ ∀ b,fp b ↔ G = some b := by
 constructor
 ·rintro ⟨a,c,us,G,f,rfl,ho,hl,hn,hf⟩
  obtain ⟨rfl,h0⟩ := owL_pl.1 hl
  exact ⟨a,c,G,rfl,ho,fun b => (hf b).trans ⟨fun h => h.elim id (fun h => absurd h (h0 b)),.inl⟩⟩
 ·rintro ⟨a,c,G,rfl,ho,hf⟩
  exact ⟨a,c,_,G,fun _ => False,rfl,ho,owL_pl.2 ⟨rfl,fun _ h => h⟩,fun _ _ h => h,fun b => (hf b).trans ⟨.inl,fun h => h.elim id False.elim⟩⟩
theorem OSo.os {w : World} {a : Option Addr} {c : Nat} {T : List (List UInt8)} {G : Option Nat} (h : OSo w 1 a T.length c (svs T) G) : (T = [] ∧ c = 0 ∧ G = none) ∨ ∃ g off,a = some ⟨g,off,none⟩ ∧ OS w g off T.length c T ∧ G = some g := by
 rcases h with ⟨h1,h2,h3,h4,_⟩ | h
 ·exact .inl ⟨List.eq_nil_of_length_eq_zero h1,h2,h4⟩
 ·exact .inr h
theorem TxS.take {w : World} {a : Option Addr} {T : List (List UInt8)} (h : TxS w a T) (k : Nat) : TxS w a (T.take k) := by
 rcases h with h | ⟨b,off,rfl,hc⟩
 ·exact .inl (by rw [List.length_take];omega)
 ·refine .inr ⟨_,_,rfl,fun i hi => ?_⟩
  rw [List.length_take] at hi
  rw [hc i (by omega)]
  simp [List.getD_eq_getElem?_getD,List.getElem?_take_of_lt (show i < k by omega)]
def totS (T : List (List UInt8)) : Nat → Nat
 | 0 => 0
 | k + 1 => totS T k + (T.getD k []).length
def LongT (T : List (List UInt8)) : Prop := ∀ i,i < T.length → (T.getD i []).length ≤ 9223372036854775807
attribute [local irreducible] sv
set_option maxRecDepth 100000 in
set_option maxHeartbeats 800000 in
theorem szS_any (a : Option Addr) (cap : Nat) (T : List (List UInt8)) (left : Int) (w : World) (hv : TxS w a T) (hlg : LongT T) (hm : T.length ≤ maxLen) (hl : 0 ≤ left ∧ left ≤ 1048576) :
  Calls Try.prog 85 #[.slice a T.length cap,.int .i64 left] w fun e w' => ∃ q : Int,e = .returned (.int .i64 q) ∧ (q = -1 ∨ 0 ≤ q ∧ q + (T.length : Int) + (totS T T.length : Int) = left) ∧ w' = w := by
 have HV : Hid (TxS w a T) := hv
 unfold maxLen at hm
 have h1 : wrap64 (left - (T.length : Int)) = left - (T.length : Int) := by unfold wrap64;omega
 clear hv
 by_cases h : (T.length : Int) ≤ left
 ·have h2 : decide (left - (T.length : Int) < 0) = false := by simp;omega
  go_enter Try.func85,Try.ntmps85
  go_wp2_with fail
  clear h2 h1
  go_loop [1,5] (fun q i => ∃ (k : Nat) (p : Int),k ≤ T.length ∧ i = .int .i64 k ∧ q = .int .i64 p ∧ 0 ≤ p ∧ p + (T.length : Int) + (totS T k : Int) = left) (fun _ i => T.length - (intOf i).toNat)
  case atStart => exact ⟨0,left - (T.length : Int),Nat.zero_le _,rfl,rfl,by omega,by simp [totS]⟩
  case round =>
   obtain ⟨k,p,hk,rfl,rfl,hp0,hp⟩ := hrel
   by_cases hlt : k < T.length
   ·rcases HV.out with h0 | ⟨b,off,rfl,hc⟩
    ·omega
    have hck := hc k hlt
    have hll := hlg k hlt
    clear hc
    have k1 : (k : Int) < (T.length : Int) := by omega
    have k0 : (0 : Int) ≤ (k : Int) := by omega
    have HT : Hid (totS T (k + 1) = totS T k + (T.getD k []).length) := rfl
    generalize T.getD k [] = t at *
    have hsz := sv_size t
    have hwr : wrap64 (p - (t.length : Int)) = p - (t.length : Int) := by unfold wrap64;omega
    by_cases hq : (t.length : Int) ≤ p
    ·have h3 : decide (p - (t.length : Int) < 0) = false := by simp;omega
     go_wp2
     go_round
     case rel => exact ⟨k + 1,p - (t.length : Int),by omega,by go_num,rfl,by omega,by rw [HT.out];omega⟩
     case measure => simp [intOf];omega
    ·have h3 : decide (p - (t.length : Int) < 0) = true := by simp;omega
     go_wp2
     go_ret
     exact ⟨-1,rfl,.inl rfl,rfl⟩
   ·have hkl : k = T.length := by omega
    have HP : Hid (p + (T.length : Int) + (totS T T.length : Int) = left) := by rw [hkl] at hp;exact hp
    subst hkl
    go_wp2
    go_ret
    exact ⟨p,rfl,.inr ⟨hp0,HP.out⟩,rfl⟩
 ·have h2 : decide (left - (T.length : Int) < 0) = true := by simp;omega
  go_enter Try.func85,Try.ntmps85
  go_wp2
  go_ret
  exact ⟨-1,rfl,.inl rfl,rfl⟩
def cpS (T : List (List UInt8)) (k : Nat) : List (List UInt8) := T.take k ++ List.replicate (T.length - k) []
theorem cpS_zero (T : List (List UInt8)) : cpS T 0 = List.replicate T.length [] := by simp [cpS]
theorem cpS_all (T : List (List UInt8)) : cpS T T.length = T := by simp [cpS]
theorem cpS_step {T : List (List UInt8)} {k : Nat} (h : k < T.length) : (cpS T k).set k (T.getD k []) = cpS T (k + 1) := by
 unfold cpS
 have e1 : (T.take k).length = k := by rw [List.length_take];omega
 obtain ⟨d,hd⟩ : ∃ d,T.length - k = d + 1 := ⟨T.length - k - 1,by omega⟩
 have e2 : T.length - (k + 1) = d := by omega
 have e3 : T.getD k [] = T[k] := by simp [h]
 rw [hd,e2,List.replicate_succ,List.set_append_right _ _ (by omega),e1,Nat.sub_self,List.set_cons_zero,List.take_succ_eq_append_getElem h,e3,List.append_assoc]
 rfl
theorem made_os (w : World) (n : Nat) (hn : n ≤ maxLen) : OS (w.alloc (.cells (madeCells #[.string ⟨#[]⟩] n) 9)) w.heap.size 0 n n (List.replicate n []) := by
 have h := osl_made w #[.string ⟨#[]⟩] 1 n 9 rfl (by omega) hn
 have e : (List.replicate n (#[Value.string ⟨#[]⟩] : Array Value).toList).flatten = svs (List.replicate n []) := by
  unfold svs
  rw [List.map_replicate]
  have : sv [] = ⟨#[]⟩ := by unfold sv;rfl
  rw [this]
  simp
 rw [e,Nat.mul_one] at h
 exact h
set_option maxRecDepth 100000 in
set_option maxHeartbeats 1600000 in
theorem toS_any (a : Option Addr) (cap : Nat) (T : List (List UInt8)) (w : World) (hv : TxS w a T) (hm : T.length ≤ 1048576) :
  Calls Try.prog 87 #[.slice a T.length cap] w fun e w' => ∃ a' c',e = .returned (.slice a' T.length c') ∧ NewO w w' (scl T) (.slice a' T.length c') := by
 have HV : Hid (TxS w a T) := hv
 have hmk := run_make_row' (P := Try.prog) 33 9 (.string ⟨#[]⟩) 16 Try.underlying33 Try.info9 rfl .i64 .i64 T.length (by omega) (by omega)
 have HS0 : Hid (OS (w.alloc (.cells (madeCells #[.string ⟨#[]⟩] T.length) 9)) w.heap.size 0 T.length T.length (cpS T 0)) := by
  rw [Hid,cpS_zero]
  exact made_os w T.length (by unfold maxLen;omega)
 have HB0 : Hid (Below w.heap.size w (w.alloc (.cells (madeCells #[.string ⟨#[]⟩] T.length) 9))) := (Below.refl _ _).alloc (Nat.le_refl _) _
 clear hv
 go_enter Try.func87,Try.ntmps87
 go_wp2_with fail
 clear hmk
 go_loopw [4] (fun i wr => ∃ k : Nat,k ≤ T.length ∧ i = .int .i64 k ∧ OS wr w.heap.size 0 T.length T.length (cpS T k) ∧ Below w.heap.size w wr) (fun i _ => T.length - (intOf i).toNat)
 case atStart => exact ⟨0,Nat.zero_le _,rfl,HS0.out,HB0.out⟩
 case round =>
  obtain ⟨k,hk,rfl,ho,hb⟩ := hrel
  by_cases hlt : k < T.length
  ·rcases HV.out with h0 | ⟨b,off,rfl,hc⟩
   ·omega
   have hck := (hb.cell (World.block_lt_of_cell? _ _ (hc k hlt))).trans (hc k hlt)
   have hcg := ho.cellAt hlt
   have hfr := ho.free k (by omega)
   rw [Nat.zero_add] at hcg hfr
   have k1 : (k : Int) < (T.length : Int) := by omega
   have k0 : (0 : Int) ≤ (k : Int) := by omega
   have HO : Hid (OS (wr.setCell ⟨w.heap.size,k,none⟩ (.string (sv (T.getD k [])))) w.heap.size 0 T.length T.length (cpS T (k + 1))) := by
    have := ho.set hlt (T.getD k [])
    rw [Nat.zero_add,cpS_step hlt] at this
    exact this
   have HB : Hid (Below w.heap.size w (wr.setCell ⟨w.heap.size,k,none⟩ (.string (sv (T.getD k []))))) := hb.setCell (p := ⟨w.heap.size,k,none⟩) (Nat.le_refl _) _
   clear ho hb hc
   generalize T.getD k [] = t at *
   go_wp2
   go_roundw
   case rel => exact ⟨k + 1,by omega,by go_num,HO.out,HB.out⟩
   case measure => simp [intOf];omega
  ·have hkl : k = T.length := by omega
   subst hkl
   rw [cpS_all] at ho
   have HE : Hid (NewO w wr (scl T) (.slice (some ⟨w.heap.size,0,none⟩) T.length T.length)) := ⟨fun b => b = w.heap.size,ow_scl.2 ⟨_,_,some w.heap.size,rfl,OSo.of ho,fun b => by simp [eq_comm]⟩,fun b hb => by omega,hb⟩
   clear ho hb
   go_wp2
   go_ret
   exact ⟨_,_,rfl,HE.out⟩
set_option maxRecDepth 100000 in
set_option maxHeartbeats 1600000 in
theorem eqSV_any (a a' : Option Addr) (cap cap' : Nat) (T : List (List UInt8)) (w : World) (hz : TxS w a T) (hy : TxS w a' T) (hm : T.length ≤ maxLen) :
  Calls Try.prog 89 #[.slice a T.length cap,.slice a' T.length cap'] w fun e w' => e = .returned (.bool true) ∧ Grew w w' := by
 unfold maxLen at hm
 have HZ : Hid (TxS w a T) := hz
 have HY : Hid (TxS w a' T) := hy
 have hne : ((T.length : Int) != (T.length : Int)) = false := by simp
 clear hz hy
 go_enter Try.func89,Try.ntmps89
 go_wp2
 clear hne
 go_loopw [5] (fun i wr => ∃ j : Nat,j ≤ T.length ∧ i = .int .i64 j ∧ ∃ q,wr = w.drewN q) (fun i _ => T.length - (intOf i).toNat)
 case atStart => exact ⟨0,Nat.zero_le _,rfl,0,rfl⟩
 case round =>
  obtain ⟨j,hj,rfl,q,rfl⟩ := hrel
  by_cases hlt : j < T.length
  ·rcases HZ.out with h0 | ⟨b,off,rfl,hc⟩
   ·omega
   rcases HY.out with h0 | ⟨b',off',rfl,hc'⟩
   ·omega
   have c1 := hc j hlt
   have c2 := hc' j hlt
   have j1 : (j : Int) < (T.length : Int) := by omega
   have j0 : (0 : Int) ≤ (j : Int) := by omega
   generalize T.getD j [] = A at *
   have hb : ((sv A).toList == (sv A).toList) = true := by simp
   clear hc hc'
   go_wp2_with fail
   go_quiet (fail)
   go_wp2
   go_roundw
   case rel => exact ⟨j + 1,by omega,by go_num,_,rfl⟩
   case measure => simp [intOf];omega
  ·have hjl : j = T.length := by omega
   subst hjl
   go_wp2
   go_ret
   exact ⟨rfl,(Grew.refl _).drewN _⟩
end Go.Proofs.Ytlnmdfgcpfbleaa
namespace Go.Proofs.Ytlnmdfgcpfbleaa
set_option linter.unusedVariables false
set_option linter.unusedSimpArgs false
open Go.RowKit Go.Sort
attribute [local irreducible] sv
end Go.Proofs.Ytlnmdfgcpfbleaa
namespace Go.Proofs.Ytlnmdfgcpfbleaa
set_option linter.unusedVariables false
set_option linter.unusedSimpArgs false
open Go.RowKit Go.Sort
def TxP (w : World) (a : Option Addr) (c : Nat) (T : List (List UInt8)) : Prop := (T = [] ∧ c = 0 ∧ PlainA a) ∨ ∃ b off,a = some ⟨b,off,none⟩ ∧ T.length ≤ c ∧ c ≤ maxLen ∧ ∀ i,i < T.length → w.cell? ⟨b,off + i,none⟩ = some (.string (sv (T.getD i [])))
theorem TxP.txs {w : World} {a : Option Addr} {c : Nat} {T : List (List UInt8)} (h : TxP w a c T) : TxS w a T := by
 rcases h with ⟨h,_⟩ | ⟨b,off,h1,h2,h3,h4⟩
 ·exact .inl (by rw [h];rfl)
 ·exact .inr ⟨b,off,h1,h4⟩
theorem TxP.below {w w' : World} {a : Option Addr} {c : Nat} {T : List (List UInt8)} (h : TxP w a c T) (hb : Below w.heap.size w w') : TxP w' a c T := by
 rcases h with h | ⟨b,off,ha,h1,h2,hc⟩
 ·exact .inl h
 ·exact .inr ⟨b,off,ha,h1,h2,fun i hi => (hb.cell (World.block_lt_of_cell? _ _ (hc i hi))).trans (hc i hi)⟩
theorem OSo.txp {w : World} {a : Option Addr} {c : Nat} {T : List (List UInt8)} {G : Option Nat} (h : OSo w 1 a T.length c (svs T) G) : TxP w a c T := by
 have hp := h.plain
 rcases h.os with ⟨h1,h2,_⟩ | ⟨g,off,h1,h2,_⟩
 ·exact .inl ⟨h1,h2,hp⟩
 ·exact .inr ⟨g,off,h1,h2.le,h2.max,fun i hi => h2.cellAt hi⟩
theorem ow_txp {w : World} {a : Option Addr} {c : Nat} {T : List (List UInt8)} {fp : Fp} (h : Cel.ow w (scl T) (.slice a T.length c) fp) : TxP w a c T := by
 obtain ⟨a',c',G,e,ho,_⟩ := ow_scl.1 h
 cases e
 exact ho.txp
attribute [local irreducible] sv
end Go.Proofs.Ytlnmdfgcpfbleaa