/-
  Texts in one: Base Vok Copy LawVok Und Ends JoinSpec JoinImpl LawJoin Draw DrawVec DrawTwo Own Oim Bxs Oso Cel Cei Csp Its.
-/
import Derived.Test.YtlnmdfgcpfbleaaRows
import Derived.WalkKit
import Derived.ProofKit
import Derived.Below
import Derived.Lib.MinMax
import Derived.Deep.QuietTactic
import Derived.BigQuiet
import Derived.WalkLawsBesides
import Derived.Deep.OwnRows
import Derived.OpenShut
import Derived.Deep.AppendLies
import Derived.Deep.RegionHeld3
import Derived.Deep.DrawnRows
import Derived.ArgAppend
import Derived.Laws.IdiomCopy
import Derived.Shelf.SlSortCmp.QuietGrown
import Derived.Lib.AppendZeros
namespace Go.Proofs.Ytlnmdfgcpfbleaa
open Go.RowKit
def el (xs : List Int) (i : Nat) : Int := xs.getD i 0
def Vec (w : World) (a : Option Addr) (len : Nat) (xs : List Int) : Prop :=
 xs.length = len ∧ (∀ x ∈ xs,-9223372036854775808 ≤ x ∧ x ≤ 9223372036854775807) ∧
  (len = 0 ∨ ∃ b off,a = some ⟨b,off,none⟩ ∧ ∀ i,i < len → w.cell? ⟨b,off + i,none⟩ = some (.int .i64 (el xs i)))
theorem ret_bool {a b : Bool} (h : a = b) : Ending.returned (.bool a) = .returned (.bool b) := by rw [h]
theorem ret_int {k : IntKind} {a b : Int} (h : a = b) : Ending.returned (.int k a) = .returned (.int k b) := by rw [h]
def inB (x lo hi : Int) : Bool := decide (lo ≤ x) && decide (x ≤ hi)
def okB (xs : List Int) : Bool := decide (1 ≤ xs.length) && decide (xs.length ≤ 8) && xs.all (fun x => inB x 0 1000000)
def loL (x : Int) (xs : List Int) : Int := xs.foldl min x
def hiL (x : Int) (xs : List Int) : Int := xs.foldl max x
theorem el_eq {xs : List Int} {i : Nat} (h : i < xs.length) : el xs i = xs[i] := by simp [el,h]
theorem el_mem {xs : List Int} {i : Nat} (h : i < xs.length) : el xs i ∈ xs := by
 rw [el_eq h];exact List.getElem_mem h
theorem take_snoc {xs : List Int} {k : Nat} (h : k < xs.length) : xs.take (k + 1) = xs.take k ++ [el xs k] := by
 rw [List.take_succ_eq_append_getElem h,el_eq h]
theorem loL_snoc (x : Int) (xs : List Int) (y : Int) : loL x (xs ++ [y]) = min (loL x xs) y := by simp [loL]
theorem hiL_snoc (x : Int) (xs : List Int) (y : Int) : hiL x (xs ++ [y]) = max (hiL x xs) y := by simp [hiL]
theorem okB_false_len {xs : List Int} (h : xs.length < 1 ∨ 8 < xs.length) : okB xs = false := by
 unfold okB;rcases h with h | h <;> simp <;> omega
theorem okB_false_at {xs : List Int} {k : Nat} (hk : k < xs.length) (h : inB (el xs k) 0 1000000 = false) : okB xs = false := by
 unfold okB
 have : (xs.all fun x => inB x 0 1000000) = false := by
  rw [List.all_eq_false];exact ⟨_,el_mem hk,by simp [h]⟩
 simp [this]
theorem okB_true_of {xs : List Int} (h1 : 1 ≤ xs.length) (h8 : xs.length ≤ 8) (h : ∀ j,j < xs.length → inB (el xs j) 0 1000000 = true) : okB xs = true := by
 unfold okB
 have : (xs.all fun x => inB x 0 1000000) = true := by
  rw [List.all_eq_true];intro x hx
  obtain ⟨i,hi,rfl⟩ := List.getElem_of_mem hx
  have := h i hi
  rwa [el_eq hi] at this
 simp [this,h1,h8]
set_option maxHeartbeats 400000 in
theorem l1In_any (x lo hi : Int) (w : World) :
  Calls Try.prog 73 #[.int .i64 x,.int .i64 lo,.int .i64 hi] w fun e w' => e = .returned (.bool (inB x lo hi)) ∧ w' = w := by
 unfold inB
 by_cases h : lo ≤ x
 ·go_enter Try.func73,Try.ntmps73
  go_wp2
  go_ret
  exact ⟨ret_bool (by simp [h]),rfl⟩
 ·have h' : decide (lo ≤ x) = false := by simpa using h
  go_enter Try.func73,Try.ntmps73
  go_wp2
  go_ret
  exact ⟨ret_bool (by simp),rfl⟩
set_option maxHeartbeats 400000 in
theorem specOk_any (a : Option Addr) (len cap : Nat) (xs : List Int) (w : World) (hv : Vec w a len xs) (hm : len ≤ maxLen) :
  Calls Try.prog 25 #[.slice a len cap] w fun e w' => e = .returned (.bool (okB xs)) ∧ w' = w := by
 unfold maxLen at hm
 obtain ⟨hlen,hb,hcs⟩ := hv
 by_cases h1 : (len : Int) < 1
 ·go_enter Try.func25,Try.ntmps25
  go_wp2
  go_ret
  exact ⟨ret_bool (by rw [okB_false_len (by omega)]),rfl⟩
 ·have h1' : decide ((len : Int) < 1) = false := by simpa using h1
  by_cases h8 : (8 : Int) < (len : Int)
  ·go_enter Try.func25,Try.ntmps25
   go_wp2
   go_ret
   exact ⟨ret_bool (by rw [okB_false_len (by omega)]),rfl⟩
  ·have h8' : decide ((8 : Int) < (len : Int)) = false := by simpa using h8
   rcases hcs with h0 | ⟨b,off,rfl,hc⟩
   ·omega
   ·have HL : Hid (xs.length = len) := hlen
    clear hlen
    go_enter Try.func25,Try.ntmps25
    go_wp2
    go_loop [3] (fun i => ∃ k : Nat,k ≤ len ∧ i = .int .i64 k ∧ ∀ j,j < k → inB (el xs j) 0 1000000 = true) (fun i => len - (intOf i).toNat)
    case atStart => exact ⟨0,Nat.zero_le _,rfl,fun j hj => by omega⟩
    case round =>
     obtain ⟨k,hk,rfl,hall⟩ := hrel
     have HA : Hid (∀ j,j < k → inB (el xs j) 0 1000000 = true) := hall
     clear hall
     by_cases hlt : k < len
     ·have hck := hc k hlt
      cases hin : inB (el xs k) 0 1000000
      ·go_wp2_with (go_at_call 73;refine (l1In_any _ _ _ _).mono ?_;rintro e w' ⟨rfl,rfl⟩)
       go_ret
       exact ⟨ret_bool (by rw [okB_false_at (by rw [HL.out];exact hlt) hin]),rfl⟩
      ·go_wp2_with (go_at_call 73;refine (l1In_any _ _ _ _).mono ?_;rintro e w' ⟨rfl,rfl⟩)
       go_round
       case rel => exact ⟨k + 1,by omega,by go_num,fun j hj => by
        rcases Nat.lt_succ_iff_lt_or_eq.1 hj with h | h
        ·exact HA.out j h
        ·rw [h];exact hin⟩
       case measure => simp [intOf];omega
     ·go_wp2
      go_ret
      exact ⟨ret_bool (by rw [okB_true_of (by rw [HL.out];omega) (by rw [HL.out];omega) (fun j hj => HA.out j (by rw [HL.out] at hj;omega))]),rfl⟩
set_option maxHeartbeats 400000 in
theorem least_any (x : Int) (a : Option Addr) (len cap : Nat) (xs : List Int) (w : World) (hv : Vec w a len xs) (hm : len ≤ maxLen) :
    Calls Try.prog 61 #[.int .i64 x, .slice a len cap] w fun e w' => e = .returned (.int .i64 (loL x xs)) ∧ w' = w := by
  unfold maxLen at hm
  obtain ⟨hlen, hb, hcs⟩ := hv
  have HL : Hid (xs.length = len) := hlen
  clear hlen hb
  rcases hcs with h0 | ⟨b, off, rfl, hc⟩
  all_goals
    go_enter Try.func61, Try.ntmps61
    go_wp2
    go_loop [5, 7, 11] (fun m n i => ∃ k : Nat, k ≤ len ∧ i = .int .i64 k ∧ m = .int .i64 (loL x (xs.take k))) (fun _ _ i => len - (intOf i).toNat)
    case atStart => exact ⟨0, Nat.zero_le _, rfl, rfl⟩
    case round =>
      obtain ⟨k, hk, rfl, rfl⟩ := hrel
      by_cases hlt : k < len
      · first
          | omega
          | (have hck := hc k hlt
             have HS : Hid (loL x (xs.take (k + 1)) = min (loL x (xs.take k)) (el xs k)) := by
               rw [Hid, take_snoc (by rw [HL.out]; exact hlt), loL_snoc]
             go_wp2
             go_round
             case rel => exact ⟨k + 1, by omega, by go_num, by rw [HS.out]⟩
             case measure => simp [intOf]; omega)
      · go_wp2
        go_ret
        exact ⟨ret_int (by rw [List.take_of_length_le (by rw [HL.out]; omega)]), rfl⟩
set_option maxHeartbeats 400000 in
theorem greatest_any (x : Int) (a : Option Addr) (len cap : Nat) (xs : List Int) (w : World) (hv : Vec w a len xs) (hm : len ≤ maxLen) :
    Calls Try.prog 60 #[.int .i64 x, .slice a len cap] w fun e w' => e = .returned (.int .i64 (hiL x xs)) ∧ w' = w := by
  unfold maxLen at hm
  obtain ⟨hlen, hb, hcs⟩ := hv
  have HL : Hid (xs.length = len) := hlen
  clear hlen hb
  rcases hcs with h0 | ⟨b, off, rfl, hc⟩
  all_goals
    go_enter Try.func60, Try.ntmps60
    go_wp2
    go_loop [5, 7, 11] (fun m n i => ∃ k : Nat, k ≤ len ∧ i = .int .i64 k ∧ m = .int .i64 (hiL x (xs.take k))) (fun _ _ i => len - (intOf i).toNat)
    case atStart => exact ⟨0, Nat.zero_le _, rfl, rfl⟩
    case round =>
      obtain ⟨k, hk, rfl, rfl⟩ := hrel
      by_cases hlt : k < len
      · first
          | omega
          | (have hck := hc k hlt
             have HS : Hid (hiL x (xs.take (k + 1)) = max (hiL x (xs.take k)) (el xs k)) := by
               rw [Hid, take_snoc (by rw [HL.out]; exact hlt), hiL_snoc]
             go_wp2
             go_round
             case rel => exact ⟨k + 1, by omega, by go_num, by rw [HS.out]⟩
             case measure => simp [intOf]; omega)
      · go_wp2
        go_ret
        exact ⟨ret_int (by rw [List.take_of_length_le (by rw [HL.out]; omega)]), rfl⟩
theorem Vec.tail {w : World} {b off len cap : Nat} {xs : List Int} (hlen : xs.length = len) (hb : ∀ x ∈ xs,-9223372036854775808 ≤ x ∧ x ≤ 9223372036854775807)
  (hc : ∀ i,i < len → w.cell? ⟨b,off + i,none⟩ = some (.int .i64 (el xs i))) (hcap : len ≤ cap) (n : Nat) :
  Vec (w.drewN n) (if cap = 1 then some ⟨b,off,none⟩ else some ⟨b,off + 1,none⟩) (len - 1) xs.tail := by
 refine ⟨by simp [hlen],fun x hx => hb x (List.mem_of_mem_tail hx), ?_⟩
 by_cases h : cap = 1
 ·left;omega
 ·right
  refine ⟨b,off + 1,by simp [h],fun i hi => ?_⟩
  have := hc (i + 1) (by omega)
  rw [show off + (i + 1) = off + 1 + i from by omega] at this
  simp only [World.cell?_drewN]
  rw [this];simp [el]
set_option maxHeartbeats 400000 in
theorem vleast_any (b off len cap : Nat) (xs : List Int) (w : World) (hlen : xs.length = len) (hb : ∀ x ∈ xs,-9223372036854775808 ≤ x ∧ x ≤ 9223372036854775807)
  (hc : ∀ i,i < len → w.cell? ⟨b,off + i,none⟩ = some (.int .i64 (el xs i))) (h1 : 1 ≤ len) (hcap : len ≤ cap) (hm : cap ≤ maxLen) :
  Calls Try.prog 71 #[.slice (some ⟨b,off,none⟩) len cap] w fun e w' => e = .returned (.int .i64 (loL (el xs 0) xs.tail)) ∧ ∃ n,w' = w.drewN n := by
 have hT := Vec.tail hlen hb hc hcap
 unfold maxLen at hm
 have hc0 := hc 0 (by omega)
 simp only [Nat.add_zero] at hc0
 have hp : (0 : Int) < (len : Int) := by omega
 have hp1 : (1 : Int) ≤ (len : Int) := by omega
 have hp2 : (len : Int) ≤ (cap : Int) := by omega
 go_enter Try.func71,Try.ntmps71
 go_wp2_with fail
 go_quiet ((go_at_call 61;exact (least_any _ _ _ _ _ _ (hT _) (by unfold maxLen;omega)).mono (fun e w' h => ⟨h.1,_,h.2⟩)))
 go_wp2
 all_goals
  go_ret
  exact ⟨rfl,_,rfl⟩
set_option maxHeartbeats 400000 in
theorem vgreatest_any (b off len cap : Nat) (xs : List Int) (w : World) (hlen : xs.length = len) (hb : ∀ x ∈ xs,-9223372036854775808 ≤ x ∧ x ≤ 9223372036854775807)
  (hc : ∀ i,i < len → w.cell? ⟨b,off + i,none⟩ = some (.int .i64 (el xs i))) (h1 : 1 ≤ len) (hcap : len ≤ cap) (hm : cap ≤ maxLen) :
  Calls Try.prog 111 #[.slice (some ⟨b,off,none⟩) len cap] w fun e w' => e = .returned (.int .i64 (hiL (el xs 0) xs.tail)) ∧ ∃ n,w' = w.drewN n := by
 have hT := Vec.tail hlen hb hc hcap
 unfold maxLen at hm
 have hc0 := hc 0 (by omega)
 simp only [Nat.add_zero] at hc0
 have hp : (0 : Int) < (len : Int) := by omega
 have hp1 : (1 : Int) ≤ (len : Int) := by omega
 have hp2 : (len : Int) ≤ (cap : Int) := by omega
 go_enter Try.func111,Try.ntmps111
 go_wp2_with fail
 go_quiet ((go_at_call 60;exact (greatest_any _ _ _ _ _ _ (hT _) (by unfold maxLen;omega)).mono (fun e w' h => ⟨h.1,_,h.2⟩)))
 go_wp2
 all_goals
  go_ret
  exact ⟨rfl,_,rfl⟩
theorem okB_ends {xs : List Int} (h1 : 1 ≤ xs.length) (h8 : xs.length ≤ 8) :
  okB xs = (decide (0 ≤ loL (el xs 0) xs.tail) && decide (hiL (el xs 0) xs.tail ≤ 1000000)) := by
 have lo : ∀ (l : List Int) (x m : Int),m ≤ loL x l ↔ m ≤ x ∧ ∀ y ∈ l,m ≤ y := by
  intro l;induction l with
  | nil => intro x m;simp [loL]
  | cons y l ih => intro x m;have := ih (min x y) m;unfold loL at this ⊢;simp only [List.foldl_cons,List.mem_cons,forall_eq_or_imp];rw [this,Int.le_min];exact ⟨fun h => ⟨h.1.1,h.1.2,h.2⟩,fun h => ⟨⟨h.1,h.2.1⟩,h.2.2⟩⟩
 have hi : ∀ (l : List Int) (x m : Int),hiL x l ≤ m ↔ x ≤ m ∧ ∀ y ∈ l,y ≤ m := by
  intro l;induction l with
  | nil => intro x m;simp [hiL]
  | cons y l ih => intro x m;have := ih (max x y) m;unfold hiL at this ⊢;simp only [List.foldl_cons,List.mem_cons,forall_eq_or_imp];rw [this,Int.max_le];exact ⟨fun h => ⟨h.1.1,h.1.2,h.2⟩,fun h => ⟨⟨h.1,h.2.1⟩,h.2.2⟩⟩
 match xs,h1,h8 with
 | x :: l,h1,h8 =>
  rw [Bool.eq_iff_iff]
  simp only [Bool.and_eq_true,decide_eq_true_eq,List.tail_cons,lo,hi]
  unfold okB inB
  simp only [Bool.and_eq_true,decide_eq_true_eq,List.all_cons,List.all_eq_true]
  have e : el (x :: l) 0 = x := rfl
  rw [e]
  constructor
  ·rintro ⟨_,⟨a,b⟩,c⟩;exact ⟨⟨a,fun y hy => (c y hy).1⟩,b,fun y hy => (c y hy).2⟩
  ·rintro ⟨⟨a,c⟩,b,d⟩;exact ⟨⟨h1,h8⟩,⟨a,b⟩,fun y hy => ⟨c y hy,d y hy⟩⟩
set_option maxHeartbeats 400000 in
theorem vok_any (a : Option Addr) (len cap : Nat) (xs : List Int) (w : World) (hv : Vec w a len xs) (hcap : len ≤ cap) (hm : cap ≤ maxLen) :
  Calls Try.prog 72 #[.slice a len cap] w fun e w' => e = .returned (.bool (okB xs)) ∧ ∃ n,w' = w.drewN n := by
 obtain ⟨hlen,hb,hcs⟩ := hv
 by_cases h1 : (len : Int) < 1
 ·go_enter Try.func72,Try.ntmps72
  go_wp2
  go_ret
  exact ⟨ret_bool (by rw [okB_false_len (by omega)]),0,rfl⟩
 ·have h1' : decide ((len : Int) < 1) = false := by simpa using h1
  by_cases h8 : (8 : Int) < (len : Int)
  ·go_enter Try.func72,Try.ntmps72
   go_wp2
   go_ret
   exact ⟨ret_bool (by rw [okB_false_len (by omega)]),0,rfl⟩
  ·have h8' : decide ((8 : Int) < (len : Int)) = false := by simpa using h8
   rcases hcs with h0 | ⟨b,off,rfl,hc⟩
   ·omega
   ·have HE : Hid (okB xs = (decide (0 ≤ loL (el xs 0) xs.tail) && decide (hiL (el xs 0) xs.tail ≤ 1000000))) := okB_ends (by omega) (by omega)
    have HL : Hid (xs.length = len) := hlen
    clear hlen
    by_cases hl : 0 ≤ loL (el xs 0) xs.tail
    ·go_enter Try.func72,Try.ntmps72
     go_wp2_with (first | (go_at_call 71;refine (vleast_any b off len cap xs _ HL.out hb (by exact hc) (by omega) hcap hm).mono ?_;rintro e w' ⟨rfl,n1,rfl⟩) | (go_at_call 111;refine (vgreatest_any b off len cap xs _ HL.out hb (by exact hc) (by omega) hcap hm).mono ?_;rintro e w' ⟨rfl,n2,rfl⟩))
     go_ret
     exact ⟨ret_bool (by rw [HE.out];simp [hl]),_,rfl⟩
    ·have hl' : decide (0 ≤ loL (el xs 0) xs.tail) = false := by simpa using hl
     go_enter Try.func72,Try.ntmps72
     go_wp2_with (first | (go_at_call 71;refine (vleast_any b off len cap xs _ HL.out hb (by exact hc) (by omega) hcap hm).mono ?_;rintro e w' ⟨rfl,n1,rfl⟩) | (go_at_call 111;refine (vgreatest_any b off len cap xs _ HL.out hb (by exact hc) (by omega) hcap hm).mono ?_;rintro e w' ⟨rfl,n2,rfl⟩))
     go_ret
     exact ⟨ret_bool (by rw [HE.out];simp [hl']),_,rfl⟩
theorem Try.info2 : (Try.prog.info? 2).map (fun i => (i.zero,i.size,i.bytes)) = some (some (.int .i64 0),1,8) := by kernel_rfl
def RowOf (w : World) (b : Nat) (xs : List Int) : Prop := w.rowIs b 2 xs.length (fun i => .int .i64 (el xs i))
def Fits (xs : List Int) : Prop := ∀ x ∈ xs,-9223372036854775808 ≤ x ∧ x ≤ 9223372036854775807
theorem Vec.below {w w' : World} {a : Option Addr} {len B : Nat} {xs : List Int} (h : Vec w a len xs) (hb : Below B w w') (hB : w.heap.size ≤ B) : Vec w' a len xs := by
 obtain ⟨h1,h2,h3⟩ := h
 refine ⟨h1,h2, ?_⟩
 rcases h3 with h0 | ⟨b,off,rfl,hc⟩
 ·exact .inl h0
 ·refine .inr ⟨b,off,rfl,fun i hi => ?_⟩
  have hlt := World.block_lt_of_cell? _ _ (hc i hi)
  rw [hb.cell (p := ⟨b,off + i,none⟩) (Nat.lt_of_lt_of_le hlt hB)]
  exact hc i hi
def part (xs : List Int) (k : Nat) : Nat → Value := fun j => if j < k then .int .i64 (el xs j) else .int .i64 0
theorem part_start {w : World} {xs : List Int} : (w.alloc (.cells (madeCells #[.int .i64 0] xs.length) 2)).rowIs w.heap.size 2 xs.length (part xs 0) :=
 (World.rowIs_made w (.int .i64 0) xs.length 2).congr (fun j _ => by simp [part])
theorem part_step {w : World} {b : Nat} {xs : List Int} {k : Nat} (h : w.rowIs b 2 xs.length (part xs k)) : (w.setCell ⟨b,k,none⟩ (.int .i64 (el xs k))).rowIs b 2 xs.length (part xs (k + 1)) := by
 refine (h.set k _).congr (fun j _ => ?_)
 simp only [part]
 by_cases e : j = k
 ·subst e;simp
 ·rw [if_neg e]
  by_cases hlt : j < k
  ·rw [if_pos hlt,if_pos (by omega)]
  ·rw [if_neg hlt,if_neg (by omega)]
theorem part_done {w : World} {b : Nat} {xs : List Int} {k : Nat} (h : w.rowIs b 2 xs.length (part xs k)) (hk : xs.length ≤ k) : RowOf w b xs :=
 World.rowIs.congr h (fun j hj => by simp only [part];rw [if_pos (by omega)])
set_option maxHeartbeats 400000 in
theorem copy_any (a : Option Addr) (len cap : Nat) (xs : List Int) (w : World) (hv : Vec w a len xs) (hm : len ≤ 17592186044416) :
    Calls Try.prog 88 #[.slice a len cap] w fun e w' => ∃ b, e = .returned (.slice (some ⟨b, 0, none⟩) len len) ∧ w.heap.size ≤ b ∧ RowOf w' b xs ∧ Below w.heap.size w w' := by
  obtain ⟨hlen, hb, hcs⟩ := hv
  subst hlen
  have hmk := run_make_row' (P := Try.prog) 24 2 (.int .i64 0) 8 Try.underlying24 Try.info2 rfl .i64 .i64 xs.length (by omega) (by omega)
  have hcs' : Hid (xs.length = 0) ∨ ∃ b off, a = some ⟨b, off, none⟩ ∧ ∀ i, i < xs.length → w.cell? ⟨b, off + i, none⟩ = some (.int .i64 (el xs i)) := hcs
  clear hcs
  rcases hcs' with h0 | ⟨b, off, rfl, hc⟩
  all_goals
    go_enter Try.func88, Try.ntmps88
    go_wp2
    go_loopw [4] (fun i wr => ∃ k : Nat, k ≤ xs.length ∧ i = .int .i64 k ∧ wr.rowIs w.heap.size 2 xs.length (part xs k) ∧ Below w.heap.size w wr ∧ wr.heap.size = w.heap.size + 1) (fun i _ => xs.length - (intOf i).toNat)
    case atStart => exact ⟨0, Nat.zero_le _, rfl, part_start, (Below.refl _ _).alloc (Nat.le_refl _) _, by simp⟩
    case round =>
      obtain ⟨k, hk, rfl, hrow, hbel, hsz⟩ := hrel
      have HR : Hid (wr.rowIs w.heap.size 2 xs.length (part xs k)) := hrow
      have HB : Hid (Below w.heap.size w wr) := hbel
      have HZ : Hid (wr.heap.size = w.heap.size + 1) := hsz
      clear hrow hbel hsz
      by_cases hlt : k < xs.length
      · first
          | (have := h0.out; omega)
          | (have hck : wr.cell? ⟨b, off + k, none⟩ = some (.int .i64 (el xs k)) := (HB.out.cell (p := ⟨b, off + k, none⟩) (World.block_lt_of_cell? _ _ (hc k hlt))).trans (hc k hlt)
             have hfr := HR.out.frozen k
             have hcl := HR.out.cell hlt
             go_wp2
             go_roundw
             case rel => exact ⟨k + 1, by omega, by go_num, part_step HR.out, HB.out.setCell (Nat.le_refl _) _, by simp [HZ.out]⟩
             case measure => simp [intOf]; omega)
      · go_wp2
        go_ret
        exact ⟨_, rfl, Nat.le_refl _, part_done HR.out (by omega), HB.out⟩
def IsRow (k : IntKind) (w : World) (a : Option Addr) (len cap : Nat) (zs : List Int) : Prop :=
 (a = none ∧ len = 0 ∧ cap = 0 ∧ zs = []) ∨
 ∃ x,a = some x ∧ len ≤ cap ∧ cap ≤ maxLen ∧ zs.length = cap ∧ (∀ i,i < zs.length → w.cell? (x.add i) = some (.int k (zs.getD i 0))) ∧ ∀ n ∈ zs,(Lit.int k n).wf = true
theorem eq_of_all {xs ys : List Int} (h : xs.length = ys.length) (he : ∀ j,j < xs.length → el xs j = el ys j) : xs = ys := by
 refine List.ext_getElem h (fun i h1 h2 => ?_)
 have := he i h1
 rwa [el_eq h1,el_eq h2] at this
set_option maxHeartbeats 400000 in
theorem eq_any (a a' : Option Addr) (len cap len' cap' : Nat) (xs ys : List Int) (w : World) (hv : Vec w a len xs) (hv' : Vec w a' len' ys) (hm : len ≤ maxLen) :
  Calls Try.prog 52 #[.slice a len cap,.slice a' len' cap'] w fun e w' => e = .returned (.bool (decide (xs = ys))) ∧ ∃ n,w' = w.drewN n := by
 unfold maxLen at hm
 obtain ⟨hlen,_,hcs⟩ := hv
 obtain ⟨hlen',_,hcs'⟩ := hv'
 by_cases hl : len = len'
 ·have hne : ((len : Int) != (len' : Int)) = false := by simp [hl]
  have HL : Hid (xs.length = len) := hlen
  have HL' : Hid (ys.length = len') := hlen'
  have HLL : Hid (len = len') := hl
  have hle : (len : Int) ≤ (len' : Int) := by omega
  clear hlen hlen' hl
  by_cases h0 : len = 0
  ·have hx : xs = [] := List.length_eq_zero_iff.1 (by rw [HL.out];exact h0)
   have hy : ys = [] := List.length_eq_zero_iff.1 (by rw [HL'.out,← HLL.out];exact h0)
   subst h0 hx hy
   clear hcs hcs'
   go_enter Try.func52,Try.ntmps52
   go_wp2
   go_loop [5] (fun i => i = .int .i64 0) (fun _ => 0)
   case atStart => rfl
   case round =>
    subst hrel
    go_wp2
    go_ret
    exact ⟨rfl,0,rfl⟩
  ·rcases hcs with h | ⟨b,off,rfl,hc⟩
   ·omega
   rcases hcs' with h | ⟨b',off',rfl,hc'⟩
   ·have := HLL.out;omega
   go_enter Try.func52,Try.ntmps52
   go_wp2
   go_loopw [5] (fun i wr => ∃ k : Nat,k ≤ len ∧ i = .int .i64 k ∧ (∀ j,j < k → el xs j = el ys j) ∧ ∃ n,wr = w.drewN n) (fun i _ => len - (intOf i).toNat)
   case atStart => exact ⟨0,Nat.zero_le _,rfl,fun j hj => by omega,0,rfl⟩
   case round =>
    obtain ⟨k,hk,rfl,hall,n,rfl⟩ := hrel
    have HA : Hid (∀ j,j < k → el xs j = el ys j) := hall
    clear hall
    by_cases hlt : k < len
    ·have hck := hc k hlt
     have hck' := hc' k (by have := HLL.out;omega)
     have hi1 : (k : Int) < (len : Int) := by omega
     have hi2 : (k : Int) < (len' : Int) := by omega
     by_cases he : el xs k = el ys k
     ·have hd : (el xs k != el ys k) = false := by simp [he]
      have HX : Hid (el xs k = el ys k) := he
      clear he
      go_wp2_with fail
      go_quiet (fail)
      go_wp2
      go_roundw
      case rel => exact ⟨k + 1,by omega,by go_num,fun j hj => by
       rcases Nat.lt_succ_iff_lt_or_eq.1 hj with h | h
       ·exact HA.out j h
       ·rw [h];exact HX.out,_,rfl⟩
      case measure => simp [intOf];omega
     ·have hd : (el xs k != el ys k) = true := by simp [he]
      go_wp2_with fail
      go_quiet (fail)
      go_wp2
      go_ret
      exact ⟨ret_bool (by symm;rw [decide_eq_false_iff_not];intro h;exact he (by rw [h])),_,World.drewN_drewN _ _ _⟩
    ·go_wp2
     go_ret
     exact ⟨ret_bool (by symm;rw [decide_eq_true_iff];exact eq_of_all (by rw [HL.out,HL'.out,HLL.out]) (fun j hj => HA.out j (by rw [HL.out] at hj;omega))),_,rfl⟩
 ·have hne : ((len : Int) != (len' : Int)) = true := by simp;omega
  go_enter Try.func52,Try.ntmps52
  go_wp2
  go_ret
  exact ⟨ret_bool (by symm;rw [decide_eq_false_iff_not];intro h;rw [h] at hlen;omega),0,rfl⟩
theorem belowN {B n : Nat} {a w : World} (h : Below B a w) : Below B a (w.drewN n) := ⟨h.os,h.tape,h.output,h.size,h.block⟩
theorem okB_len {xs : List Int} (h : okB xs = true) : 1 ≤ xs.length ∧ xs.length ≤ 8 := by
 unfold okB at h;simp only [Bool.and_eq_true,decide_eq_true_eq] at h;exact h.1
def OwnAt (w : World) (g cap : Nat) (zs : List Int) : Prop :=
 zs.length ≤ cap ∧ cap ≤ maxLen ∧ ∃ cur,w.heap[g]? = some (.cells cur 2 (0,0)) ∧ cur.size = cap ∧ ∀ i,i < zs.length → cur[i]? = some (.int .i64 (el zs i))
theorem OwnAt.lt {w : World} {g cap : Nat} {zs : List Int} (h : OwnAt w g cap zs) : g < w.heap.size := by
 obtain ⟨_,_,c,hb,_⟩ := h
 obtain ⟨hlt,_⟩ := Array.getElem?_eq_some_iff.1 hb
 exact hlt
theorem RowOf.own {w : World} {b : Nat} {xs : List Int} (h : RowOf w b xs) (hm : xs.length ≤ maxLen) : OwnAt w b xs.length xs := by
 obtain ⟨c,hb,hn,hc⟩ := h
 exact ⟨Nat.le_refl _,hm,c,hb,hn,hc⟩
attribute [local go_sem ↓] Go.wp_at_zero Go.wp_at_succ
structure Touch (g : Nat) (w w' : World) : Prop where
 os : w'.os = w.os
 tape : w'.tape = w.tape
 output : w'.output = w.output
 size : w'.heap.size = w.heap.size
 block : ∀ k,k ≠ g → w'.heap[k]? = w.heap[k]?
theorem Touch.refl (g : Nat) (w : World) : Touch g w w := ⟨rfl,rfl,rfl,rfl,fun _ _ => rfl⟩
theorem Touch.set {g : Nat} {w w' : World} (h : Touch g w w') (i : Nat) (u : Value) : Touch g w (w'.setCell ⟨g,i,none⟩ u) :=
 ⟨h.os,h.tape,h.output,by simp [World.setCell,h.size],fun k hk => (Below.heap_setCell _ _ _ _ hk).trans (h.block k hk)⟩
def mk (zs : List Int) (k0 j : Nat) : List Int := (List.range zs.length).map (fun i => if i < j then ((k0 + i : Nat) : Int) else el zs i)
def marks (n k0 : Nat) : List Int := (List.range n).map (fun i => ((k0 + i : Nat) : Int))
theorem mk_zero (zs : List Int) (k0 : Nat) : mk zs k0 0 = zs := by
 refine eq_of_all (by simp [mk]) (fun j hj => ?_)
 simp [mk] at hj
 simp [mk,el,hj]
theorem mk_step (zs : List Int) (k0 j : Nat) : (mk zs k0 j).set j ((k0 + j : Nat) : Int) = mk zs k0 (j + 1) := by
 refine List.ext_getElem (by simp [mk]) (fun i h1 h2 => ?_)
 rw [List.getElem_set]
 simp only [mk,List.getElem_map,List.getElem_range]
 by_cases e : j = i
 ·subst e;simp
 ·rw [if_neg e]
  by_cases hlt : i < j
  ·rw [if_pos hlt,if_pos (by omega)]
  ·rw [if_neg hlt,if_neg (by omega)]
theorem mk_done (zs : List Int) (k0 : Nat) : mk zs k0 zs.length = marks zs.length k0 := by
 refine List.ext_getElem (by simp [mk,marks]) (fun i h1 h2 => ?_)
 simp [mk] at h1
 simp [mk,marks,h1]
theorem marks_len (n k0 : Nat) : (marks n k0).length = n := by simp [marks]
theorem marks_el {n k0 i : Nat} (h : i < n) : el (marks n k0) i = ((k0 + i : Nat) : Int) := by simp [marks,el,h]
end Go.Proofs.Ytlnmdfgcpfbleaa
namespace Go.Proofs.Ytlnmdfgcpfbleaa
open Go.RowKit
theorem grown_refl (w : World) (r : Option Nat) : w.grownBy w r := ⟨rfl,rfl,rfl,Nat.le_refl _,fun _ _ _ => rfl⟩
theorem grown_trans {w w1 w2 : World} {r : Option Nat} (h : w.grownBy w1 r) (k : w1.grownBy w2 r) : w.grownBy w2 r :=
 ⟨k.os.trans h.os,k.tape.trans h.tape,k.output.trans h.output,Nat.le_trans h.size k.size,fun i hi hr => (k.block i (Nat.lt_of_lt_of_le hi h.size) hr).trans (h.block i hi hr)⟩
theorem grown_set {w w1 : World} {p : Nat} (h : w.grownBy w1 (some p)) (i : Nat) (u : Value) : w.grownBy (w1.setCell ⟨p,i,none⟩ u) (some p) :=
 ⟨h.os,h.tape,h.output,by simp [World.setCell];exact h.size,fun k hk hr => (Below.heap_setCell _ _ _ _ (by intro e;exact hr (by rw [e]))).trans (h.block k hk hr)⟩
end Go.Proofs.Ytlnmdfgcpfbleaa
namespace Go.Proofs.Ytlnmdfgcpfbleaa
open Go.RowKit Go.Sort
structure OSl (w : World) (s g off n cap : Nat) (xs : List Value) : Prop where
 len : xs.length = n * s
 le : n ≤ cap
 max : cap ≤ maxLen
 blk : g < w.heap.size
 cell : ∀ i,i < n * s → w.cell? ⟨g,off + i,none⟩ = xs[i]?
 some : ∀ i,i < cap * s → (w.cell? ⟨g,off + i,none⟩).isSome = true
 free : ∀ i,i < cap * s → w.frozen? ⟨g,off + i,none⟩ = false
theorem OSl.of_block {w w' : World} {s g off n cap : Nat} {xs : List Value} (h : OSl w s g off n cap xs) (e : w'.heap[g]? = w.heap[g]?) (hs : g < w'.heap.size) : OSl w' s g off n cap xs :=
 ⟨h.len,h.le,h.max,hs,fun i hi => by rw [World.cell?_of_block (w := w) e];exact h.cell i hi,fun i hi => by rw [World.cell?_of_block (w := w) e];exact h.some i hi,
  fun i hi => by rw [show w'.frozen? ⟨g,off + i,none⟩ = w.frozen? ⟨g,off + i,none⟩ from by simp only [World.frozen?,e]];exact h.free i hi⟩
theorem OSl.below {w w' : World} {s g off n cap B : Nat} {xs : List Value} (h : OSl w s g off n cap xs) (hb : Below B w w') (hg : g < B) : OSl w' s g off n cap xs :=
 h.of_block (hb.block g hg) (Nat.lt_of_lt_of_le h.blk hb.size)
theorem add_lit0 (g off j : Nat) : (⟨g,off,none⟩ : Addr).add j = ⟨g,off + j,none⟩ := by unfold Addr.add;split <;> simp_all
theorem OSl.of_ownsRow {w : World} {base e s n : Nat} {v : Value} {xs : List Value} (h : w.ownsRow base e s v n xs) (hv : v ≠ .slice none 0 0) :
  ∃ g cap,v = .slice (.some ⟨g,0,none⟩) n cap ∧ base ≤ g ∧ OSl w s g 0 n cap xs := by
 rcases h with ⟨hl,⟨h0,_⟩ | ⟨g,cap,cur,hv',hb,hg,hle,hm,hs,ht⟩⟩
 ·exact absurd h0 hv
 ·refine ⟨g,cap,hv',hb,hl,hle,hm,(Array.getElem?_eq_some_iff.1 hg).1,fun i hi => ?_,fun i hi => ?_,fun i hi => ?_⟩
  ·simp only [World.cell?,hg,Nat.zero_add]
   rw [← ht,List.getElem?_take,if_pos hi]
   simp
  ·simp only [World.cell?,hg,Nat.zero_add]
   have : i < cur.size := by omega
   simp [this]
  ·simp [World.frozen?,hg]
theorem size_setCells (b : Nat) : ∀ (vs : List Value) (o : Nat) (w : World),(w.setCells b o vs).heap.size = w.heap.size
 | [],_,_ => rfl
 | v :: vs,o,w => by
  have := size_setCells b vs (o + 1) (w.setCell ⟨b,o,none⟩ v)
  simp only [World.setCells] at this ⊢
  rw [this];simp [World.setCell]
theorem grown_setCells (b : Nat) : ∀ (vs : List Value) (o : Nat) (w : World),w.grownBy (w.setCells b o vs) (some b)
 | [],_,w => grown_refl w _
 | v :: vs,o,w => by
  have := grown_setCells b vs (o + 1) (w.setCell ⟨b,o,none⟩ v)
  simp only [World.setCells] at this ⊢
  exact grown_trans (grown_set (grown_refl w _) o v) this
section
variable {P : Program} (w : World)
theorem run_append_os (t ty e : TypeId) (i : TypeInfo) (z : Value) (s bytes : Nat) (ht : P.underlying t = some (.slice e)) (hi : P.info? e = some i) (hz : i.zero = some z)
  (hsize : i.size = s) (hby : i.bytes = bytes) (hzs : z.cells.size = s) (hsz : 0 < s)
  (g off n cap : Nat) (xs : List Value) (ho : OSl w s g off n cap xs)
  (ad : Addr) (m c : Nat) (news : List Value) (hl : news.length = m * s) (hnews : ∀ j u,news[j]? = some u → w.cell? (ad.add j) = some u) (h1 : ∀ u ∈ news,u.oneCell' = true)
  (h63 : n + m ≤ maxLen) (hbytes : (n + m) * bytes ≤ 140737488355328) :
  ∃ g' off' cap' w',(Builtin.append_ #[t,t] ty #[.slice (some ⟨g,off,none⟩) n cap,.slice (some ad) m c]).run P w = .ok (.slice (some ⟨g',off',none⟩) (n + m) cap') w' ∧
   OSl w' s g' off' (n + m) cap' (xs ++ news) ∧ w.grownBy w' (some g) ∧ (g' = g ∨ g' = w.heap.size) := by
 have hms : ∀ j,j < m * s → n + m ≤ cap → n * s + j < cap * s := by
  intro j hj hr
  have : (n + m) * s ≤ cap * s := Nat.mul_le_mul_right _ hr
  rw [Nat.add_mul] at this
  omega
 have hns : n * s ≤ cap * s := Nat.mul_le_mul_right _ ho.le
 by_cases hroom : n + m ≤ cap
 ·have hr := run_append_room_cells (P := P) w t ty e i ht hi g off n cap ad m c news (by rw [hl,hsize]) hnews h1 hroom
   (fun j hj => by rw [hsize,Nat.add_assoc];exact ho.some _ (hms j (by omega) hroom)) (fun j hj => by rw [hsize,Nat.add_assoc];exact ho.free _ (hms j (by omega) hroom))
  rw [hsize] at hr
  have hcs : ∀ j,j < news.length → (w.cell? ⟨g,off + n * s + j,none⟩).isSome = true := fun j hj => by rw [Nat.add_assoc];exact ho.some _ (hms j (by omega) hroom)
  have hin := World.cell?_setCells_in g news (off + n * s) w hcs
  refine ⟨g,off,cap,_,hr,⟨by rw [List.length_append,ho.len,hl,Nat.add_mul],hroom,ho.max,by rw [size_setCells];exact ho.blk,fun k hk => ?_,fun k hk => ?_,fun k hk => ?_⟩,grown_setCells _ _ _ _,.inl rfl⟩
  ·by_cases hlt : k < n * s
   ·rw [World.cell?_setCells_out _ _ _ _ _ (fun _ _ => .inl (by simp;omega)),ho.cell k hlt,List.getElem?_append_left (by rw [ho.len];exact hlt)]
   ·have e1 : off + k = off + n * s + (k - n * s) := by omega
    rw [Nat.add_mul] at hk
    rw [e1,hin (k - n * s) (by omega),List.getElem?_append_right (by rw [ho.len];omega),ho.len]
    simp
  ·by_cases hin' : n * s ≤ k ∧ k < n * s + m * s
   ·have e1 : off + k = off + n * s + (k - n * s) := by omega
    rw [e1,hin (k - n * s) (by omega)];simp
   ·rw [World.cell?_setCells_out _ _ _ _ _ (fun _ _ => by simp;omega)];exact ho.some k hk
  ·rw [World.frozen?_setCells];exact ho.free k hk
 ·have hg := run_append_arg_grows (P := P) w t ty e i z s bytes ht hi hz hsize hby hzs hsz ⟨g,off,none⟩ n cap xs ho.len (fun j u hu => by
   rw [add_lit0]
   have hj : j < xs.length := by
    rcases Nat.lt_or_ge j xs.length with h | h
    ·exact h
    ·rw [List.getElem?_eq_none h] at hu;cases hu
   rw [ho.cell j (by rw [← ho.len];exact hj)];exact hu) ad m c news hl hnews (by omega) h63 hbytes
  obtain ⟨v',w',hr,hown,hgr⟩ := hg
  have hm : 0 < n + m := by omega
  obtain ⟨g',cap',rfl,hb,hlt⟩ := hown.form hm
  obtain ⟨g2,cap2,hv2,_,hO⟩ := OSl.of_ownsRow hown (by intro h;cases h)
  cases hv2
  rcases hown.2 with ⟨h0,_⟩ | ⟨g3,cap3,cur,hv3,hb3,hg3,_⟩
  ·cases h0
  ·cases hv3
   refine ⟨g',0,cap',w',hr,hO,⟨hgr.os,hgr.tape,hgr.output,hgr.size,fun k hk _ => hgr.block k hk (by simp)⟩, ?_⟩
   right
   have hr2 := run_append_grow (P := P) w t ty e i z ht hi hz ⟨g,off,none⟩ n cap xs (by rw [hsize];exact ho.len) (fun j u hu => by
    rw [add_lit0]
    have hj : j < xs.length := by
     rcases Nat.lt_or_ge j xs.length with h | h
     ·exact h
     ·rw [List.getElem?_eq_none h] at hu;cases hu
    rw [ho.cell j (by rw [← ho.len];exact hj)];exact hu) ad m c news (by rw [hsize];exact hl) hnews (by omega) (by simp only [maxLen] at h63;omega) (growslice_fits (by omega) (by rw [hby];exact hbytes))
   rw [hr2] at hr
   simp only [Result.ok.injEq,Value.slice.injEq,Option.some.injEq,Addr.mk.injEq] at hr
   exact hr.1.1.1.symm
end
def OI (w : World) (g off n cap : Nat) (zs : List Int) : Prop := OSl w 1 g off n cap (zs.map (Value.int .i64))
theorem OI.length {w : World} {g off n cap : Nat} {zs : List Int} (h : OI w g off n cap zs) : zs.length = n := by have := h.len;simpa using this
theorem OI.cellAt {w : World} {g off n cap : Nat} {zs : List Int} (h : OI w g off n cap zs) {i : Nat} (hi : i < n) : w.cell? ⟨g,off + i,none⟩ = some (.int .i64 (el zs i)) := by
 have hl := h.length
 rw [h.cell i (by omega)]
 simp [el,show i < zs.length by omega]
theorem OI.own {w : World} {g cap : Nat} {zs : List Int} (h : OwnAt w g cap zs) : OI w g 0 zs.length cap zs := by
 have hlt := h.lt
 obtain ⟨h1,h2,cur,hb,hs,hc⟩ := h
 refine ⟨by simp,h1,h2,hlt,fun i hi => ?_,fun i hi => ?_,fun i hi => ?_⟩
 ·simp only [World.cell?,hb,Nat.zero_add]
  have : i < zs.length := by omega
  simp [hc i this,el,this]
 ·simp only [World.cell?,hb,Nat.zero_add]
  have : i < cur.size := by omega
  simp [this]
 ·simp [World.frozen?,hb]
def Grew (w w' : World) : Prop := Below w.heap.size w w' ∧ w.drawn ≤ w'.drawn
theorem Grew.refl (w : World) : Grew w w := ⟨Below.refl _ _,Nat.le_refl _⟩
theorem Grew.trans {a b c : World} (h : Grew a b) (k : Grew b c) : Grew a c := ⟨h.1.trans (k.1.mono h.1.size),Nat.le_trans h.2 k.2⟩
theorem Grew.alloc {a b : World} (h : Grew a b) (o : Obj) : Grew a (b.alloc o) := ⟨h.1.alloc h.1.size o,h.2⟩
theorem Grew.drewN {a b : World} (h : Grew a b) (n : Nat) : Grew a (b.drewN n) := ⟨⟨h.1.os,h.1.tape,h.1.output,h.1.size,h.1.block⟩,Nat.le_trans h.2 (Nat.le_add_right _ _)⟩
end Go.Proofs.Ytlnmdfgcpfbleaa
namespace Go.Proofs.Ytlnmdfgcpfbleaa
set_option linter.unusedSimpArgs false
set_option linter.unusedVariables false
open Go.RowKit Go.Sort
theorem num_set {w : World} {g off n cap : Nat} {zs : List Int} (h : OI w g off n cap zs) {i : Nat} (hi : i < n) (y : Int) : OI (w.setCell ⟨g,off + i,none⟩ (.int .i64 y)) g off n cap (zs.set i y) := by
 have hl := h.length
 have hc := h.cellAt hi
 refine ⟨by simp [hl],h.le,h.max,by simp [World.setCell];exact h.blk,fun j hj => ?_,fun j hj => ?_,fun j hj => by rw [World.frozen?_setCell];exact h.free j hj⟩
 ·by_cases e : i = j
  ·subst e
   rw [World.cell?_setCell_same _ _ _ hc]
   simp [show i < zs.length by omega]
  ·rw [World.cell?_setCell_other _ _ _ _ (by simp [e]),h.cell j hj]
   simp [e]
 ·by_cases e : i = j
  ·subst e;rw [World.cell?_setCell_same _ _ _ hc];rfl
  ·rw [World.cell?_setCell_other _ _ _ _ (by simp [e])];exact h.some j hj
theorem Try.info2n : (Try.prog.info? 2).map (fun i => (i.zero,i.size,i.bytes)) = some (some (.int .i64 0),1,8) := by kernel_rfl
theorem info_parts2n {T s b : Nat} {z : Value} (h : (Try.prog.info? T).map (fun i => (i.zero,i.size,i.bytes)) = some (some z,s,b)) : ∃ i,Try.prog.info? T = some i ∧ i.zero = some z ∧ i.size = s ∧ i.bytes = b := by
 obtain ⟨i,hi,hh⟩ := Option.map_eq_some_iff.1 h
 simp only [Prod.mk.injEq] at hh
 exact ⟨i,hi,hh.1,hh.2.1,hh.2.2⟩
set_option maxHeartbeats 400000 in
theorem markN_any (g off cap k0 n : Nat) (q : Int) (zs : List Int) (w : World) (ho : OI w g off n cap zs) (hq : q = (k0 : Int)) (hk : k0 ≤ 10000000) (hn : n ≤ 10000000) :
  Calls Try.prog 54 #[.slice (some ⟨g,off,none⟩) n cap,.int .i64 q] w fun e w' => e = .returned (.int .i64 (q + (n : Int))) ∧ OI w' g off n cap (marks n k0) ∧ Touch g w w' := by
 subst hq
 have hzl := ho.length
 subst hzl
 go_enter Try.func54,Try.ntmps54
 go_wp2
 go_loopw [1,5] (fun q i wr => ∃ j : Nat,j ≤ zs.length ∧ i = .int .i64 j ∧ q = .int .i64 ((k0 + j : Nat) : Int) ∧ OI wr g off zs.length cap (mk zs k0 j) ∧ Touch g w wr) (fun _ i _ => zs.length - (intOf i).toNat)
 case atStart => exact ⟨0,Nat.zero_le _,rfl,rfl,by rw [mk_zero];exact ho,Touch.refl _ _⟩
 case round =>
  obtain ⟨j,hj,rfl,rfl,hown,ht⟩ := hrel
  have HO : Hid (OI wr g off zs.length cap (mk zs k0 j)) := hown
  have HT : Hid (Touch g w wr) := ht
  clear hown ht ho
  by_cases hlt : j < zs.length
  ·have hc := HO.out.cellAt hlt
   have hf := HO.out.free j (by have := HO.out.le;omega)
   have hi1 : (j : Int) < (zs.length : Int) := by omega
   go_wp2
   go_roundw
   case rel => exact ⟨j + 1,by omega,by go_num,by go_num,by rw [← mk_step];exact num_set HO.out hlt _,HT.out.set _ _⟩
   case measure => simp [intOf];omega
  ·have hjl : j = zs.length := by omega
   subst hjl
   go_wp2
   go_ret
   exact ⟨ret_int (by omega),by rw [← mk_done];exact HO.out,HT.out⟩
set_option maxHeartbeats 400000 in
theorem heldN_any (g off cap k0 n : Nat) (q : Int) (w : World) (ho : OI w g off n cap (marks n k0)) (hq : q = (k0 : Int)) (hk : k0 ≤ 10000000) (hn : n ≤ 10000000) :
  Calls Try.prog 55 #[.slice (some ⟨g,off,none⟩) n cap,.int .i64 q] w fun e w' => e = .returned (.int .i64 (q + (n : Int))) ∧ w' = w := by
 subst hq
 go_enter Try.func55,Try.ntmps55
 go_wp2
 go_loop [1,5] (fun q i => ∃ j : Nat,j ≤ n ∧ i = .int .i64 j ∧ q = .int .i64 ((k0 + j : Nat) : Int)) (fun _ i => n - (intOf i).toNat)
 case atStart => exact ⟨0,Nat.zero_le _,rfl,rfl⟩
 case round =>
  obtain ⟨j,hj,rfl,rfl⟩ := hrel
  by_cases hlt : j < n
  ·have hc := ho.cellAt hlt
   rw [marks_el hlt] at hc
   have hi1 : (j : Int) < (n : Int) := by omega
   go_wp2
   go_round
   case rel => exact ⟨j + 1,by omega,by go_num,by go_num⟩
   case measure => simp [intOf];omega
  ·have hjl : j = n := by omega
   subst hjl
   go_wp2
   go_ret
   exact ⟨ret_int (by omega),rfl⟩
end Go.Proofs.Ytlnmdfgcpfbleaa
namespace Go.Proofs.Ytlnmdfgcpfbleaa
set_option linter.unusedVariables false
set_option linter.unusedSimpArgs false
open Go.RowKit Go.Sort
def Bx (w : World) (B : Nat) (T : TypeId) (cs : Array Value) : Prop := w.heap[B]? = some (.cells cs T (0,0))
theorem Bx.lt {w : World} {B : Nat} {T : TypeId} {cs : Array Value} (h : Bx w B T cs) : B < w.heap.size := (Array.getElem?_eq_some_iff.1 h).1
theorem Bx.cell {w : World} {B : Nat} {T : TypeId} {cs : Array Value} (h : Bx w B T cs) (i : Nat) : w.cell? ⟨B,i,none⟩ = cs[i]? := by simp [World.cell?,show w.heap[B]? = _ from h]
theorem Bx.at {w : World} {B : Nat} {T : TypeId} {cs : Array Value} (h : Bx w B T cs) (i : Nat) {v : Value} (hi : cs[i]? = some v) : w.cell? ⟨B,i,none⟩ = some v := (h.cell i).trans hi
theorem Bx.f {w : World} {B : Nat} {T : TypeId} {cs : Array Value} (h : Bx w B T cs) (i : Nat) : w.frozen? ⟨B,i,none⟩ = false := by simp [World.frozen?,show w.heap[B]? = _ from h]
theorem Bx.new (w : World) (T : TypeId) (cs : Array Value) : Bx (w.alloc (.cells cs T)) w.heap.size T cs := heap_alloc_new w _
theorem Bx.grown {w w' : World} {r : Option Nat} {B : Nat} {T : TypeId} {cs : Array Value} (h : Bx w B T cs) (hg : w.grownBy w' r) (hne : some B ≠ r) : Bx w' B T cs := (hg.block B h.lt hne).trans h
theorem Bx.alloc {w : World} {B : Nat} {T : TypeId} {cs : Array Value} (h : Bx w B T cs) (o : Obj) : Bx (w.alloc o) B T cs := h.grown (World.grownBy_alloc w o none) (by simp)
theorem Bx.below {w w' : World} {B : Nat} {T : TypeId} {cs : Array Value} (h : Bx w B T cs) (hb : Below w.heap.size w w') : Bx w' B T cs := (hb.block B h.lt).trans h
def SlC (w : World) (a : Option Addr) (c : Nat) (Z : List Int) : Prop := (Z = [] ∧ c ≤ maxLen) ∨ ∃ g off,a = some ⟨g,off,none⟩ ∧ OI w g off Z.length c Z
set_option maxHeartbeats 400000 in
theorem mark0_any (a : Option Addr) (cap : Nat) (q : Int) (w : World) : Calls Try.prog 54 #[.slice a 0 cap,.int .i64 q] w fun e w' => e = .returned (.int .i64 q) ∧ w' = w := by
 go_enter Try.func54,Try.ntmps54
 go_wp2
 go_loopw [1,5] (fun q1 i wr => q1 = .int .i64 q ∧ i = .int .i64 0 ∧ wr = w) (fun _ _ _ => 0)
 case atStart => exact ⟨rfl,rfl,rfl⟩
 case round =>
  obtain ⟨rfl,rfl,rfl⟩ := hrel
  go_wp2
  go_ret
  exact ⟨rfl,rfl⟩
set_option maxHeartbeats 400000 in
theorem held0_any (a : Option Addr) (cap : Nat) (q : Int) (w : World) : Calls Try.prog 55 #[.slice a 0 cap,.int .i64 q] w fun e w' => e = .returned (.int .i64 q) ∧ w' = w := by
 go_enter Try.func55,Try.ntmps55
 go_wp2
 go_loop [1,5] (fun q1 i => q1 = .int .i64 q ∧ i = .int .i64 0) (fun _ _ => 0)
 case atStart => exact ⟨rfl,rfl⟩
 case round =>
  obtain ⟨rfl,rfl⟩ := hrel
  go_wp2
  go_ret
  exact ⟨rfl,rfl⟩
theorem Touch.grown {g : Nat} {w w' : World} (h : Touch g w w') : w.grownBy w' (some g) := ⟨h.os,h.tape,h.output,by rw [h.size];exact Nat.le_refl _,fun k _ hk => h.block k (fun e => hk (by rw [e]))⟩
theorem heldC_any (a : Option Addr) (c k0 n : Nat) (q : Int) (w : World) (h : SlC w a c (marks n k0)) (hq : q = (k0 : Int)) (hk : k0 ≤ 10000000) (hn : n ≤ 10000000) :
  Calls Try.prog 55 #[.slice a n c,.int .i64 q] w fun e w' => e = .returned (.int .i64 (q + (n : Int))) ∧ w' = w := by
 have hl := marks_len n k0
 rcases h with ⟨h0,hc⟩ | ⟨g,off,rfl,ho⟩
 ·rw [h0] at hl
  obtain rfl : n = 0 := by simpa using hl.symm
  refine (held0_any a c q w).mono ?_
  rintro e w' ⟨rfl,rfl⟩
  exact ⟨by simp,rfl⟩
 ·rw [hl] at ho
  exact heldN_any g off c k0 n q w ho hq hk hn
end Go.Proofs.Ytlnmdfgcpfbleaa
namespace Go.Proofs.Ytlnmdfgcpfbleaa
set_option linter.unusedVariables false
set_option linter.unusedSimpArgs false
open Go.RowKit Go.Sort
def PlainA (a : Option Addr) : Prop := ∀ x,a = some x → ∃ b off,x = ⟨b,off,none⟩
theorem plainN : PlainA none := fun x h => by cases h
theorem plainS (b off : Nat) : PlainA (some ⟨b,off,none⟩) := fun x h => by cases h;exact ⟨b,off,rfl⟩
def OSo (w : World) (s : Nat) (a : Option Addr) (n c : Nat) (xs : List Value) (G : Option Nat) : Prop :=
 (n = 0 ∧ c = 0 ∧ xs = [] ∧ G = none ∧ PlainA a) ∨ ∃ g off,a = some ⟨g,off,none⟩ ∧ OSl w s g off n c xs ∧ G = some g
theorem OSo.nil (w : World) (s : Nat) {a : Option Addr} (ha : PlainA a) : OSo w s a 0 0 [] none := .inl ⟨rfl,rfl,rfl,rfl,ha⟩
theorem OSo.plain {w : World} {s : Nat} {a : Option Addr} {n c : Nat} {xs : List Value} {G : Option Nat} (h : OSo w s a n c xs G) : PlainA a := by
 rcases h with ⟨_,_,_,_,h⟩ | ⟨g,off,rfl,_,_⟩
 ·exact h
 ·exact plainS _ _
theorem OSo.of {w : World} {s g off n c : Nat} {xs : List Value} (h : OSl w s g off n c xs) : OSo w s (some ⟨g,off,none⟩) n c xs (some g) := .inr ⟨g,off,rfl,h,rfl⟩
theorem OSo.len {w : World} {s : Nat} {a : Option Addr} {n c : Nat} {xs : List Value} {G : Option Nat} (h : OSo w s a n c xs G) : xs.length = n * s := by
 rcases h with ⟨rfl,_,rfl,_⟩ | ⟨g,off,_,h,_⟩
 ·simp
 ·exact h.len
theorem OSo.le {w : World} {s : Nat} {a : Option Addr} {n c : Nat} {xs : List Value} {G : Option Nat} (h : OSo w s a n c xs G) : n ≤ c ∧ c ≤ maxLen := by
 rcases h with ⟨rfl,rfl,rfl,_⟩ | ⟨g,off,_,h,_⟩
 ·exact ⟨Nat.le_refl _,Nat.zero_le _⟩
 ·exact ⟨h.le,h.max⟩
theorem OSo.lt {w : World} {s : Nat} {a : Option Addr} {n c : Nat} {xs : List Value} {G : Option Nat} (h : OSo w s a n c xs G) {g : Nat} (hg : G = some g) : g < w.heap.size := by
 rcases h with ⟨_,_,_,h,_⟩ | ⟨g',off,_,h,h'⟩
 ·rw [h] at hg;cases hg
 ·rw [h'] at hg;cases hg;exact h.blk
theorem OSo.frame {w w' : World} {s : Nat} {a : Option Addr} {n c : Nat} {xs : List Value} {G : Option Nat} (h : OSo w s a n c xs G) (hs : w.heap.size ≤ w'.heap.size) (e : ∀ g,G = some g → w'.heap[g]? = w.heap[g]?) : OSo w' s a n c xs G := by
 rcases h with h | ⟨g,off,ha,h,h'⟩
 ·exact .inl h
 ·exact .inr ⟨g,off,ha,h.of_block (e g h') (Nat.lt_of_lt_of_le h.blk hs),h'⟩
theorem OSo.cell {w : World} {s : Nat} {a : Option Addr} {n c : Nat} {xs : List Value} {G : Option Nat} (h : OSo w s a n c xs G) (hn : 0 < n) : ∃ g off,a = some ⟨g,off,none⟩ ∧ G = some g ∧ (∀ j,j < n * s → w.cell? ⟨g,off + j,none⟩ = xs[j]?) ∧ ∀ j,j < n * s → w.frozen? ⟨g,off + j,none⟩ = false := by
 rcases h with ⟨h0,_⟩ | ⟨g,off,ha,h,h'⟩
 ·omega
 ·exact ⟨g,off,ha,h',h.cell,fun j hj => h.free j (Nat.lt_of_lt_of_le hj (Nat.mul_le_mul_right _ h.le))⟩
theorem osl_put {w : World} {s g off n c : Nat} {xs : List Value} (h : OSl w s g off n c xs) {j : Nat} (hj : j < n * s) (v : Value) : OSl (w.setCell ⟨g,off + j,none⟩ v) s g off n c (xs.set j v) := by
 have hl := h.len
 have hc : w.cell? ⟨g,off + j,none⟩ = some (xs[j]'(by omega)) := by rw [h.cell j hj,List.getElem?_eq_getElem (by omega)]
 refine ⟨by simpa using hl,h.le,h.max,by simp [World.setCell];exact h.blk,fun k hk => ?_,fun k hk => ?_,fun k hk => by rw [World.frozen?_setCell];exact h.free k hk⟩
 ·by_cases e : j = k
  ·subst e
   rw [World.cell?_setCell_same _ _ _ hc]
   simp [show j < xs.length by omega]
  ·rw [World.cell?_setCell_other _ _ _ _ (by simp [e]),h.cell k hk]
   simp [e]
 ·by_cases e : j = k
  ·subst e;rw [World.cell?_setCell_same _ _ _ hc];rfl
  ·rw [World.cell?_setCell_other _ _ _ _ (by simp [e])];exact h.some k hk
section
variable {P : Program} (w : World)
theorem run_append_oo (t ty e : TypeId) (i : TypeInfo) (z : Value) (s bytes : Nat) (ht : P.underlying t = some (.slice e)) (hi : P.info? e = some i) (hz : i.zero = some z)
  (hsize : i.size = s) (hby : i.bytes = bytes) (hzs : z.cells.size = s) (hsz : 0 < s)
  (a : Option Addr) (n cap : Nat) (xs : List Value) (G : Option Nat) (ho : OSo w s a n cap xs G)
  (x : Option Addr) (m c : Nat) (news : List Value) (hl : news.length = m * s) (hnews : m = 0 ∨ ∃ ad,x = some ad ∧ ∀ j u,news[j]? = some u → w.cell? (ad.add j) = some u) (h1 : ∀ u ∈ news,u.oneCell' = true)
  (h63 : n + m ≤ maxLen) (hbytes : (n + m) * bytes ≤ 140737488355328) :
  ∃ a' cap' G' w',(Builtin.append_ #[t,t] ty #[.slice a n cap,.slice x m c]).run P w = .ok (.slice a' (n + m) cap') w' ∧
   OSo w' s a' (n + m) cap' (xs ++ news) G' ∧ w.grownBy w' G ∧ (G' = G ∨ G' = some w.heap.size) := by
 by_cases hm : m = 0
 ·subst hm
  have hn0 : news = [] := List.eq_nil_of_length_eq_zero (by simpa using hl)
  subst hn0
  have hle := ho.le.1
  have hr : (Builtin.append_ #[t,t] ty #[.slice a n cap,.slice x 0 c]).run P w = .ok (.slice a n cap) w := by
   cases a <;> cases x <;> simp [Builtin.append_,run_underlying ht,sizeOf,typeInfo,hi,Builtin.lenOf,hle,Builtin.firstCells,loadCells,loadCellsFrom,storeCells]
  exact ⟨a,cap,G,w,hr,by simpa using ho,grown_refl w _,.inl rfl⟩
 ·rcases hnews with h0 | ⟨ad,rfl,hnews⟩
  ·exact absurd h0 hm
  ·rcases ho with ⟨rfl,rfl,rfl,rfl,hpl⟩ | ⟨g,off,rfl,ho,rfl⟩
   ·cases a with
    | none =>
     obtain ⟨v',w',hr,hown,hgr,hnil,hat⟩ := run_append_own_at (P := P) w 0 t ty e i z s bytes ht hi hz hsize hby hzs hsz (.slice none 0 0) 0 [] (World.ownsRow_nil w 0 e s) ad m c news hl hnews h1 h63 hbytes (Nat.zero_le _)
     obtain ⟨g',cap',rfl,_,hO⟩ := OSl.of_ownsRow hown (fun h => hm (hnil.1 h).2)
     refine ⟨some ⟨g',0,none⟩,cap',some g',w',hr,.inr ⟨g',0,rfl,by simpa using hO,rfl⟩,hgr,.inr ?_⟩
     rcases hat with h | h
     ·simp [Value.ownBlock] at h
     ·simpa [Value.ownBlock] using h
    | some b =>
     have hg := run_append_arg_grows (P := P) w t ty e i z s bytes ht hi hz hsize hby hzs hsz b 0 0 [] (by simp) (by simp) ad m c news hl hnews (by omega) h63 hbytes
     obtain ⟨v',w',hr,hown,hgr⟩ := hg
     obtain ⟨g',cap',rfl,hb,hlt⟩ := hown.form (by omega)
     obtain ⟨g2,cap2,hv2,_,hO⟩ := OSl.of_ownsRow hown (by intro h;cases h)
     cases hv2
     refine ⟨some ⟨g',0,none⟩,cap',some g',w',hr,.inr ⟨g',0,rfl,by simpa using hO,rfl⟩,hgr,.inr ?_⟩
     have hr2 := run_append_grow (P := P) w t ty e i z ht hi hz b 0 0 [] (by simp) (by simp) ad m c news (by rw [hsize];exact hl) hnews (by omega) (by simp only [maxLen] at h63;omega) (growslice_fits (by omega) (by rw [hby];exact hbytes))
     rw [hr2] at hr
     simp only [Result.ok.injEq,Value.slice.injEq,Option.some.injEq,Addr.mk.injEq] at hr
     rw [hr.1.1.1]
   ·obtain ⟨g',off',cap',w',hr,h2,h3,h4⟩ := run_append_os (P := P) w t ty e i z s bytes ht hi hz hsize hby hzs hsz g off n cap xs ho ad m c news hl hnews h1 h63 hbytes
    exact ⟨_,cap',some g',w',hr,.inr ⟨g',off',rfl,h2,rfl⟩,h3,h4.imp (fun h => by rw [h]) (fun h => by rw [h])⟩
end
end Go.Proofs.Ytlnmdfgcpfbleaa
namespace Go.Proofs.Ytlnmdfgcpfbleaa
set_option linter.unusedVariables false
set_option linter.unusedSimpArgs false
open Go.RowKit Go.Sort
inductive Cel where
 | v (x : Value)
 | sl (s n : Nat) (cs : List Cel)
abbrev Fp := Nat → Prop
mutual
def Cel.ow (w : World) : Cel → Value → Fp → Prop
 | .v x,u,fp => u = x ∧ ∀ b,¬ fp b
 | .sl s n cs,u,fp => ∃ a c us G f,u = .slice a n c ∧ OSo w s a n c us G ∧ owL w cs us f ∧ (∀ b,G = some b → ¬ f b) ∧ ∀ b,fp b ↔ G = some b ∨ f b
def owL (w : World) : List Cel → List Value → Fp → Prop
 | [],us,fp => us = [] ∧ ∀ b,¬ fp b
 | c :: cs,us,fp => ∃ u us' f1 f2,us = u :: us' ∧ Cel.ow w c u f1 ∧ owL w cs us' f2 ∧ (∀ b,f1 b → ¬ f2 b) ∧ ∀ b,fp b ↔ f1 b ∨ f2 b
end
mutual
def Cel.vw (w : World) : Cel → Value → Prop
 | .v x,u => u = x
 | .sl s n cs,u => ∃ a c us,u = .slice a n c ∧ n ≤ c ∧ c ≤ maxLen ∧ us.length = n * s ∧ (n = 0 ∨
   ∃ b off,a = some ⟨b,off,none⟩ ∧ ∀ j,j < n * s → w.cell? ⟨b,off + j,none⟩ = us[j]?) ∧ vwL w cs us
def vwL (w : World) : List Cel → List Value → Prop
 | [],us => us = []
 | c :: cs,us => ∃ u us',us = u :: us' ∧ Cel.vw w c u ∧ vwL w cs us'
end
theorem owL_len {w : World} : ∀ {cs : List Cel} {us : List Value} {fp : Fp},owL w cs us fp → us.length = cs.length
 | [],us,fp,h => by rw [h.1];rfl
 | c :: cs,us,fp,h => by
  obtain ⟨u,us',f1,f2,rfl,_,h2,_⟩ := h
  simp [owL_len h2]
theorem vwL_len {w : World} : ∀ {cs : List Cel} {us : List Value},vwL w cs us → us.length = cs.length
 | [],us,h => by rw [show us = [] from h];rfl
 | c :: cs,us,h => by
  obtain ⟨u,us',rfl,_,h2⟩ := h
  simp [vwL_len h2]
mutual
theorem Cel.ow_frame {w w' : World} (hs : w.heap.size ≤ w'.heap.size) : ∀ {c : Cel} {u : Value} {fp : Fp},Cel.ow w c u fp → (∀ b,fp b → w'.heap[b]? = w.heap[b]?) → Cel.ow w' c u fp
 | .v x,u,fp,h,_ => h
 | .sl s n cs,u,fp,h,e => by
  obtain ⟨a,c,us,G,f,rfl,ho,hl,hn,hf⟩ := h
  exact ⟨a,c,us,G,f,rfl,ho.frame hs (fun g hg => e g ((hf g).2 (.inl hg))),owL_frame hs hl (fun b hb => e b ((hf b).2 (.inr hb))),hn,hf⟩
theorem owL_frame {w w' : World} (hs : w.heap.size ≤ w'.heap.size) : ∀ {cs : List Cel} {us : List Value} {fp : Fp},owL w cs us fp → (∀ b,fp b → w'.heap[b]? = w.heap[b]?) → owL w' cs us fp
 | [],us,fp,h,_ => h
 | c :: cs,us,fp,h,e => by
  obtain ⟨u,us',f1,f2,rfl,h1,h2,hd,hf⟩ := h
  exact ⟨u,us',f1,f2,rfl,Cel.ow_frame hs h1 (fun b hb => e b ((hf b).2 (.inl hb))),owL_frame hs h2 (fun b hb => e b ((hf b).2 (.inr hb))),hd,hf⟩
end
mutual
theorem Cel.ow_lt {w : World} : ∀ {c : Cel} {u : Value} {fp : Fp},Cel.ow w c u fp → ∀ b,fp b → b < w.heap.size
 | .v x,u,fp,h => fun b hb => absurd hb (h.2 b)
 | .sl s n cs,u,fp,h => fun b hb => by
  obtain ⟨a,c,us,G,f,rfl,ho,hl,hn,hf⟩ := h
  rcases (hf b).1 hb with hb | hb
  ·exact ho.lt hb
  ·exact owL_lt hl b hb
theorem owL_lt {w : World} : ∀ {cs : List Cel} {us : List Value} {fp : Fp},owL w cs us fp → ∀ b,fp b → b < w.heap.size
 | [],us,fp,h => fun b hb => absurd hb (h.2 b)
 | c :: cs,us,fp,h => fun b hb => by
  obtain ⟨u,us',f1,f2,rfl,h1,h2,hd,hf⟩ := h
  rcases (hf b).1 hb with hb | hb
  ·exact Cel.ow_lt h1 b hb
  ·exact owL_lt h2 b hb
end
mutual
theorem Cel.ow_vw {w : World} : ∀ {c : Cel} {u : Value} {fp : Fp},Cel.ow w c u fp → Cel.vw w c u
 | .v x,u,fp,h => h.1
 | .sl s n cs,u,fp,h => by
  obtain ⟨a,c,us,G,f,rfl,ho,hl,hn,hf⟩ := h
  refine ⟨a,c,us,rfl,ho.le.1,ho.le.2,ho.len, ?_,owL_vw hl⟩
  rcases Nat.eq_zero_or_pos n with h0 | h0
  ·exact .inl h0
  ·obtain ⟨g,off,ha,_,hc,_⟩ := ho.cell h0
   exact .inr ⟨g,off,ha,hc⟩
theorem owL_vw {w : World} : ∀ {cs : List Cel} {us : List Value} {fp : Fp},owL w cs us fp → vwL w cs us
 | [],us,fp,h => h.1
 | c :: cs,us,fp,h => by
  obtain ⟨u,us',f1,f2,rfl,h1,h2,hd,hf⟩ := h
  exact ⟨u,us',rfl,Cel.ow_vw h1,owL_vw h2⟩
end
mutual
theorem Cel.vw_mono {w w' : World} (e : ∀ b,b < w.heap.size → w'.heap[b]? = w.heap[b]?) : ∀ {c : Cel} {u : Value},Cel.vw w c u → Cel.vw w' c u
 | .v x,u,h => h
 | .sl s n cs,u,h => by
  obtain ⟨a,c,us,rfl,h1,h2,h3,h | ⟨b,off,rfl,hc⟩,hl⟩ := h
  ·exact ⟨a,c,us,rfl,h1,h2,h3,.inl h,vwL_mono e hl⟩
  ·refine ⟨_,c,us,rfl,h1,h2,h3,.inr ⟨b,off,rfl,fun j hj => ?_⟩,vwL_mono e hl⟩
   have hu : j < us.length := by rw [h3];exact hj
   have h0 := hc j hj
   rw [List.getElem?_eq_getElem hu] at h0
   have hlt := World.block_lt_of_cell? _ _ h0
   rw [World.cell?_of_block (w := w) (e b hlt)]
   exact hc j hj
theorem vwL_mono {w w' : World} (e : ∀ b,b < w.heap.size → w'.heap[b]? = w.heap[b]?) : ∀ {cs : List Cel} {us : List Value},vwL w cs us → vwL w' cs us
 | [],us,h => h
 | c :: cs,us,h => by
  obtain ⟨u,us',rfl,h1,h2⟩ := h
  exact ⟨u,us',rfl,Cel.vw_mono e h1,vwL_mono e h2⟩
end
theorem Cel.vw_below {w w' : World} {c : Cel} {u : Value} (h : Cel.vw w c u) (hb : Below w.heap.size w w') : Cel.vw w' c u := Cel.vw_mono (fun b hlt => hb.block b hlt) h
theorem Cel.ow_below {w w' : World} {c : Cel} {u : Value} {fp : Fp} (h : Cel.ow w c u fp) (hb : Below w.heap.size w w') : Cel.ow w' c u fp := Cel.ow_frame hb.size h (fun b hf => hb.block b (Cel.ow_lt h b hf))
theorem owL_below {w w' : World} {cs : List Cel} {us : List Value} {fp : Fp} (h : owL w cs us fp) (hb : Below w.heap.size w w') : owL w' cs us fp := owL_frame hb.size h (fun b hf => hb.block b (owL_lt h b hf))
theorem vwL_at {w : World} : ∀ {cs : List Cel} {us : List Value},vwL w cs us → ∀ {j : Nat} {c : Cel},cs[j]? = some c → ∃ u,us[j]? = some u ∧ Cel.vw w c u
 | [],us,h,j,c,hj => by simp at hj
 | c0 :: cs,us,h,0,c,hj => by
  obtain ⟨u,us',rfl,h1,h2⟩ := h
  simp at hj
  subst hj
  exact ⟨u,by simp,h1⟩
 | c0 :: cs,us,h,j + 1,c,hj => by
  obtain ⟨u,us',rfl,h1,h2⟩ := h
  obtain ⟨u',hu,hv⟩ := vwL_at h2 (j := j) (c := c) (by simpa using hj)
  exact ⟨u',by simpa using hu,hv⟩
theorem vwL_append {w : World} : ∀ {cs ds : List Cel} {us vs : List Value},vwL w cs us → vwL w ds vs → vwL w (cs ++ ds) (us ++ vs)
 | [],ds,us,vs,h,k => by rw [show us = [] from h];exact k
 | c :: cs,ds,us,vs,h,k => by
  obtain ⟨u,us',rfl,h1,h2⟩ := h
  exact ⟨u,us' ++ vs,rfl,h1,vwL_append h2 k⟩
theorem Cel.ow_congr {w : World} : ∀ {c : Cel} {u : Value} {f g : Fp},Cel.ow w c u f → (∀ b,g b ↔ f b) → Cel.ow w c u g
 | .v x,u,f,g,h,e => ⟨h.1,fun b hb => h.2 b ((e b).1 hb)⟩
 | .sl s n cs,u,f,g,h,e => by
  obtain ⟨a,c,us,G,f',rfl,ho,hl,hn,hf⟩ := h
  exact ⟨a,c,us,G,f',rfl,ho,hl,hn,fun b => (e b).trans (hf b)⟩
theorem owL_congr {w : World} : ∀ {cs : List Cel} {us : List Value} {f g : Fp},owL w cs us f → (∀ b,g b ↔ f b) → owL w cs us g
 | [],us,f,g,h,e => ⟨h.1,fun b hb => h.2 b ((e b).1 hb)⟩
 | c :: cs,us,f,g,h,e => by
  obtain ⟨u,us',f1,f2,rfl,h1,h2,hd,hf⟩ := h
  exact ⟨u,us',f1,f2,rfl,h1,h2,hd,fun b => (e b).trans (hf b)⟩
theorem owL_at {w : World} : ∀ {cs : List Cel} {us : List Value} {fp : Fp},owL w cs us fp → ∀ {j : Nat} {c : Cel},cs[j]? = some c →
  ∃ u f,us[j]? = some u ∧ Cel.ow w c u f ∧ (∀ b,f b → fp b) ∧
   ∀ (w' : World) (c' : Cel) (u' : Value) (f' : Fp),w.heap.size ≤ w'.heap.size → Cel.ow w' c' u' f' → (∀ b,fp b → ¬ f b → w'.heap[b]? = w.heap[b]?) → (∀ b,f' b → fp b → f b) →
    owL w' (cs.set j c') (us.set j u') (fun b => f' b ∨ fp b ∧ ¬ f b)
 | [],us,fp,h,j,c,hj => by simp at hj
 | c0 :: cs,us,fp,h,0,c,hj => by
  obtain ⟨u,us',f1,f2,rfl,h1,h2,hd,hf⟩ := h
  simp at hj
  subst hj
  refine ⟨u,f1,by simp,h1,fun b hb => (hf b).2 (.inl hb),fun w' c' u' f' hs hc' he hd' => ?_⟩
  refine ⟨u',us',f',f2,by simp,hc',owL_frame hs h2 (fun b hb => he b ((hf b).2 (.inr hb)) (fun h => hd b h hb)),fun b hb hb2 => hd b (hd' b hb ((hf b).2 (.inr hb2))) hb2,fun b => ?_⟩
  constructor
  ·rintro (h | ⟨h,hn⟩)
   ·exact .inl h
   ·rcases (hf b).1 h with h | h
    ·exact absurd h hn
    ·exact .inr h
  ·rintro (h | h)
   ·exact .inl h
   ·exact .inr ⟨(hf b).2 (.inr h),fun h1 => hd b h1 h⟩
 | c0 :: cs,us,fp,h,j + 1,c,hj => by
  obtain ⟨u0,us',f1,f2,rfl,h1,h2,hd,hf⟩ := h
  obtain ⟨u,f,hu,hc,hsub,hput⟩ := owL_at h2 (j := j) (c := c) (by simpa using hj)
  refine ⟨u,f,by simpa using hu,hc,fun b hb => (hf b).2 (.inr (hsub b hb)),fun w' c' u' f' hs hc' he hd' => ?_⟩
  have hk := hput w' c' u' f' hs hc' (fun b hb hn => he b ((hf b).2 (.inr hb)) hn) (fun b hb hb2 => hd' b hb ((hf b).2 (.inr hb2)))
  refine ⟨u0,us'.set j u',f1,_,by simp,Cel.ow_frame hs h1 (fun b hb => he b ((hf b).2 (.inl hb)) (fun h => hd b hb (hsub b h))),hk,fun b hb hb2 => ?_,fun b => ?_⟩
  ·rcases hb2 with hb2 | ⟨hb2,_⟩
   ·exact hd b hb (hsub b (hd' b hb2 ((hf b).2 (.inl hb))))
   ·exact hd b hb hb2
  ·constructor
   ·rintro (h | ⟨h,hn⟩)
    ·exact .inr (.inl h)
    ·rcases (hf b).1 h with h | h
     ·exact .inl h
     ·exact .inr (.inr ⟨h,hn⟩)
   ·rintro (h | h | ⟨h,hn⟩)
    ·exact .inr ⟨(hf b).2 (.inl h),fun h' => hd b h (hsub b h')⟩
    ·exact .inl h
    ·exact .inr ⟨(hf b).2 (.inr h),hn⟩
theorem owL_append {w : World} : ∀ {cs ds : List Cel} {us vs : List Value} {f g : Fp},owL w cs us f → owL w ds vs g → (∀ b,f b → ¬ g b) → owL w (cs ++ ds) (us ++ vs) (fun b => f b ∨ g b)
 | [],ds,us,vs,f,g,h,k,hd => by
  rw [h.1]
  exact owL_congr k (fun b => ⟨fun hb => hb.elim (fun hb => absurd hb (h.2 b)) id,.inr⟩)
 | c :: cs,ds,us,vs,f,g,h,k,hd => by
  obtain ⟨u,us',f1,f2,rfl,h1,h2,hd1,hf⟩ := h
  refine ⟨u,us' ++ vs,f1,_,rfl,h1,owL_append h2 k (fun b hb => hd b ((hf b).2 (.inr hb))),fun b hb hb2 => ?_,fun b => ?_⟩
  ·rcases hb2 with hb2 | hb2
   ·exact hd1 b hb hb2
   ·exact hd b ((hf b).2 (.inl hb)) hb2
  ·show f b ∨ g b ↔ _
   rw [hf b]
   constructor
   ·rintro ((h | h) | h)
    ·exact .inl h
    ·exact .inr (.inl h)
    ·exact .inr (.inr h)
   ·rintro (h | h | h)
    ·exact .inl (.inl h)
    ·exact .inl (.inr h)
    ·exact .inr h
theorem owL_split {w : World} : ∀ {cs ds : List Cel} {ws : List Value} {fp : Fp},owL w (cs ++ ds) ws fp → ∃ us vs f g,ws = us ++ vs ∧ owL w cs us f ∧ owL w ds vs g ∧ (∀ b,f b → ¬ g b) ∧ ∀ b,fp b ↔ f b ∨ g b
 | [],ds,ws,fp,h => ⟨[],ws,fun _ => False,fp,rfl,⟨rfl,fun _ h => h⟩,h,fun _ h => absurd h id,fun b => ⟨.inr,fun h => h.elim False.elim id⟩⟩
 | c :: cs,ds,ws,fp,h => by
  obtain ⟨u,us',f1,f2,rfl,h1,h2,hd,hf⟩ := h
  obtain ⟨us,vs,f,g,rfl,k1,k2,hd2,hf2⟩ := owL_split h2
  refine ⟨u :: us,vs,fun b => f1 b ∨ f b,g,rfl,⟨u,us,f1,f,rfl,h1,k1,fun b hb hb2 => hd b hb ((hf2 b).2 (.inl hb2)),fun b => Iff.rfl⟩,k2,fun b hb hg => ?_,fun b => ?_⟩
  ·rcases hb with hb | hb
   ·exact hd b hb ((hf2 b).2 (.inr hg))
   ·exact hd2 b hb hg
  ·rw [hf b,hf2 b,or_assoc]
end Go.Proofs.Ytlnmdfgcpfbleaa
namespace Go.Proofs.Ytlnmdfgcpfbleaa
set_option linter.unusedVariables false
set_option linter.unusedSimpArgs false
open Go.RowKit Go.Sort
structure Wrt (f : Fp) (w w' : World) : Prop where
 os : w'.os = w.os
 tape : w'.tape = w.tape
 output : w'.output = w.output
 size : w.heap.size ≤ w'.heap.size
 block : ∀ b,b < w.heap.size → ¬ f b → w'.heap[b]? = w.heap[b]?
theorem Wrt.refl (f : Fp) (w : World) : Wrt f w w := ⟨rfl,rfl,rfl,Nat.le_refl _,fun _ _ _ => rfl⟩
theorem Wrt.mono {f g : Fp} {w w' : World} (h : Wrt f w w') (hs : ∀ b,b < w.heap.size → f b → g b) : Wrt g w w' := ⟨h.os,h.tape,h.output,h.size,fun b hb hn => h.block b hb (fun hf => hn (hs b hb hf))⟩
theorem Wrt.trans {f g : Fp} {w w1 w2 : World} (h : Wrt f w w1) (k : Wrt g w1 w2) (hs : ∀ b,b < w.heap.size → g b → f b) : Wrt f w w2 :=
 ⟨k.os.trans h.os,k.tape.trans h.tape,k.output.trans h.output,Nat.le_trans h.size k.size,fun b hb hn => (k.block b (Nat.lt_of_lt_of_le hb h.size) (fun hg => hn (hs b hb hg))).trans (h.block b hb hn)⟩
theorem Wrt.of_below {f : Fp} {w w' : World} (h : Below w.heap.size w w') : Wrt f w w' := ⟨h.os,h.tape,h.output,h.size,fun b hb _ => h.block b hb⟩
theorem Wrt.below {f : Fp} {w w' v : World} {B : Nat} (h : Wrt f w w') (hv : Below B v w) (hB : B ≤ w.heap.size) (hf : ∀ b,f b → B ≤ b) : Below B v w' :=
 ⟨h.os.trans hv.os,h.tape.trans hv.tape,h.output.trans hv.output,Nat.le_trans hv.size h.size,fun b hb => (h.block b (by omega) (fun k => by have := hf b k;omega)).trans (hv.block b hb)⟩
theorem Wrt.of_grown {w w' : World} {G : Option Nat} (h : w.grownBy w' G) : Wrt (fun b => G = some b) w w' := ⟨h.os,h.tape,h.output,h.size,fun b hb hn => h.block b hb (fun e => hn e.symm)⟩
theorem Wrt.set (w : World) (g o : Nat) (v : Value) : Wrt (fun b => b = g) w (w.setCell ⟨g,o,none⟩ v) := (Wrt.of_grown (grown_set (grown_refl w (some g)) o v)).mono (fun b _ h => by simpa using h.symm)
theorem Cel.ow_wrt {w w' : World} {c : Cel} {u : Value} {fp f : Fp} (h : Cel.ow w c u fp) (hw : Wrt f w w') (hd : ∀ b,fp b → ¬ f b) : Cel.ow w' c u fp := Cel.ow_frame hw.size h (fun b hb => hw.block b (Cel.ow_lt h b hb) (hd b hb))
theorem owL_wrt {w w' : World} {cs : List Cel} {us : List Value} {fp f : Fp} (h : owL w cs us fp) (hw : Wrt f w w') (hd : ∀ b,fp b → ¬ f b) : owL w' cs us fp := owL_frame hw.size h (fun b hb => hw.block b (owL_lt h b hb) (hd b hb))
def pl (vs : List Value) : List Cel := vs.map Cel.v
theorem owL_pl {w : World} : ∀ {vs us : List Value} {fp : Fp},owL w (pl vs) us fp ↔ us = vs ∧ ∀ b,¬ fp b
 | [],us,fp => Iff.rfl
 | v :: vs,us,fp => by
  constructor
  ·rintro ⟨u,us',f1,f2,rfl,⟨rfl,h1⟩,h2,hd,hf⟩
   have h3 := owL_pl.1 h2
   exact ⟨by rw [h3.1],fun b hb => ((hf b).1 hb).elim (h1 b) (h3.2 b)⟩
  ·rintro ⟨rfl,h⟩
   exact ⟨v,vs,fp,fp,rfl,⟨rfl,h⟩,owL_pl.2 ⟨rfl,h⟩,fun b hb => absurd hb (h b),fun b => ⟨.inl,fun h => h.elim id id⟩⟩
theorem vwL_pl {w : World} : ∀ {vs us : List Value},vwL w (pl vs) us ↔ us = vs
 | [],us => Iff.rfl
 | v :: vs,us => by
  constructor
  ·rintro ⟨u,us',rfl,rfl,h2⟩
   rw [vwL_pl.1 h2]
  ·rintro rfl
   exact ⟨v,vs,rfl,rfl,vwL_pl.2 rfl⟩
def icl (xs : List Int) : Cel := .sl 1 xs.length (pl (xs.map (Value.int .i64)))
theorem ow_icl {w : World} {xs : List Int} {u : Value} {fp : Fp} : Cel.ow w (icl xs) u fp ↔ ∃ a c G,u = .slice a xs.length c ∧ OSo w 1 a xs.length c (xs.map (Value.int .i64)) G ∧ ∀ b,fp b ↔ G = some b := by
 constructor
 ·rintro ⟨a,c,us,G,f,rfl,ho,hl,hn,hf⟩
  obtain ⟨rfl,h0⟩ := owL_pl.1 hl
  exact ⟨a,c,G,rfl,ho,fun b => (hf b).trans ⟨fun h => h.elim id (fun h => absurd h (h0 b)),.inl⟩⟩
 ·rintro ⟨a,c,G,rfl,ho,hf⟩
  exact ⟨a,c,_,G,fun _ => False,rfl,ho,owL_pl.2 ⟨rfl,fun _ h => h⟩,fun _ _ h => h,fun b => (hf b).trans ⟨.inl,fun h => h.elim id False.elim⟩⟩
theorem vw_icl {w : World} {xs : List Int} {u : Value} (h : Cel.vw w (icl xs) u) (hf : Fits xs) : ∃ a c,u = .slice a xs.length c ∧ Vec w a xs.length xs ∧ xs.length ≤ c ∧ c ≤ maxLen := by
 obtain ⟨a,c,us,rfl,h1,h2,h3,h,hl⟩ := h
 have e := vwL_pl.1 hl
 subst e
 refine ⟨a,c,rfl,⟨rfl,hf, ?_⟩,h1,h2⟩
 rcases h with h | ⟨b,off,ha,hc⟩
 ·exact .inl h
 ·refine .inr ⟨b,off,ha,fun i hi => ?_⟩
  rw [hc i (by omega)]
  simp [el,hi]
theorem vw_of_vec {w : World} {a : Option Addr} {c : Nat} {xs : List Int} (h : Vec w a xs.length xs) (h1 : xs.length ≤ c) (h2 : c ≤ maxLen) : Cel.vw w (icl xs) (.slice a xs.length c) := by
 refine ⟨a,c,_,rfl,h1,h2,by simp, ?_,vwL_pl.2 rfl⟩
 rcases h.2.2 with h0 | ⟨b,off,ha,hc⟩
 ·exact .inl h0
 ·refine .inr ⟨b,off,ha,fun i hi => ?_⟩
  have hi' : i < xs.length := by omega
  rw [hc i hi']
  simp [el,hi']
theorem OSo.oi {w : World} {a : Option Addr} {c : Nat} {xs : List Int} {G : Option Nat} (h : OSo w 1 a xs.length c (xs.map (Value.int .i64)) G) : (xs = [] ∧ c = 0 ∧ G = none) ∨ ∃ g off,a = some ⟨g,off,none⟩ ∧ OI w g off xs.length c xs ∧ G = some g := by
 rcases h with ⟨h1,h2,h3,h4,_⟩ | h
 ·exact .inl ⟨List.eq_nil_of_length_eq_zero h1,h2,h4⟩
 ·exact .inr h
theorem OSo.slc {w : World} {a : Option Addr} {c : Nat} {xs : List Int} {G : Option Nat} (h : OSo w 1 a xs.length c (xs.map (Value.int .i64)) G) : SlC w a c xs := by
 rcases h.oi with ⟨h1,h2,_⟩ | ⟨g,off,h1,h2,_⟩
 ·exact .inl ⟨h1,by omega⟩
 ·exact .inr ⟨g,off,h1,h2⟩
def NewO (w w' : World) (c : Cel) (v : Value) : Prop := ∃ fp,Cel.ow w' c v fp ∧ (∀ b,fp b → w.heap.size ≤ b) ∧ Below w.heap.size w w'
def NewL (w w' : World) (cs : List Cel) (vs : List Value) : Prop := ∃ fp,owL w' cs vs fp ∧ (∀ b,fp b → w.heap.size ≤ b) ∧ Below w.heap.size w w'
theorem getElem?_flatten_replicate {α : Type} (l : List α) : ∀ (n i : Nat),i < n * l.length → (List.replicate n l).flatten[i]? = l[i % l.length]?
 | 0,i,h => by simp at h
 | n + 1,i,h => by
  rw [List.replicate_succ,List.flatten_cons]
  by_cases hi : i < l.length
  ·rw [List.getElem?_append_left hi,Nat.mod_eq_of_lt hi]
  ·have hl : l.length ≤ i := by omega
   rw [List.getElem?_append_right hl,getElem?_flatten_replicate l n (i - l.length) (by rw [Nat.add_mul] at h;omega),Nat.mod_eq_sub_mod hl]
theorem osl_made (w : World) (zs : Array Value) (s n : Nat) (e : TypeId) (hz : zs.size = s) (hs : 0 < s) (hn : n ≤ maxLen) : OSl (w.alloc (.cells (madeCells zs (n * s)) e)) s w.heap.size 0 n n (List.replicate n zs.toList).flatten := by
 have hb : (w.alloc (.cells (madeCells zs (n * s)) e)).heap[w.heap.size]? = some (.cells (madeCells zs (n * s)) e (0,0)) := heap_alloc_new w _
 have hc : ∀ i,i < n * s → (madeCells zs (n * s))[i]? = zs.toList[i % s]? := fun i hi => by
  have hm : i % s < zs.size := by rw [hz];exact Nat.mod_lt _ hs
  have hm' : i % s < zs.toList.length := by simpa using hm
  rw [List.getElem?_eq_getElem hm']
  simp [madeCells,hi,hz]
  exact getElem!_pos zs (i % s) hm
 refine ⟨by simp [hz],Nat.le_refl _,hn,by simp,fun i hi => ?_,fun i hi => ?_,fun i hi => ?_⟩
 ·rw [getElem?_flatten_replicate _ _ _ (by simp [hz];omega)]
  simp only [World.cell?,hb,Nat.zero_add]
  rw [hc i hi]
  simp [hz]
 ·simp only [World.cell?,hb,Nat.zero_add]
  have : i < (madeCells zs (n * s)).size := by rw [size_madeCells];exact hi
  simp [this]
 ·unfold World.frozen?
  rw [hb]
  simp
theorem owL_zeros {w : World} {zc : List Cel} {zs : List Value} {f0 : Fp} (h : owL w zc zs f0) (h0 : ∀ b,¬ f0 b) : ∀ n,owL w (List.replicate n zc).flatten (List.replicate n zs).flatten (fun _ => False)
 | 0 => ⟨rfl,fun _ h => h⟩
 | n + 1 => by
  rw [List.replicate_succ,List.flatten_cons,List.replicate_succ,List.flatten_cons]
  exact owL_congr (owL_append h (owL_zeros h h0 n) (fun _ _ h => h)) (fun b => ⟨False.elim,fun h => h.elim (h0 b) id⟩)
theorem ow_appended {w w' : World} {s n m : Nat} {a' : Option Addr} {c' : Nat} {us news : List Value} {G G' : Option Nat} {cs ds : List Cel} {f fd : Fp}
  (hl : owL w cs us f) (hd : owL w ds news fd) (hG : ∀ b,G = some b → ¬ f b) (hGd : ∀ b,G = some b → ¬ fd b) (hdis : ∀ b,f b → ¬ fd b)
  (ho : OSo w' s a' (n + m) c' (us ++ news) G') (hg : w.grownBy w' G) (hat : G' = G ∨ G' = some w.heap.size) :
  Cel.ow w' (.sl s (n + m) (cs ++ ds)) (.slice a' (n + m) c') (fun b => G' = some b ∨ f b ∨ fd b) := by
 have hw := Wrt.of_grown hg
 have h1 := owL_wrt hl hw (fun b hb e => hG b e hb)
 have h2 := owL_wrt hd hw (fun b hb e => hGd b e hb)
 refine ⟨a',c',us ++ news,G',fun b => f b ∨ fd b,rfl,ho,owL_append h1 h2 hdis,fun b e hb => ?_,fun b => Iff.rfl⟩
 rcases hat with h | h
 ·rw [h] at e
  exact hb.elim (hG b e) (hGd b e)
 ·rw [h] at e
  cases e
  rcases hb with hb | hb
  ·exact absurd (owL_lt hl _ hb) (Nat.lt_irrefl _)
  ·exact absurd (owL_lt hd _ hb) (Nat.lt_irrefl _)
theorem flat_len {α : Type} {f : α → List Cel} {s : Nat} (hs : ∀ x,(f x).length = s) : ∀ (L : List α),(L.flatMap f).length = L.length * s
 | [] => by simp
 | y :: L => by rw [List.flatMap_cons,List.length_append,hs,flat_len hs L,List.length_cons,Nat.add_mul];omega
end Go.Proofs.Ytlnmdfgcpfbleaa
namespace Go.Proofs.Ytlnmdfgcpfbleaa
set_option linter.unusedVariables false
set_option linter.unusedSimpArgs false
open Go.RowKit Go.Sort
structure Same (X w : World) : Prop where
 heap : X.heap = w.heap
 os : X.os = w.os
 tape : X.tape = w.tape
 output : X.output = w.output
theorem Same.below {X w : World} (h : Same X w) : Below w.heap.size w X := ⟨h.os,h.tape,h.output,by rw [h.heap];exact Nat.le_refl _,fun b _ => by rw [h.heap]⟩
theorem wpList_append_of {P : Program} {w : World} {ops : Array Oper} {rest : List Oper} {o : Oper} {a : Act} {Q : Exit → Act → World → Prop} (hgd : o.guard = none) (s x : Operand) (t tn : TypeId)
  (ho : o.op = .call { callee := .builtin .append,args := #[s,x],argTypes := #[t,tn] }) (vs vx : Value) (hs : a.eval s = vs) (hx : a.eval x = vx)
  {W : World} {R : Value → World → Prop} (hA : ∀ X,Same X W → ∃ v' w',(Builtin.append_ #[t,tn] o.type #[vs,vx]).run P X = .ok v' w' ∧ R v' w') (hS : Same w W) (h : ∀ v' w',R v' w' → wpList P ops Q rest (a.put o.dst v') w') : wpList P ops Q (o :: rest) a w := by
 obtain ⟨v',w',hr,hR⟩ := hA w hS
 exact wpList_plain hgd fun _ hK => Lib.wp_append_run w s x t tn ho vs vx hs hx v' w' hr (hK _ _ (h v' w' hR))
theorem Bx.setC {w : World} {B : Nat} {T : TypeId} {cs : Array Value} (h : Bx w B T cs) (i : Nat) (v : Value) : Bx (w.setCell ⟨B,i,none⟩ v) B T (cs.setIfInBounds i v) := by
 have hh : w.heap[B]? = some (.cells cs T (0,0)) := h
 unfold Bx
 simp only [World.setCell]
 rw [Array.getElem?_modify,hh]
 simp
theorem Bx.wrt {w w' : World} {B : Nat} {T : TypeId} {cs : Array Value} {f : Fp} (h : Bx w B T cs) (hw : Wrt f w w') (hn : ¬ f B) : Bx w' B T cs := (hw.block B h.lt hn).trans h
theorem Bx.far {w : World} {B g i : Nat} {T : TypeId} {cs : Array Value} (h : Bx w B T cs) (hne : B ≠ g) (v : Value) : Bx (w.setCell ⟨g,i,none⟩ v) B T cs := h.wrt (Wrt.set w g i v) hne
theorem ow_push {P : Program} {w : World} (t ty e : TypeId) (i : TypeInfo) (z : Value) (s bytes : Nat) (ht : P.underlying t = some (.slice e)) (hi : P.info? e = some i) (hz : i.zero = some z)
  (hsize : i.size = s) (hby : i.bytes = bytes) (hzs : z.cells.size = s) (hsz : 0 < s)
  {a : Option Addr} {n c : Nat} {cs ds : List Cel} {fp fd : Fp} (hO : Cel.ow w (.sl s n cs) (.slice a n c) fp) {vals : List Value} (hd : owL w ds vals fd) (hdis : ∀ b,fp b → ¬ fd b) (hl : vals.length = s) (h1 : ∀ u ∈ vals,u.oneCell' = true)
  (nb : Nat) (T : TypeId) (hnb : w.heap[nb]? = some (.cells vals.toArray T (0,0))) (h63 : n + 1 ≤ maxLen) (hbytes : (n + 1) * bytes ≤ 140737488355328) :
  ∃ a' c' w' fp',(Builtin.append_ #[t,t] ty #[.slice a n c,.slice (some ⟨nb,0,none⟩) 1 1]).run P w = .ok (.slice a' (n + 1) c') w' ∧ Cel.ow w' (.sl s (n + 1) (cs ++ ds)) (.slice a' (n + 1) c') fp' ∧ Wrt fp w w' ∧ ∀ b,fp' b → fp b ∨ fd b ∨ b = w.heap.size := by
 obtain ⟨a0,c0,us,G,f,e0,ho,hcs,hn,hf⟩ := hO
 cases e0
 obtain ⟨a',c',G',w',hr,ho',hg,hat⟩ := run_append_oo (P := P) w t ty e i z s bytes ht hi hz hsize hby hzs hsz a n c us G ho (some ⟨nb,0,none⟩) 1 1 vals (by omega) (.inr ⟨_,rfl,World.news_of_block hnb⟩) h1 h63 hbytes
 refine ⟨a',c',w',_,hr,ow_appended hcs hd hn (fun b hb => hdis b ((hf b).2 (.inl hb))) (fun b hb => hdis b ((hf b).2 (.inr hb))) ho' hg hat,(Wrt.of_grown hg).mono (fun b _ hb => (hf b).2 (.inl hb)),fun b hb => ?_⟩
 rcases hb with hb | hb | hb
 ·rcases hat with h | h
  ·exact .inl ((hf b).2 (.inl (h ▸ hb)))
  ·rw [h] at hb;cases hb;exact .inr (.inr rfl)
 ·exact .inl ((hf b).2 (.inr hb))
 ·exact .inr (.inl hb)
end Go.Proofs.Ytlnmdfgcpfbleaa
namespace Go.Proofs.Ytlnmdfgcpfbleaa
set_option linter.unusedVariables false
set_option linter.unusedSimpArgs false
open Go.RowKit Go.Sort
def Iv (lo hi : Nat) : Fp := fun b => lo ≤ b ∧ b < hi
def It (w : World) (cs : List Cel) (vs : List Value) (lo hi : Nat) : Prop := ∃ f,owL w cs vs f ∧ ∀ b,f b → lo ≤ b ∧ b < hi
theorem It.below {w w' : World} {cs : List Cel} {vs : List Value} {lo hi : Nat} (h : It w cs vs lo hi) (hb : Below w.heap.size w w') : It w' cs vs lo hi := by
 obtain ⟨f,h1,h2⟩ := h
 exact ⟨f,owL_below h1 hb,h2⟩
theorem It.wrt {w w' : World} {cs : List Cel} {vs : List Value} {lo hi : Nat} {f : Fp} (h : It w cs vs lo hi) (hw : Wrt f w w') (hd : ∀ b,f b → b < lo ∨ hi ≤ b) : It w' cs vs lo hi := by
 obtain ⟨g,h1,h2⟩ := h
 refine ⟨g,owL_wrt h1 hw (fun b hb hf => ?_),h2⟩
 have := h2 b hb
 rcases hd b hf with h | h <;> omega
theorem It.far {w w' : World} {cs : List Cel} {vs : List Value} {lo hi l2 h2 : Nat} (h : It w cs vs lo hi) (hw : Wrt (Iv l2 h2) w w') (hd : h2 ≤ lo ∨ hi ≤ l2) : It w' cs vs lo hi := h.wrt hw (fun b hb => by have := hb.1;have := hb.2;omega)
theorem It.vw {w : World} {cs : List Cel} {vs : List Value} {lo hi : Nat} (h : It w cs vs lo hi) : vwL w cs vs := by
 obtain ⟨f,h1,_⟩ := h
 exact owL_vw h1
theorem It.of_new {w w' : World} {cs : List Cel} {vs : List Value} (h : NewL w w' cs vs) : It w' cs vs w.heap.size w'.heap.size := by
 obtain ⟨f,h1,h2,_⟩ := h
 exact ⟨f,h1,fun b hb => ⟨h2 b hb,owL_lt h1 b hb⟩⟩
theorem newL_one {w w' : World} {c : Cel} {v : Value} (h : NewO w w' c v) : NewL w w' [c] [v] := by
 obtain ⟨f,h1,h2,h3⟩ := h
 exact ⟨f,⟨v,[],f,fun _ => False,rfl,h1,⟨rfl,fun _ h => h⟩,fun _ _ h => h,fun b => by simp⟩,h2,h3⟩
theorem It.of_newO {w w' : World} {c : Cel} {v : Value} (h : NewO w w' c v) : It w' [c] [v] w.heap.size w'.heap.size := It.of_new (newL_one h)
theorem owL_one {w : World} {c : Cel} {v : Value} {f : Fp} : owL w [c] [v] f ↔ Cel.ow w c v f := by
 constructor
 ·rintro ⟨u,us,f1,f2,e,h1,h2,hd,hf⟩
  cases e
  exact Cel.ow_congr h1 (fun b => (hf b).trans ⟨fun h => h.elim id (fun h => absurd h (h2.2 b)),.inl⟩)
 ·intro h
  exact ⟨v,[],f,fun _ => False,rfl,h,⟨rfl,fun _ h => h⟩,fun _ _ h => h,fun b => by simp⟩
theorem It.ow1 {w : World} {c : Cel} {v : Value} {lo hi : Nat} (h : It w [c] [v] lo hi) : ∃ f,Cel.ow w c v f ∧ ∀ b,f b → lo ≤ b ∧ b < hi := by
 obtain ⟨f,h1,h2⟩ := h
 exact ⟨f,owL_one.1 h1,h2⟩
theorem It.of1 {w : World} {c : Cel} {v : Value} {lo hi : Nat} {f : Fp} (h : Cel.ow w c v f) (hf : ∀ b,f b → lo ≤ b ∧ b < hi) : It w [c] [v] lo hi := ⟨f,owL_one.2 h,hf⟩
theorem Bx.iv {w w' : World} {B : Nat} {T : TypeId} {cs : Array Value} {lo hi : Nat} (h : Bx w B T cs) (hw : Wrt (Iv lo hi) w w') (hn : B < lo ∨ hi ≤ B) : Bx w' B T cs := h.wrt hw (fun k => by have := k.1;have := k.2;omega)
theorem below_iv {w w' v : World} {B lo hi : Nat} (hw : Wrt (Iv lo hi) w w') (hb : Below B v w) (hs : B ≤ w.heap.size) (hl : B ≤ lo) : Below B v w' := hw.below hb hs (fun b k => by have := k.1;omega)
end Go.Proofs.Ytlnmdfgcpfbleaa