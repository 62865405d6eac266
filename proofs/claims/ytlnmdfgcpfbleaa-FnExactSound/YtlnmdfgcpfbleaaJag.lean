/-
  Texts in one: Ivk Rzi Rzj Rzk Rzu Rzv Nmc Pga.
-/
import Derived.Test.YtlnmdfgcpfbleaaJab
import Derived.Test.YtlnmdfgcpfbleaaJaa
import Derived.Test.YtlnmdfgcpfbleaaJac
import Derived.Test.YtlnmdfgcpfbleaaJaf
import Derived.BigQuiet
import Derived.Stop.Asserts
namespace Go.Proofs.Ytlnmdfgcpfbleaa
set_option linter.unusedVariables false
set_option linter.unusedSimpArgs false
open Go.RowKit Go.Sort
set_option maxHeartbeats 400000 in
theorem isW14_any (n last : Int) (w : World) : Calls Try.prog 114 #[.int .i64 n,.int .i64 last] w fun e w' => e = .returned (.bool (inB n 0 last)) ∧ w' = w := by
 by_cases h0 : (0 : Int) ≤ n
 ·have H : Hid (inB n 0 last = decide (n ≤ last)) := by rw [Hid,inB];simp [h0]
  go_enter Try.func114,Try.ntmps114
  go_wp2
  go_ret
  exact ⟨ret_bool (by rw [H.out]),rfl⟩
 ·have H : Hid (inB n 0 last = false) := by rw [Hid,inB];simp [h0]
  go_enter Try.func114,Try.ntmps114
  go_wp2
  go_ret
  exact ⟨ret_bool (by rw [H.out]),rfl⟩
set_option maxHeartbeats 800000 in
theorem rw14_any (a : Option Addr) (len cap : Nat) (B : Int) (xs : List Int) (w : World) (hv : Vec w a len xs) (hm : len ≤ maxLen) :
  Calls Try.prog 117 #[.slice a len cap,.int .i64 (B - 1)] w fun e w' => e = .returned (.bool (decide (okRow B xs))) ∧ w' = w := by
 unfold maxLen at hm
 have HL : Hid (xs.length = len) := hv.1
 have hc := hv.2.2
 clear hv
 go_enter Try.func117,Try.ntmps117
 go_wp2
 go_loop [9] (fun i => ∃ k : Nat,k ≤ len ∧ i = .int .i64 k ∧ (∀ j,j < k → 0 ≤ el xs j ∧ el xs j ≤ B - 1) ∧ ∀ j,j + 1 < k → el xs j < el xs (j + 1)) (fun i => len - (intOf i).toNat)
 case atStart => exact ⟨0,Nat.zero_le _,rfl,fun j hj => by omega,fun j hj => by omega⟩
 case round =>
  obtain ⟨k,hk,rfl,hin,hri⟩ := hrel
  have HI : Hid (∀ j,j < k → 0 ≤ el xs j ∧ el xs j ≤ B - 1) := hin
  have HR : Hid (∀ j,j + 1 < k → el xs j < el xs (j + 1)) := hri
  clear hin hri
  by_cases hlt : k < len
  ·rcases hc with h0 | ⟨b,off,rfl,hc⟩
   ·omega
   have hck := hc k hlt
   have k0 : (0 : Int) ≤ (k : Int) := by omega
   have k1 : (k : Int) < (len : Int) := by omega
   cases e4 : inB (el xs k) 0 (B - 1) with
   | false =>
    have HF : Hid (decide (okRow B xs) = false) := decide_eq_false (fun h => by
     have := h.1 k (by rw [HL.out];exact hlt)
     rw [inB7.2 this] at e4
     cases e4)
    go_wp2_with (go_at_call 114;refine (isW14_any _ _ _).mono ?_;rintro e w' ⟨rfl,hw'⟩;rw [hw'];clear hw')
    go_ret
    exact ⟨ret_bool (by rw [HF.out]),rfl⟩
   | true =>
    have HX : Hid (0 ≤ el xs k ∧ el xs k ≤ B - 1) := inB7.1 e4
    by_cases hk0 : 0 < k
    ·obtain ⟨q,rfl⟩ : ∃ q,k = q + 1 := ⟨k - 1,by omega⟩
     have hcq := hc q (by omega)
     have hg : decide (((q + 1 : Nat) : Int) > 0) = true := decide_eq_true (by omega)
     have g0 : (0 : Int) < ((q + 1 : Nat) : Int) := by omega
     have hq : wrap64 (((q + 1 : Nat) : Int) - 1) = (q : Int) := by unfold wrap64;omega
     have q0 : (0 : Int) ≤ (q : Int) := by omega
     have q1 : (q : Int) < (len : Int) := by omega
     by_cases hx : el xs q < el xs (q + 1)
     ·have hd : decide (el xs (q + 1) ≤ el xs q) = false := by simp;omega
      have HY : Hid (el xs q < el xs (q + 1)) := hx
      clear hx
      go_wp2_with (go_at_call 114;refine (isW14_any _ _ _).mono ?_;rintro e w' ⟨rfl,hw'⟩;rw [hw'];clear hw')
      go_round
      case rel => exact ⟨q + 1 + 1,by omega,by go_num,fun j hj => by
       rcases Nat.lt_succ_iff_lt_or_eq.1 hj with h | h
       ·exact HI.out j h
       ·rw [h];exact HX.out,fun j hj => by
       rcases Nat.lt_succ_iff_lt_or_eq.1 hj with h | h
       ·exact HR.out j h
       ·have : j = q := by omega
        rw [this];exact HY.out⟩
      case measure => simp [intOf];omega
     ·have hd : decide (el xs (q + 1) ≤ el xs q) = true := by simp;omega
      have HF : Hid (decide (okRow B xs) = false) := decide_eq_false (fun h => hx (h.2 q (by rw [HL.out];omega)))
      clear hx
      go_wp2_with (go_at_call 114;refine (isW14_any _ _ _).mono ?_;rintro e w' ⟨rfl,hw'⟩;rw [hw'];clear hw')
      go_ret
      exact ⟨ret_bool (by rw [HF.out]),rfl⟩
    ·obtain rfl : k = 0 := by omega
     rw [Nat.add_zero] at hck
     go_wp2_with (go_at_call 114;refine (isW14_any _ _ _).mono ?_;rintro e w' ⟨rfl,hw'⟩;rw [hw'];clear hw')
     go_round
     case rel => exact ⟨1,by omega,by go_num,fun j hj => by
      obtain rfl : j = 0 := by omega
      exact HX.out,fun j hj => by omega⟩
     case measure => simp [intOf];omega
  ·have hkl : k = len := by omega
   have HF : Hid (decide (okRow B xs) = true) := decide_eq_true ⟨fun j hj => HI.out j (by rw [HL.out] at hj;omega),fun j hj => HR.out j (by rw [HL.out] at hj;omega)⟩
   subst hkl
   clear hc
   go_wp2
   go_ret
   exact ⟨ret_bool (by rw [HF.out]),rfl⟩
def IsIdx (xs : List Int) (x z : Int) : Prop := (∃ k : Nat,k < xs.length ∧ z = (k : Int) ∧ el xs k = x ∧ ∀ j,j < k → el xs j ≠ x) ∨ (z = -1 ∧ ∀ j,j < xs.length → el xs j ≠ x)
theorem IsIdx.mem {xs : List Int} {x z : Int} (h : IsIdx xs x z) : decide (0 ≤ z) = decide (x ∈ xs) := by
 rcases h with ⟨k,hk,rfl,rfl,_⟩ | ⟨rfl,h⟩
 ·rw [decide_eq_true (el_in hk),decide_eq_true (by omega)]
 ·rw [decide_eq_false (by omega),decide_eq_false (fun hx => by obtain ⟨i,hi,e⟩ := el_of hx;exact h i hi e)]
set_option maxHeartbeats 800000 in
theorem idx14_any (a : Option Addr) (cap : Nat) (xs : List Int) (x : Int) (w : World) (hv : Vec w a xs.length xs) (hm : xs.length ≤ maxLen) :
  Calls Try.prog 146 #[.slice a xs.length cap,.int .i64 x] w fun e w' => (∃ z : Int,e = .returned (.int .i64 z) ∧ IsIdx xs x z) ∧ w' = w := by
 unfold maxLen at hm
 have hc := hv.2.2
 clear hv
 go_enter Try.func146,Try.ntmps146
 go_wp2
 go_loop [8] (fun i => ∃ k : Nat,k ≤ xs.length ∧ i = .int .i64 k ∧ ∀ j,j < k → el xs j ≠ x) (fun i => xs.length - (intOf i).toNat)
 case atStart => exact ⟨0,Nat.zero_le _,rfl,fun j hj => by omega⟩
 case round =>
  obtain ⟨k,hk,rfl,hall⟩ := hrel
  have HA : Hid (∀ j,j < k → el xs j ≠ x) := hall
  clear hall
  by_cases hlt : k < xs.length
  ·rcases hc with h0 | ⟨b,off,rfl,hc⟩
   ·omega
   have hck := hc k hlt
   clear hc
   have k0 : (0 : Int) ≤ (k : Int) := by omega
   have k1 : (k : Int) < (xs.length : Int) := by omega
   by_cases hx : el xs k = x
   ·have HX : Hid (IsIdx xs x (k : Int)) := .inl ⟨k,hlt,rfl,hx,HA.out⟩
    have hq : (x == el xs k) = true := by simp [hx]
    clear hx
    generalize el xs k = E at *
    go_wp2
    go_ret
    exact ⟨⟨_,rfl,HX.out⟩,rfl⟩
   ·have HX : Hid (∀ j,j < k + 1 → el xs j ≠ x) := fun j hj => by
     by_cases e : j = k
     ·rw [e];exact hx
     ·exact HA.out j (by omega)
    have hq : (x == el xs k) = false := by simp [Ne.symm hx]
    clear hx
    generalize el xs k = E at *
    go_wp2
    go_round
    case rel => exact ⟨k + 1,by omega,by go_num,HX.out⟩
    case measure => simp [intOf];omega
  ·have k1 : ¬ ((k : Int) < (xs.length : Int)) := by omega
   obtain rfl : k = xs.length := by omega
   clear hc
   go_wp2
   go_ret
   exact ⟨⟨_,rfl,.inr ⟨rfl,HA.out⟩⟩,rfl⟩
set_option maxHeartbeats 400000 in
theorem con14_any (a : Option Addr) (cap : Nat) (xs : List Int) (x : Int) (w : World) (hv : Vec w a xs.length xs) (hm : xs.length ≤ maxLen) :
  Calls Try.prog 138 #[.slice a xs.length cap,.int .i64 x] w fun e w' => e = .returned (.bool (decide (x ∈ xs))) ∧ w' = w := by
 have hI := idx14_any a cap xs x w hv hm
 clear hv
 go_enter Try.func138,Try.ntmps138
 go_wp2_with (go_at_call 146;refine hI.mono ?_;rintro e w' ⟨⟨z,rfl,hz⟩,hw'⟩;rw [hw'];clear hw';have HZ : Hid (IsIdx xs x z) := hz;clear hz)
 go_ret
 exact ⟨ret_bool (by rw [← HZ.out.mem]),rfl⟩
end Go.Proofs.Ytlnmdfgcpfbleaa
namespace Go.Proofs.Ytlnmdfgcpfbleaa
set_option linter.unusedVariables false
set_option linter.unusedSimpArgs false
open Go.RowKit Go.Sort
set_option maxHeartbeats 400000 in
theorem isRl_any (n : Int) (w : World) : Calls Try.prog 84 #[.int .i64 n] w fun e w' => e = .returned (.bool (inB n 1 5)) ∧ w' = w := by
 by_cases h0 : (1 : Int) ≤ n
 ·have H : Hid (inB n 1 5 = decide (n ≤ 5)) := by rw [Hid,inB];simp [h0]
  go_enter Try.func84,Try.ntmps84
  go_wp2
  go_ret
  exact ⟨ret_bool (by rw [H.out]),rfl⟩
 ·have H : Hid (inB n 1 5 = false) := by rw [Hid,inB];simp [h0]
  go_enter Try.func84,Try.ntmps84
  go_wp2
  go_ret
  exact ⟨ret_bool (by rw [H.out]),rfl⟩
def txB (T : List (List UInt8)) : Bool := decide (T.length ≤ 12) && T.all (fun t => decide (t.length ≤ 20))
theorem txB_long {T : List (List UInt8)} {k : Nat} (hk : k < T.length) (h : ¬ (T.getD k []).length ≤ 20) : txB T = false := by
 have : T.all (fun t => decide (t.length ≤ 20)) = false := by
  rw [List.all_eq_false]
  refine ⟨T[k],List.getElem_mem hk, ?_⟩
  rw [List.getD_eq_getElem?_getD,List.getElem?_eq_getElem hk] at h
  simpa using h
 rw [txB,this]
 simp
theorem txB_all {T : List (List UInt8)} (h0 : T.length ≤ 12) (h : ∀ k,k < T.length → (T.getD k []).length ≤ 20) : txB T = true := by
 have : T.all (fun t => decide (t.length ≤ 20)) = true := by
  rw [List.all_eq_true]
  intro t ht
  obtain ⟨j,hj,rfl⟩ := List.mem_iff_getElem.1 ht
  have := h j hj
  rw [List.getD_eq_getElem?_getD,List.getElem?_eq_getElem hj] at this
  simpa using this
 rw [txB,decide_eq_true h0,this]
 rfl
attribute [local irreducible] sv
set_option maxHeartbeats 800000 in
theorem areTx_any (a : Option Addr) (cap : Nat) (T : List (List UInt8)) (w : World) (hv : TxS w a T) (hm : T.length ≤ maxLen) :
  Calls Try.prog 115 #[.slice a T.length cap] w fun e w' => e = .returned (.bool (txB T)) ∧ w' = w := by
 unfold maxLen at hm
 by_cases h12 : T.length ≤ 12
 ·have g12 : ¬ ((12 : Int) < (T.length : Int)) := by omega
  have H12 : Hid (T.length ≤ 12) := h12
  have HV : Hid (TxS w a T) := hv
  clear hv h12
  go_enter Try.func115,Try.ntmps115
  go_wp2
  go_loop [10] (fun i => ∃ k : Nat,k ≤ T.length ∧ i = .int .i64 k ∧ ∀ j,j < k → (T.getD j []).length ≤ 20) (fun i => T.length - (intOf i).toNat)
  case atStart => exact ⟨0,Nat.zero_le _,rfl,fun j hj => by omega⟩
  case round =>
   obtain ⟨k,hk,rfl,hall⟩ := hrel
   have HA : Hid (∀ j,j < k → (T.getD j []).length ≤ 20) := hall
   clear hall
   by_cases hlt : k < T.length
   ·rcases HV.out with h0 | ⟨b,off,rfl,hc⟩
    ·omega
    have hck := hc k hlt
    have k1 : (k : Int) < (T.length : Int) := by omega
    have k0 : (0 : Int) ≤ (k : Int) := by omega
    clear hc
    by_cases h20 : (T.getD k []).length ≤ 20
    ·have g20 : ¬ ((20 : Int) < ((T.getD k []).length : Int)) := by omega
     have HN : Hid (∀ j,j < k + 1 → (T.getD j []).length ≤ 20) := fun j hj => by
      rcases Nat.lt_succ_iff_lt_or_eq.1 hj with h1 | h1
      ·exact HA.out j h1
      ·rw [h1];exact h20
     generalize T.getD k [] = t at *
     have hz : (sv t).size = t.length := sv_size t
     clear h20
     go_wp2
     go_round
     case rel => exact ⟨k + 1,by omega,by go_num,HN.out⟩
     case measure => simp [intOf];omega
    ·have g20 : (20 : Int) < ((T.getD k []).length : Int) := by omega
     have HZ : Hid (txB T = false) := txB_long (k := k) hlt h20
     generalize T.getD k [] = t at *
     have hz : (sv t).size = t.length := sv_size t
     clear h20
     go_wp2
     go_ret
     exact ⟨ret_bool (by rw [HZ.out]),rfl⟩
   ·have k1 : ¬ ((k : Int) < (T.length : Int)) := by omega
    have HZ : Hid (txB T = true) := txB_all H12.out (fun j hj => HA.out j (by omega))
    go_wp2
    go_ret
    exact ⟨ret_bool (by rw [HZ.out]),rfl⟩
 ·have g12 : (12 : Int) < (T.length : Int) := by omega
  have HZ : Hid (txB T = false) := by rw [Hid,txB,decide_eq_false h12];rfl
  clear hv h12
  go_enter Try.func115,Try.ntmps115
  go_wp2
  go_ret
  exact ⟨ret_bool (by rw [HZ.out]),rfl⟩
theorem hi16 {x m : Int} : ∀ {xs : List Int},hiL x xs ≤ m ↔ x ≤ m ∧ ∀ y ∈ xs,y ≤ m := by
 intro xs
 induction xs generalizing x with
 | nil => simp [hiL]
 | cons y ys ih =>
  show hiL (max x y) ys ≤ m ↔ _
  rw [ih]
  simp only [List.mem_cons]
  constructor
  ·rintro ⟨h1,h2⟩
   exact ⟨by omega,fun z hz => by rcases hz with rfl | hz;omega;exact h2 z hz⟩
  ·rintro ⟨h1,h2⟩
   exact ⟨by have := h2 y (.inl rfl);omega,fun z hz => h2 z (.inr hz)⟩
theorem sm_gr {v : List Int} {n : Int} (h1 : (v.length : Int) = n) (h2 : okB v = true) : smB v n = decide (hiL (el v 0) v.tail ≤ 12) := by
 have hl := (okB_len h2).1
 rw [smB,h2,decide_eq_true h1,Bool.true_and,Bool.true_and,Bool.eq_iff_iff,decide_eq_true_eq,hi16,List.all_eq_true]
 cases v with
 | nil => simp at hl
 | cons x xs =>
  simp only [decide_eq_true_eq,List.mem_cons,List.tail_cons]
  constructor
  ·intro h
   exact ⟨h _ (.inl rfl),fun y hy => h y (.inr hy)⟩
  ·rintro ⟨h,h'⟩ y hy
   rcases hy with rfl | hy
   ·exact h
   ·exact h' y hy
set_option maxRecDepth 100000 in
set_option maxHeartbeats 800000 in
theorem areCt_any (a : Option Addr) (cap : Nat) (v : List Int) (n : Int) (w : World) (hv : Vec w a v.length v) (hcap : v.length ≤ cap) (hm : cap ≤ maxLen) :
  Calls Try.prog 116 #[.slice a v.length cap,.int .i64 n] w fun e w' => e = .returned (.bool (smB v n)) ∧ ∃ m,w' = w.drewN m := by
 have hV := vok_any a v.length cap v w hv hcap hm
 have hml : v.length ≤ maxLen := Nat.le_trans hcap hm
 unfold maxLen at hml
 by_cases hl : (v.length : Int) = n
 ·have e1 : ((v.length : Int) == n) = true := by simpa using hl
  cases hb : okB v with
  | false =>
   rw [hb] at hV
   have HZ : Hid (smB v n = false) := by rw [Hid,smB,hb];rfl
   clear hb hl hv
   go_enter Try.func116,Try.ntmps116
   go_wp2_with (go_at_call 72;refine hV.mono ?_;rintro e w' ⟨rfl,n1,rfl⟩)
   go_ret
   exact ⟨ret_bool (by rw [HZ.out]),_,rfl⟩
  | true =>
   rw [hb] at hV
   have HZ : Hid (smB v n = decide (hiL (el v 0) v.tail ≤ 12)) := sm_gr hl hb
   have h18 := okB_len hb
   clear hb hl
   obtain ⟨_,hf,hcs⟩ := hv
   have hG : Hid (∀ n,Calls Try.prog 111 #[.slice a v.length cap] (w.drewN n) fun e w' => e = .returned (.int .i64 (hiL (el v 0) v.tail)) ∧ ∃ m,w' = (w.drewN n).drewN m) := by
    intro n
    rcases hcs with h0 | ⟨b,off,rfl,hc⟩
    ·omega
    ·exact vgreatest_any b off v.length cap v _ rfl hf (fun k hk => by rw [World.cell?_drewN];exact hc k hk) (by omega) hcap hm
   clear hcs hf h18
   generalize hiL (el v 0) v.tail = G at *
   go_enter Try.func116,Try.ntmps116
   go_wp2_with (first | (go_at_call 72;refine hV.mono ?_;rintro e w' ⟨rfl,n1,rfl⟩) | (go_at_call 111;refine (hG.out _).mono ?_;rintro e w' ⟨rfl,n2,rfl⟩))
   go_ret
   exact ⟨ret_bool (by rw [HZ.out]),_,rfl⟩
 ·have e1 : ((v.length : Int) == n) = false := by simpa using hl
  have HZ : Hid (smB v n = false) := by rw [Hid,smB,decide_eq_false hl];simp
  clear hl hv hV
  go_enter Try.func116,Try.ntmps116
  go_wp2
  go_ret
  exact ⟨ret_bool (by rw [HZ.out]),0,rfl⟩
theorem sus_row (n : Int) (l : List Int) : decide (okRow n l) = susB l n := by
 rw [Bool.eq_iff_iff,decide_eq_true_eq,susB,Bool.and_eq_true,List.all_eq_true,okRow,risB,decide_eq_true_eq]
 constructor
 ·rintro ⟨h1,h2⟩
  refine ⟨fun x hx => ?_,h2⟩
  obtain ⟨j,hj,rfl⟩ := List.mem_iff_getElem.1 hx
  have := h1 j hj
  rw [el_eq hj] at this
  exact inB7.2 this
 ·rintro ⟨h1,h2⟩
  exact ⟨fun i hi => inB7.1 (h1 _ (el_mem hi)),h2⟩
end Go.Proofs.Ytlnmdfgcpfbleaa
namespace Go.Proofs.Ytlnmdfgcpfbleaa
set_option linter.unusedVariables false
set_option linter.unusedSimpArgs false
open Go.RowKit Go.Sort
def stV (A : Ra) (r : Rw) : Value := if r.rdy then .iface 150 (rwV A r) else if r.wed then .iface 151 (rwV A r) else .iface 152 (rwV A r)
def flB (r : Rw) : Bool := if r.rdy then r.wed else decide (r.by_ = 0) && decide (r.trm = [])
def lsB (r : Rw) (n : Int) : Bool := !r.rdy || (inB r.by_ 0 (n - 1) && smB r.trm n)
theorem endB_fl (r : Rw) (n : Int) : endB r n = (flB r && lsB r n) := by
 unfold endB flB lsB
 cases r.rdy <;> simp
set_option maxRecDepth 100000 in
set_option maxHeartbeats 1600000 in
theorem flag_any (A : Ra) (r : Rw) (w : World) (hm : r.trm.length ≤ maxLen) :
  Calls Try.prog 118 #[rwV A r] w fun e w' => ∃ s,e = .returned (.tuple #[s,.bool (flB r)]) ∧ (flB r = true → s = stV A r) ∧ Below w.heap.size w w' := by
 have hB0 := oneA16 w (.cells (rwC A r) 35)
 have hx := Bx.new w 35 (rwC A r)
 generalize hW : w.alloc (.cells (rwC A r) 35) = W at *
 obtain ⟨ver,txt,got,sus,wed,rdy,by_,trm⟩ := r
 obtain ⟨ta,tc,ga,gc,sa,sc,ma,mc⟩ := A
 have hw0 : w.alloc (.cells #[.int .i64 ver,.slice ta txt.length tc,.slice ga got.length gc,.slice sa sus.length sc,.bool wed,.bool rdy,.int .i64 by_,.slice ma trm.length mc] 35) = W := hW
 obtain ⟨⟨c0,c1,c2,c3⟩,c4,c5,c6,c7⟩ := Bx.r8 hx
 simp only at c0 c1 c2 c3 c4 c5 c6 c7 hm
 have HB0 : Hid (Below w.heap.size w W) := hB0
 unfold maxLen at hm
 unfold rwV rwC
 clear hx hW hB0
 simp only
 cases rdy with
 | true =>
  have HZ : Hid (flB ⟨ver,txt,got,sus,wed,true,by_,trm⟩ = wed) := by rw [Hid,flB];rfl
  go_enter Try.func118,Try.ntmps118
  go_wp2_with fail
  go_quiet (fail)
  go_wp2
  refine bodyPost_ret (v := .tuple #[.iface 150 (.agg #[.int .i64 ver,.slice ta txt.length tc,.slice ga got.length gc,.slice sa sus.length sc,.bool wed,.bool true,.int .i64 by_,.slice ma trm.length mc]),.bool wed]) (by simp [results,Try.results118,go_sem, *]) rfl ?_
  exact ⟨stV ⟨ta,tc,ga,gc,sa,sc,ma,mc⟩ ⟨ver,txt,got,sus,wed,true,by_,trm⟩,by rw [HZ.out];rfl,fun _ => rfl,belowN HB0.out⟩
 | false =>
  by_cases hy : by_ = 0
  ·have e1 : (by_ != 0) = false := by simpa using hy
   by_cases ht : trm = []
   ·have g1 : ¬ ((0 : Int) < (trm.length : Int)) := by rw [ht];simp
    have HZ : Hid (flB ⟨ver,txt,got,sus,wed,false,by_,trm⟩ = true) := by rw [Hid,flB];simp [hy,ht]
    clear hy ht
    cases wed with
    | true =>
     go_enter Try.func118,Try.ntmps118
     go_wp2
     refine bodyPost_ret (v := .tuple #[.iface 151 (.agg #[.int .i64 ver,.slice ta txt.length tc,.slice ga got.length gc,.slice sa sus.length sc,.bool true,.bool false,.int .i64 by_,.slice ma trm.length mc]),.bool true]) (by simp [results,Try.results118,go_sem, *]) rfl ?_
     exact ⟨stV ⟨ta,tc,ga,gc,sa,sc,ma,mc⟩ ⟨ver,txt,got,sus,true,false,by_,trm⟩,by rw [HZ.out];rfl,fun _ => rfl,HB0.out⟩
    | false =>
     go_enter Try.func118,Try.ntmps118
     go_wp2
     refine bodyPost_ret (v := .tuple #[.iface 152 (.agg #[.int .i64 ver,.slice ta txt.length tc,.slice ga got.length gc,.slice sa sus.length sc,.bool false,.bool false,.int .i64 by_,.slice ma trm.length mc]),.bool true]) (by simp [results,Try.results118,go_sem, *]) rfl ?_
     exact ⟨stV ⟨ta,tc,ga,gc,sa,sc,ma,mc⟩ ⟨ver,txt,got,sus,false,false,by_,trm⟩,by rw [HZ.out];rfl,fun _ => rfl,HB0.out⟩
   ·have g1 : (0 : Int) < (trm.length : Int) := by
     cases trm with
     | nil => exact absurd rfl ht
     | cons x xs => simp only [List.length_cons];omega
    have HZ : Hid (flB ⟨ver,txt,got,sus,wed,false,by_,trm⟩ = false) := by rw [Hid,flB];simp [ht]
    clear hy ht
    go_enter Try.func118,Try.ntmps118
    go_wp2
    refine bodyPost_ret (v := .tuple #[.nilIface,.bool false]) (by simp [results,Try.results118,go_sem, *]) rfl ?_
    exact ⟨.nilIface,by rw [HZ.out],fun h => (by rw [HZ.out] at h;cases h),HB0.out⟩
  ·have e1 : (by_ != 0) = true := by simpa using hy
   have HZ : Hid (flB ⟨ver,txt,got,sus,wed,false,by_,trm⟩ = false) := by rw [Hid,flB];simp [hy]
   clear hy
   go_enter Try.func118,Try.ntmps118
   go_wp2
   refine bodyPost_ret (v := .tuple #[.nilIface,.bool false]) (by simp [results,Try.results118,go_sem, *]) rfl ?_
   exact ⟨.nilIface,by rw [HZ.out],fun h => (by rw [HZ.out] at h;cases h),HB0.out⟩
theorem asE_any (v : Value) (w : World) : (Instr.typeAssert (.iface 150 v) 88 154 true).run Try.prog w = .ok (.tuple #[.iface 150 v,.bool true]) w := by kernel_rfl
theorem asW_any (v : Value) (w : World) : (Instr.typeAssert (.iface 151 v) 88 154 true).run Try.prog w = .ok (.tuple #[.nilIface,.bool false]) w := run_typeAssert_lacksB Try.underlying154 (by kernel_rfl) (by kernel_rfl) v 88 w
theorem asS_any (v : Value) (w : World) : (Instr.typeAssert (.iface 152 v) 88 154 true).run Try.prog w = .ok (.tuple #[.nilIface,.bool false]) w := run_typeAssert_lacksB Try.underlying154 (by kernel_rfl) (by kernel_rfl) v 88 w
theorem mtE_any (v : Value) (w : World) : (Go.method 287 150 v "loop.example/g00266/impl.end").run Try.prog w = .ok (171, v) w := by kernel_rfl
set_option maxRecDepth 100000 in
set_option maxHeartbeats 800000 in
theorem endI_any (A : Ra) (r : Rw) (w : World) :
  Calls Try.prog 171 #[rwV A r] w fun e w' => e = .returned (.tuple #[.int .i64 r.by_,.slice A.ma r.trm.length A.mc]) ∧ Below w.heap.size w w' := by
 have hB0 := oneA16 w (.cells (rwC A r) 150)
 have hx := Bx.new w 150 (rwC A r)
 generalize hW : w.alloc (.cells (rwC A r) 150) = W at *
 obtain ⟨ver,txt,got,sus,wed,rdy,by_,trm⟩ := r
 obtain ⟨ta,tc,ga,gc,sa,sc,ma,mc⟩ := A
 have hw0 : w.alloc (.cells #[.int .i64 ver,.slice ta txt.length tc,.slice ga got.length gc,.slice sa sus.length sc,.bool wed,.bool rdy,.int .i64 by_,.slice ma trm.length mc] 150) = W := hW
 obtain ⟨⟨c0,c1,c2,c3⟩,c4,c5,c6,c7⟩ := Bx.r8 hx
 simp only at c0 c1 c2 c3 c4 c5 c6 c7
 have HB0 : Hid (Below w.heap.size w W) := hB0
 unfold rwV rwC
 clear hx hW hB0
 simp only
 go_enter Try.func171,Try.ntmps171
 go_wp2_with fail
 go_quiet (fail)
 go_wp2
 refine bodyPost_ret (v := .tuple #[.int .i64 by_,.slice ma trm.length mc]) (by simp [results,Try.results171,go_sem, *]) rfl ?_
 exact ⟨rfl,belowN HB0.out⟩
set_option maxRecDepth 100000 in
set_option maxHeartbeats 1600000 in
theorem endR_any (A : Ra) (r : Rw) (n : Int) (w : World) (hv : RwP w A r) (hn : 1 ≤ n ∧ n ≤ 5) :
  Calls Try.prog 119 #[stV A r,.int .i64 n] w fun e w' => e = .returned (.bool (lsB r n)) ∧ Below w.heap.size w w' := by
 have hwn : wrap64 (n - 1) = n - 1 := by unfold wrap64;omega
 clear hn
 cases e1 : r.rdy with
 | false =>
  have HZ : Hid (lsB r n = true) := by rw [Hid,lsB,e1];rfl
  unfold stV
  rw [e1]
  clear e1 hv
  cases e2 : r.wed with
  | false =>
   clear e2
   generalize rwV A r = v
   have ha := asS_any v
   simp only [Bool.false_eq_true,if_false]
   go_enter Try.func119,Try.ntmps119
   go_wp2
   go_ret
   exact ⟨ret_bool (by rw [HZ.out]),Below.refl _ _⟩
  | true =>
   clear e2
   generalize rwV A r = v
   have ha := asW_any v
   simp only [Bool.false_eq_true,if_false,if_true]
   go_enter Try.func119,Try.ntmps119
   go_wp2
   go_ret
   exact ⟨ret_bool (by rw [HZ.out]),Below.refl _ _⟩
 | true =>
  have hE := fun X => endI_any A r X
  have HC : Hid (∀ X,Below w.heap.size w X → Calls Try.prog 116 #[.slice A.ma r.trm.length A.mc,.int .i64 n] X fun e w' => e = .returned (.bool (smB r.trm n)) ∧ ∃ m,w' = X.drewN m) := fun X h => areCt_any A.ma A.mc r.trm n X (hv.below h).trm.vec hv.trm.le hv.trm.mx
  have HZ : Hid (lsB r n = (inB r.by_ 0 (n - 1) && smB r.trm n)) := by rw [Hid,lsB,e1];rfl
  unfold stV
  rw [e1]
  clear e1 hv
  generalize rwV A r = v at *
  generalize r.by_ = Y at *
  generalize r.trm.length = L at *
  generalize smB r.trm n = Q at *
  obtain ⟨ta,tc,ga,gc,sa,sc,ma,mc⟩ := A
  simp only at hE HC
  have ha := asE_any v
  have hm := mtE_any v
  simp only [if_true]
  cases e2 : inB Y 0 (n - 1) with
  | false =>
   rw [e2] at HZ
   go_enter Try.func119,Try.ntmps119
   go_wp2_with (first | (go_at_call 171;refine (hE _).mono ?_;rintro e w1 ⟨rfl,hb1⟩) | (go_at_call 114;refine (isW14_any _ _ _).mono ?_;rintro e w' ⟨rfl,hw'⟩;rw [hw',e2];clear hw'))
   go_ret
   exact ⟨ret_bool (by rw [HZ.out];rfl),hb1⟩
  | true =>
   rw [e2] at HZ
   go_enter Try.func119,Try.ntmps119
   go_wp2_with (first | (go_at_call 171;refine (hE _).mono ?_;rintro e w1 ⟨rfl,hb1⟩) | (go_at_call 114;refine (isW14_any _ _ _).mono ?_;rintro e w' ⟨rfl,hw'⟩;rw [hw',e2];clear hw') | (go_at_call 116;refine (HC.out _ hb1).mono ?_;rintro e w' ⟨rfl,m1,rfl⟩))
   go_ret
   exact ⟨ret_bool (by rw [HZ.out];rfl),belowN hb1⟩
end Go.Proofs.Ytlnmdfgcpfbleaa
namespace Go.Proofs.Ytlnmdfgcpfbleaa
set_option linter.unusedVariables false
set_option linter.unusedSimpArgs false
open Go.RowKit Go.Sort
theorem okRw_tx {r : Rw} {n : Int} (h : txB r.txt = false) : okRw r n = false := by
 rw [txB,Bool.and_eq_false_iff] at h
 rw [okRw]
 rcases h with h | h <;> simp [h]
theorem okRw_ends {r : Rw} {n : Int} (h1 : inB n 1 5 = true) (h2 : inB r.ver 0 1000000 = true) (h3 : txB r.txt = true) (h4 : smB r.got n = true) (h5 : susB r.sus n = true) : okRw r n = (flB r && lsB r n) := by
 rw [txB,Bool.and_eq_true] at h3
 rw [← endB_fl,okRw,h1,h2,h3.1,h3.2,h4,h5]
 rfl
set_option maxRecDepth 100000 in
set_option maxHeartbeats 3200000 in
theorem stOf_any (A : Ra) (r : Rw) (n : Int) (w : World) (hv : RwP w A r) :
  Calls Try.prog 79 #[rwV A r,.int .i64 n] w fun e w' => ∃ s,e = .returned (.tuple #[s,.bool (okRw r n)]) ∧ (okRw r n = true → s = stV A r) ∧ Below w.heap.size w w' := by
 have hB0 := oneA16 w (.cells (rwC A r) 35)
 have hx := Bx.new w 35 (rwC A r)
 have h0 := hv.below hB0
 generalize hW : w.alloc (.cells (rwC A r) 35) = W at *
 have hS := h0.rws
 have hTx := areTx_any A.ta A.tc r.txt W h0.txt.txs hS.mt
 have hCt := areCt_any A.ga A.gc r.got n W h0.got.vec h0.got.le h0.got.mx
 have hSu : ∀ m,Calls Try.prog 117 #[.slice A.sa r.sus.length A.sc,.int .i64 (n - 1)] (W.drewN m) fun e w' => e = .returned (.bool (susB r.sus n)) ∧ w' = W.drewN m := fun m => by
  have := rw14_any A.sa r.sus.length A.sc n r.sus (W.drewN m) (h0.below (belowN (Below.refl _ _))).sus.vec hS.ms
  rw [sus_row] at this
  exact this
 have hFl := fun X => flag_any A r X hS.mm
 have hEn : ∀ X,Below W.heap.size W X → 1 ≤ n ∧ n ≤ 5 → Calls Try.prog 119 #[stV A r,.int .i64 n] X fun e w' => e = .returned (.bool (lsB r n)) ∧ Below X.heap.size X w' := fun X h hn => endR_any A r n X (h0.below h) hn
 have HZn : Hid (inB n 1 5 = false → okRw r n = false) := fun h => okRw_n h
 have HZv : Hid (inB r.ver 0 1000000 = false → okRw r n = false) := fun h => okRw_v h
 have HZt : Hid (txB r.txt = false → okRw r n = false) := fun h => okRw_tx h
 have HZg : Hid (smB r.got n = false → okRw r n = false) := fun h => okRw_g h
 have HZs : Hid (susB r.sus n = false → okRw r n = false) := fun h => okRw_s h
 have HZe : Hid (inB n 1 5 = true → inB r.ver 0 1000000 = true → txB r.txt = true → smB r.got n = true → susB r.sus n = true → okRw r n = (flB r && lsB r n)) := fun a b c d e => okRw_ends a b c d e
 have HB0 : Hid (Below w.heap.size w W) := hB0
 have HSt : Hid (∀ s : Value,s = stV A r → s = stV A r) := fun _ h => h
 generalize hq : okRw r n = Q at *
 clear hq
 generalize stV A r = V at *
 generalize flB r = fl at *
 generalize lsB r n = ls at *
 generalize txB r.txt = tb at *
 generalize smB r.got n = sg at *
 generalize susB r.sus n = sb at *
 obtain ⟨ver,txt,got,sus,wed,rdy,by_,trm⟩ := r
 obtain ⟨ta,tc,ga,gc,sa,sc,ma,mc⟩ := A
 have hw0 : w.alloc (.cells #[.int .i64 ver,.slice ta txt.length tc,.slice ga got.length gc,.slice sa sus.length sc,.bool wed,.bool rdy,.int .i64 by_,.slice ma trm.length mc] 35) = W := hW
 obtain ⟨⟨c0,c1,c2,c3⟩,c4,c5,c6,c7⟩ := Bx.r8 hx
 simp only [rwV,rwC] at c0 c1 c2 c3 c4 c5 c6 c7 hTx hCt hSu hFl HZv HZe
 unfold rwV rwC
 clear hv h0 hx hW hB0 hS
 simp only
 cases e1 : inB n 1 5 with
 | false =>
  have HZ : Hid (Q = false) := HZn.out e1
  go_enter Try.func79,Try.ntmps79
  go_wp2_with (first | (go_at_call 84;refine (isRl_any _ _).mono ?_;rintro e w' ⟨rfl,hw'⟩;rw [hw',e1];clear hw'))
  refine bodyPost_ret (v := .tuple #[.nilIface,.bool false]) (by simp [results,Try.results79,go_sem, *]) rfl ?_
  exact ⟨.nilIface,by rw [HZ.out],fun h => (by rw [HZ.out] at h;cases h),HB0.out⟩
 | true =>
 have hn5 := inB7.1 e1
 have hwn : wrap64 (n - 1) = n - 1 := by unfold wrap64;omega
 have hEn2 := fun X h => hEn X h hn5
 have HN1 : Hid (inB n 1 5 = true) := e1
 have hRl : ∀ X,Calls Try.prog 84 #[.int .i64 n] X fun e w' => e = .returned (.bool true) ∧ w' = X := fun X => by
  have := isRl_any n X
  rw [e1] at this
  exact this
 clear e1 hEn hn5
 cases e2 : inB ver 0 1000000 with
 | false =>
  have HZ : Hid (Q = false) := HZv.out e2
  go_enter Try.func79,Try.ntmps79
  go_wp2_with (first | (go_at_call 84;refine (hRl _).mono ?_;rintro e w' ⟨rfl,hw'⟩;rw [hw'];clear hw') | (go_at_call 114;refine (isW14_any _ _ _).mono ?_;rintro e w' ⟨rfl,hw'⟩;rw [hw',e2];clear hw'))
  refine bodyPost_ret (v := .tuple #[.nilIface,.bool false]) (by simp [results,Try.results79,go_sem, *]) rfl ?_
  exact ⟨.nilIface,by rw [HZ.out],fun h => (by rw [HZ.out] at h;cases h),HB0.out⟩
 | true =>
 have HN2 : Hid (inB ver 0 1000000 = true) := e2
 have hWi : ∀ X,Calls Try.prog 114 #[.int .i64 ver,.int .i64 1000000] X fun e w' => e = .returned (.bool true) ∧ w' = X := fun X => by
  have := isW14_any ver 1000000 X
  rw [e2] at this
  exact this
 clear e2
 cases tb with
 | false =>
  have HZ : Hid (Q = false) := HZt.out rfl
  go_enter Try.func79,Try.ntmps79
  go_wp2_with (first | (go_at_call 84;refine (hRl _).mono ?_;rintro e w' ⟨rfl,hw'⟩;rw [hw'];clear hw') | (go_at_call 114;refine (hWi _).mono ?_;rintro e w' ⟨rfl,hw'⟩;rw [hw'];clear hw') | (go_at_call 115;refine hTx.mono ?_;rintro e w' ⟨rfl,hw'⟩;rw [hw'];clear hw'))
  refine bodyPost_ret (v := .tuple #[.nilIface,.bool false]) (by simp [results,Try.results79,go_sem, *]) rfl ?_
  exact ⟨.nilIface,by rw [HZ.out],fun h => (by rw [HZ.out] at h;cases h),HB0.out⟩
 | true =>
 cases sg with
 | false =>
  have HZ : Hid (Q = false) := HZg.out rfl
  go_enter Try.func79,Try.ntmps79
  go_wp2_with (first | (go_at_call 84;refine (hRl _).mono ?_;rintro e w' ⟨rfl,hw'⟩;rw [hw'];clear hw') | (go_at_call 114;refine (hWi _).mono ?_;rintro e w' ⟨rfl,hw'⟩;rw [hw'];clear hw') | (go_at_call 115;refine hTx.mono ?_;rintro e w' ⟨rfl,hw'⟩;rw [hw'];clear hw') | (go_at_call 116;refine hCt.mono ?_;rintro e w' ⟨rfl,m1,rfl⟩))
  refine bodyPost_ret (v := .tuple #[.nilIface,.bool false]) (by simp [results,Try.results79,go_sem, *]) rfl ?_
  exact ⟨.nilIface,by rw [HZ.out],fun h => (by rw [HZ.out] at h;cases h),belowN HB0.out⟩
 | true =>
 cases sb with
 | false =>
  have HZ : Hid (Q = false) := HZs.out rfl
  go_enter Try.func79,Try.ntmps79
  go_wp2_with (first | (go_at_call 84;refine (hRl _).mono ?_;rintro e w' ⟨rfl,hw'⟩;rw [hw'];clear hw') | (go_at_call 114;refine (hWi _).mono ?_;rintro e w' ⟨rfl,hw'⟩;rw [hw'];clear hw') | (go_at_call 115;refine hTx.mono ?_;rintro e w' ⟨rfl,hw'⟩;rw [hw'];clear hw') | (go_at_call 116;refine hCt.mono ?_;rintro e w' ⟨rfl,m1,rfl⟩) | (go_at_call 117;refine (hSu _).mono ?_;rintro e w' ⟨rfl,hw'⟩;rw [hw'];clear hw'))
  refine bodyPost_ret (v := .tuple #[.nilIface,.bool false]) (by simp [results,Try.results79,go_sem, *]) rfl ?_
  exact ⟨.nilIface,by rw [HZ.out],fun h => (by rw [HZ.out] at h;cases h),belowN HB0.out⟩
 | true =>
 have HE : Hid (Q = (fl && ls)) := HZe.out HN1.out HN2.out rfl rfl rfl
 clear HZn HZv HZt HZg HZs HZe HN1 HN2
 cases fl with
 | false =>
  have HZ : Hid (Q = false) := by rw [Hid,HE.out];rfl
  go_enter Try.func79,Try.ntmps79
  go_wp2_with (first | (go_at_call 84;refine (hRl _).mono ?_;rintro e w' ⟨rfl,hw'⟩;rw [hw'];clear hw') | (go_at_call 114;refine (hWi _).mono ?_;rintro e w' ⟨rfl,hw'⟩;rw [hw'];clear hw') | (go_at_call 115;refine hTx.mono ?_;rintro e w' ⟨rfl,hw'⟩;rw [hw'];clear hw') | (go_at_call 116;refine hCt.mono ?_;rintro e w' ⟨rfl,m1,rfl⟩) | (go_at_call 117;refine (hSu _).mono ?_;rintro e w' ⟨rfl,hw'⟩;rw [hw'];clear hw') | (go_at_call 118;refine (hFl _).mono ?_;rintro e w1 ⟨s1,rfl,hs1,hb1⟩;have HB1 : Hid (Below w.heap.size w w1) := ((belowN HB0.out).trans (hb1.mono (belowN HB0.out).size));clear hb1 hs1))
  refine bodyPost_ret (v := .tuple #[s1,.bool false]) (by simp [results,Try.results79,go_sem, *]) rfl ?_
  exact ⟨s1,by rw [HZ.out],fun h => (by rw [HZ.out] at h;cases h),HB1.out⟩
 | true =>
  have HZ : Hid (Q = ls) := by rw [Hid,HE.out];rfl
  have hF2 : ∀ X,Calls Try.prog 118 #[.agg #[.int .i64 ver,.slice ta txt.length tc,.slice ga got.length gc,.slice sa sus.length sc,.bool wed,.bool rdy,.int .i64 by_,.slice ma trm.length mc]] X fun e w' => e = .returned (.tuple #[V,.bool true]) ∧ Below X.heap.size X w' := fun X => (hFl X).mono (fun e w' ⟨s,h1,h2,h3⟩ => ⟨by rw [h1,h2 rfl],h3⟩)
  clear hFl
  have HRf : Hid (∀ m,Below W.heap.size W (W.drewN m)) := fun m => belowN (Below.refl _ _)
  go_enter Try.func79,Try.ntmps79
  go_wp2_with (first | (go_at_call 84;refine (hRl _).mono ?_;rintro e w' ⟨rfl,hw'⟩;rw [hw'];clear hw') | (go_at_call 114;refine (hWi _).mono ?_;rintro e w' ⟨rfl,hw'⟩;rw [hw'];clear hw') | (go_at_call 115;refine hTx.mono ?_;rintro e w' ⟨rfl,hw'⟩;rw [hw'];clear hw') | (go_at_call 116;refine hCt.mono ?_;rintro e w' ⟨rfl,m1,rfl⟩) | (go_at_call 117;refine (hSu _).mono ?_;rintro e w' ⟨rfl,hw'⟩;rw [hw'];clear hw') | (go_at_call 118;refine (hF2 _).mono ?_;rintro e w1 ⟨rfl,hb1⟩;have HB1 : Hid (Below w.heap.size w w1) := ((belowN HB0.out).trans (hb1.mono (belowN HB0.out).size));have hE3 := hEn2 w1 ((HRf.out m1).trans (hb1.mono (HRf.out m1).size));clear hb1) | (go_at_call 119;refine hE3.mono ?_;rintro e w2 ⟨rfl,hb2⟩;have HB2 : Hid (Below w.heap.size w w2) := (HB1.out.trans (hb2.mono HB1.out.size));clear hb2))
  refine bodyPost_ret (v := .tuple #[V,.bool ls]) (by simp [results,Try.results79,go_sem, *]) rfl ?_
  exact ⟨V,by rw [HZ.out],fun _ => rfl,HB2.out⟩
set_option maxRecDepth 100000 in
set_option maxHeartbeats 800000 in
theorem rowI_any (A : Ra) (r : Rw) (n : Int) (w : World) (hv : RwP w A r) :
  Calls Try.prog 35 #[rwV A r,.int .i64 n] w fun e w' => e = .returned (.bool (okRw r n)) ∧ Below w.heap.size w w' := by
 have hB0 := oneA16 w (.cells (rwC A r) 35)
 have hx := Bx.new w 35 (rwC A r)
 have h0 := hv.below hB0
 generalize hW : w.alloc (.cells (rwC A r) 35) = W at *
 have hSt : Calls Try.prog 79 #[rwV A r,.int .i64 n] W fun e w' => ∃ s,e = .returned (.tuple #[s,.bool (okRw r n)]) ∧ Below W.heap.size W w' := (stOf_any A r n W h0).mono (fun e w' ⟨s,h1,_,h2⟩ => ⟨s,h1,h2⟩)
 have HB0 : Hid (Below w.heap.size w W) := hB0
 generalize okRw r n = Q at *
 obtain ⟨ver,txt,got,sus,wed,rdy,by_,trm⟩ := r
 obtain ⟨ta,tc,ga,gc,sa,sc,ma,mc⟩ := A
 have hw0 : w.alloc (.cells #[.int .i64 ver,.slice ta txt.length tc,.slice ga got.length gc,.slice sa sus.length sc,.bool wed,.bool rdy,.int .i64 by_,.slice ma trm.length mc] 35) = W := hW
 obtain ⟨⟨c0,c1,c2,c3⟩,c4,c5,c6,c7⟩ := Bx.r8 hx
 simp only [rwV,rwC] at c0 c1 c2 c3 c4 c5 c6 c7 hSt
 unfold rwV rwC
 clear hv h0 hx hW hB0
 simp only
 go_enter Try.func35,Try.ntmps35
 go_wp2_with (go_at_call 79;refine hSt.mono ?_;rintro e w1 ⟨s1,rfl,hb1⟩;have HB1 : Hid (Below w.heap.size w w1) := (HB0.out.trans (hb1.mono HB0.out.size));clear hb1)
 go_ret
 exact ⟨rfl,HB1.out⟩
theorem implRowOk : ImplRowOk := fun A r n w hv _ => rowI_any A r n w hv
end Go.Proofs.Ytlnmdfgcpfbleaa
namespace Go.Proofs.Ytlnmdfgcpfbleaa
set_option linter.unusedVariables false
set_option linter.unusedSimpArgs false
open Go.RowKit Go.Sort
end Go.Proofs.Ytlnmdfgcpfbleaa
namespace Go.Proofs.Ytlnmdfgcpfbleaa
set_option linter.unusedVariables false
set_option linter.unusedSimpArgs false
open Go.RowKit Go.Sort
end Go.Proofs.Ytlnmdfgcpfbleaa
namespace Go.Proofs.Ytlnmdfgcpfbleaa
set_option linter.unusedVariables false
set_option linter.unusedSimpArgs false
open Go.RowKit Go.Sort
theorem okMb_chk (m : Mb) : okMb m = ((inB m.n 1 5 && (inB m.id 0 (m.n - 1) && decide ((m.rows.length : Int) = m.n))) && (m.rows.all (fun r => okRw r m.n) && ((decide (el m.own.got m.i = (m.own.txt.length : Int)) && decide (m.id ∉ m.own.sus)) && (susB m.sung 60 && (if m.done = true then m.own.rdy else (List.range m.sung.length).all (fun i => decide (el m.sung i = (i : Int)))))))) := by
 have hel : (∀ i,i < m.sung.length → inB (el m.sung i) 0 59 = true) ↔ ∀ x ∈ m.sung,inB x 0 59 = true := by
  constructor
  ·intro h x hx
   obtain ⟨j,hj,rfl⟩ := List.mem_iff_getElem.1 hx
   have := h j hj
   simpa [el,hj] using this
  ·intro h i hi
   exact h _ (el_mem hi)
 rw [Bool.eq_iff_iff]
 unfold okMb okSg susB
 simp only [Bool.and_eq_true,List.all_eq_true,decide_eq_true_eq,List.mem_range,Bool.or_eq_true,Bool.not_eq_true']
 rw [show (60 : Int) - 1 = 59 from rfl]
 constructor
 ·rintro ⟨h1,h2,h3,h4,h5,h6,h7,h8,h9,h10⟩
  refine ⟨⟨h1,h2,h3⟩,h6,⟨h8,h9⟩,⟨hel.1 (fun i hi => (h7 i hi).1),h5⟩, ?_⟩
  split
  ·rename_i hd
   rcases h10 with h | h
   ·rw [hd] at h;cases h
   ·exact h
  ·rename_i hd
   simp only [List.all_eq_true,List.mem_range,decide_eq_true_eq]
   exact fun i hi => ((h7 i hi).2).resolve_left hd
 ·rintro ⟨⟨h1,h2,h3⟩,h6,⟨h8,h9⟩,⟨h7,h5⟩,h10⟩
  refine ⟨h1,h2,h3, ?_,h5,h6,fun i hi => ⟨hel.2 h7 i hi, ?_⟩,h8,h9, ?_⟩
  ·refine ris_short (k := 60) (ris_iff.1 h5) (fun x hx => ?_)
   have := inB7.1 (h7 x hx)
   omega
  ·by_cases hd : m.done = true
   ·exact .inl hd
   ·rw [if_neg hd] at h10
    simp only [List.all_eq_true,List.mem_range,decide_eq_true_eq] at h10
    exact .inr (h10 i hi)
  ·by_cases hd : m.done = true
   ·rw [if_pos hd] at h10;exact .inr h10
   ·exact .inl (by simpa using hd)
theorem MbP.below {w w' : World} {A : Ma} {m : Mb} (h : MbP w A m) (hb : Below w.heap.size w w') : MbP w' A m := by
 obtain ⟨f,hf⟩ := h.own
 exact ⟨⟨f,owL_below hf hb⟩,h.fit,h.i64,h.sz⟩
theorem sum_mem_le {F : Rw → Nat} {r : Rw} : ∀ {R : List Rw},r ∈ R → F r ≤ (R.map F).sum
 | x :: R,h => by
  rw [List.map_cons,List.sum_cons]
  rcases List.mem_cons.1 h with h | h
  ·rw [h];omega
  ·have := sum_mem_le (F := F) h;omega
theorem szRw_mem {m : Mb} {r : Rw} (h : r ∈ m.rows) : szRw r ≤ szMb m := by
 have := sum_mem_le (F := szRw) h
 unfold szMb szRs szP
 rw [List.take_length]
 omega
theorem MbP.row {w : World} {A : Ma} {m : Mb} (h : MbP w A m) {k : Nat} (hk : k < m.rows.length) : ∃ g off Ak,A.ra = some ⟨g,off,none⟩ ∧ C8 w g (off + k * 8) (.int .i64 (rowN m.rows k).ver) (.slice Ak.ta (rowN m.rows k).txt.length Ak.tc) (.slice Ak.ga (rowN m.rows k).got.length Ak.gc) (.slice Ak.sa (rowN m.rows k).sus.length Ak.sc) (.bool (rowN m.rows k).wed) (.bool (rowN m.rows k).rdy) (.int .i64 (rowN m.rows k).by_) (.slice Ak.ma (rowN m.rows k).trm.length Ak.mc) ∧ RwP w Ak (rowN m.rows k) := by
 obtain ⟨f,hf⟩ := h.own
 obtain ⟨f1,f2,o1,o2,_,_⟩ := owL_two hf
 obtain ⟨g,off,f3,hra,_,_,⟨vs,hpc,hov,_⟩,_⟩ := ow_elF rw8_len (by omega) o1 (rowN_at hk)
 obtain ⟨Ak,rfl,hl⟩ := rw8_ow hov
 have hl8 : (rwC Ak (rowN m.rows k)).toList.length = 8 := rfl
 have c := hpc.cell
 have hfit : FitR (rowN m.rows k) := h.fit.1 _ (rowN_mem hk)
 have hs := szRw_mem (rowN_mem hk)
 exact ⟨g,off,Ak,hra,⟨⟨c 0 (by rw [hl8];omega),c 1 (by rw [hl8];omega),c 2 (by rw [hl8];omega),c 3 (by rw [hl8];omega)⟩,c 4 (by rw [hl8];omega),c 5 (by rw [hl8];omega),c 6 (by rw [hl8];omega),c 7 (by rw [hl8];omega)⟩,it_rwp (owL_it hl (lo := 0) (fun b _ => Nat.zero_le b)) hfit (h.i64.2.2 _ (rowN_mem hk)) (Nat.le_trans hs h.sz)⟩
theorem MbP.mbs {w : World} {A : Ma} {m : Mb} (h : MbP w A m) : MbS w A m := by
 obtain ⟨f,hf⟩ := h.own
 exact mbs_of (owL_vw hf) h.fit
def fromN (s : List Int) : Bool := (List.range s.length).all (fun i => decide (el s i = (i : Int)))
set_option maxRecDepth 100000 in
set_option maxHeartbeats 800000 in
theorem cfn_any (a : Option Addr) (cap : Nat) (xs : List Int) (w : World) (hv : Vec w a xs.length xs) (hm : xs.length ≤ maxLen) :
  Calls Try.prog 145 #[.slice a xs.length cap] w fun e w' => e = .returned (.bool (fromN xs)) ∧ w' = w := by
 obtain ⟨_,_,hc⟩ := hv
 unfold maxLen at hm
 have HT : Hid ((∀ j,j < xs.length → el xs j = (j : Int)) → fromN xs = true) := fun h => by
  simp only [Hid,fromN,List.all_eq_true,List.mem_range,decide_eq_true_eq]
  exact h
 have HF : Hid (∀ k,k < xs.length → el xs k ≠ (k : Int) → fromN xs = false) := fun k hk h => by
  rw [Bool.eq_false_iff]
  intro hq
  simp only [fromN,List.all_eq_true,List.mem_range,decide_eq_true_eq] at hq
  exact h (hq k hk)
 generalize fromN xs = Q at *
 go_enter Try.func145,Try.ntmps145
 go_wp2
 go_loopw [7] (fun i wr => ∃ k : Nat,k ≤ xs.length ∧ i = .int .i64 k ∧ (∀ j,j < k → el xs j = (j : Int)) ∧ wr = w) (fun i _ => xs.length - (intOf i).toNat)
 case atStart => exact ⟨0,Nat.zero_le _,rfl,fun j hj => by omega,rfl⟩
 case round =>
  obtain ⟨k,hk,rfl,hall,rfl⟩ := hrel
  have HA : Hid (∀ j,j < k → el xs j = (j : Int)) := hall
  clear hall
  by_cases hlt : k < xs.length
  ·rcases hc with h0 | ⟨b,off,rfl,hc⟩
   ·omega
   have hck := hc k hlt
   have k1 : (k : Int) < (xs.length : Int) := by omega
   have k0 : (0 : Int) ≤ (k : Int) := by omega
   by_cases he : el xs k = (k : Int)
   ·have HK : Hid (∀ j,j < k + 1 → el xs j = (j : Int)) := fun j hj => by
     by_cases e : j = k
     ·subst e;exact he
     ·exact HA.out j (by omega)
    have e1 : ((el xs k) != (k : Int)) = false := by simp [he]
    clear he hc
    generalize el xs k = x at *
    go_wp2
    go_roundw
    case rel => exact ⟨k + 1,by omega,by go_num,HK.out,by first | rfl | trivial⟩
    case measure => simp [intOf];omega
   ·have HK : Hid (Q = false) := HF.out k hlt he
    have e1 : ((el xs k) != (k : Int)) = true := by simp [he]
    clear he hc
    generalize el xs k = x at *
    go_wp2
    go_ret
    exact ⟨ret_bool (by rw [HK.out]),by first | rfl | trivial⟩
  ·have k1 : ¬ ((k : Int) < (xs.length : Int)) := by omega
   obtain rfl : k = xs.length := by omega
   have HK : Hid (Q = true) := HT.out HA.out
   clear hc
   go_wp2
   go_ret
   exact ⟨ret_bool (by rw [HK.out]),by first | rfl | trivial⟩
theorem okMb_1 {m : Mb} (h : (inB m.n 1 5 && (inB m.id 0 (m.n - 1) && decide ((m.rows.length : Int) = m.n))) = false) : okMb m = false := by rw [okMb_chk,h];rfl
theorem okMb_2 {m : Mb} {k : Nat} (hk : k < m.rows.length) (h : okRw (rowN m.rows k) m.n = false) : okMb m = false := by
 have : m.rows.all (fun r => okRw r m.n) = false := by
  rw [Bool.eq_false_iff]
  intro hq
  rw [List.all_eq_true.1 hq _ (rowN_mem hk)] at h
  cases h
 rw [okMb_chk,this]
 simp
theorem okMb_3 {m : Mb} (h : (decide (el m.own.got m.i = (m.own.txt.length : Int)) && decide (m.id ∉ m.own.sus)) = false) : okMb m = false := by rw [okMb_chk,h];simp
theorem okMb_4 {m : Mb} (h : susB m.sung 60 = false) : okMb m = false := by rw [okMb_chk,h];simp
theorem okMb_5 {m : Mb} (h1 : (inB m.n 1 5 && (inB m.id 0 (m.n - 1) && decide ((m.rows.length : Int) = m.n))) = true) (h2 : ∀ k,k < m.rows.length → okRw (rowN m.rows k) m.n = true) (h3 : (decide (el m.own.got m.i = (m.own.txt.length : Int)) && decide (m.id ∉ m.own.sus)) = true) (h4 : susB m.sung 60 = true) : okMb m = (if m.done = true then m.own.rdy else fromN m.sung) := by
 have : m.rows.all (fun r => okRw r m.n) = true := by
  rw [List.all_eq_true]
  intro r hr
  obtain ⟨k,hk,rfl⟩ := List.mem_iff_getElem.1 hr
  have := h2 k hk
  simpa [rowN,List.getD,hk] using this
 rw [okMb_chk,h1,this,h3,h4]
 rfl
set_option maxRecDepth 100000 in
set_option maxHeartbeats 1600000 in
theorem chk_any (A : Ma) (m : Mb) (w : World) (hv : MbP w A m) :
  Calls Try.prog 137 #[mbV A m] w fun e w' => ((okMb m = true ∧ e = .returned (.tuple #[])) ∨ (okMb m = false ∧ Gu e)) ∧ Below w.heap.size w w' := by
 have hmix := mixed17
 have hb0 := oneA16 w (.cells (mbC A m) 103)
 have hx0 := Bx.new w 103 (mbC A m)
 have h0 := hv.below hb0
 unfold mbV mbC at *
 generalize hWW : w.alloc (.cells #[.int .i64 m.id,.int .i64 m.n,.slice A.ra m.rows.length A.rc,.slice A.sa m.sung.length A.sc,.bool m.done] 103) = W at *
 have HB0 : Hid (Below w.heap.size w W) := hb0
 have HP : Hid (MbP W A m) := h0
 have HX : Hid (Bx W w.heap.size 103 #[.int .i64 m.id,.int .i64 m.n,.slice A.ra m.rows.length A.rc,.slice A.sa m.sung.length A.sc,.bool m.done]) := hx0
 obtain ⟨c0,c1,c2,c3,c4⟩ := Bx.r5 hx0
 have hsl := h0.mbs.ms
 have hrl := h0.mbs.mr
 unfold maxLen at hsl hrl
 clear hb0 h0 hx0 hv
 cases e1 : inB m.n 1 5 with
 | false =>
  have HZ : Hid (okMb m = false) := okMb_1 (by rw [e1];rfl)
  go_enter Try.func137,Try.ntmps137
  go_wp2_with (first | (go_at_call 84;refine (isRl_any _ _).mono ?_;rintro e w' ⟨rfl,hw'⟩;rw [hw',e1];clear hw') | (go_at_call 144;refine (wantF _).mono ?_;rintro e w' ⟨⟨T,v,rfl⟩,hw'⟩;rw [hw'];clear hw'))
  exact ⟨rfl,.inr ⟨HZ.out,_,_,rfl⟩,HB0.out⟩
 | true =>
 have hn5 := inB7.1 e1
 have hwn : wrap64 (m.n - 1) = m.n - 1 := by unfold wrap64;omega
 cases e2 : inB m.id 0 (m.n - 1) with
 | false =>
  have HZ : Hid (okMb m = false) := okMb_1 (by rw [e1,e2];rfl)
  go_enter Try.func137,Try.ntmps137
  go_wp2_with (first | (go_at_call 84;refine (isRl_any _ _).mono ?_;rintro e w' ⟨rfl,hw'⟩;rw [hw',e1];clear hw') | (go_at_call 114;refine (isW14_any _ _ _).mono ?_;rintro e w' ⟨rfl,hw'⟩;rw [hw',e2];clear hw') | (go_at_call 144;refine (wantF _).mono ?_;rintro e w' ⟨⟨T,v,rfl⟩,hw'⟩;rw [hw'];clear hw'))
  exact ⟨rfl,.inr ⟨HZ.out,_,_,rfl⟩,HB0.out⟩
 | true =>
 have hid := inB7.1 e2
 by_cases e3 : (m.rows.length : Int) = m.n
 case neg =>
  have HZ : Hid (okMb m = false) := okMb_1 (by rw [e1,e2,decide_eq_false e3];rfl)
  have e3' : ((m.rows.length : Int) == m.n) = false := by simpa using e3
  go_enter Try.func137,Try.ntmps137
  go_wp2_with (first | (go_at_call 84;refine (isRl_any _ _).mono ?_;rintro e w' ⟨rfl,hw'⟩;rw [hw',e1];clear hw') | (go_at_call 114;refine (isW14_any _ _ _).mono ?_;rintro e w' ⟨rfl,hw'⟩;rw [hw',e2];clear hw') | (go_at_call 144;refine (wantF _).mono ?_;rintro e w' ⟨⟨T,v,rfl⟩,hw'⟩;rw [hw'];clear hw'))
  exact ⟨rfl,.inr ⟨HZ.out,_,_,rfl⟩,HB0.out⟩
 have H1 : Hid ((inB m.n 1 5 && (inB m.id 0 (m.n - 1) && decide ((m.rows.length : Int) = m.n))) = true) := by rw [Hid,e1,e2,decide_eq_true e3];rfl
 have e3' : ((m.rows.length : Int) == m.n) = true := by simpa using e3
 have hRl : ∀ X,Calls Try.prog 84 #[.int .i64 m.n] X fun e w' => e = .returned (.bool true) ∧ w' = X := fun X => by
  have := isRl_any m.n X
  rw [e1] at this
  exact this
 have hWi : ∀ X,Calls Try.prog 114 #[.int .i64 m.id,.int .i64 (m.n - 1)] X fun e w' => e = .returned (.bool true) ∧ w' = X := fun X => by
  have := isW14_any m.id (m.n - 1) X
  rw [e2] at this
  exact this
 have HI : Hid (∃ i : Nat,m.id = (i : Int) ∧ i < m.rows.length ∧ m.i = i) := ⟨m.id.toNat,by omega,by omega,rfl⟩
 have HN : Hid (∃ n : Nat,m.n = (n : Int) ∧ m.rows.length = n ∧ 1 ≤ n ∧ n ≤ 5) := ⟨m.n.toNat,by omega,by omega,by omega,by omega⟩
 clear e1 e2 e3 hid
 go_enter Try.func137,Try.ntmps137
 go_wp2_with (first | (go_at_call 84;refine (hRl _).mono ?_;rintro e w' ⟨rfl,hw'⟩;rw [hw'];clear hw') | (go_at_call 114;refine (hWi _).mono ?_;rintro e w' ⟨rfl,hw'⟩;rw [hw'];clear hw') | (go_at_call 144;refine (wantT _).mono ?_;rintro e w' ⟨rfl,hw'⟩;rw [hw'];clear hw'))
 clear hRl hWi c0 c1 c2 c3 c4
 go_loopw [28] (fun v wr => ∃ k : Nat,k ≤ m.rows.length ∧ v = .int .i64 (k : Int) ∧ (∀ j,j < k → okRw (rowN m.rows j) m.n = true) ∧ Below W.heap.size W wr) (fun v _ => m.rows.length - (intOf v).toNat)
 case atStart => exact ⟨0,Nat.zero_le _,rfl,fun j hj => by omega,Below.refl _ _⟩
 case round =>
  obtain ⟨k,hk,rfl,hall,hbr⟩ := hrel
  have HA : Hid (∀ j,j < k → okRw (rowN m.rows j) m.n = true) := hall
  have HBr : Hid (Below W.heap.size W wr) := hbr
  obtain ⟨c0,c1,c2,c3,c4⟩ := Bx.r5 (HX.out.below hbr)
  by_cases hlt : k < m.rows.length
  ·obtain ⟨g,off,Ak,hra,⟨⟨d0,d1,d2,d3⟩,d4,d5,d6,d7⟩,hrp⟩ := (HP.out.below hbr).row hlt
   have HZ : Hid (okRw (rowN m.rows k) m.n = false → okMb m = false) := fun h => okMb_2 hlt h
   rw [hra] at *
   have k0 : (0 : Int) ≤ (k : Int) := by omega
   have k1 : (k : Int) < (m.rows.length : Int) := by omega
   have HK : Hid (okRw (rowN m.rows k) m.n = true → ∀ j,j < k + 1 → okRw (rowN m.rows j) m.n = true) := fun h j hj => by
    by_cases e : j = k
    ·subst e;exact h
    ·exact HA.out j (by omega)
   generalize rowN m.rows k = r at *
   have hbl := oneA16 wr (.cells #[.int .i64 r.ver,.slice Ak.ta r.txt.length Ak.tc,.slice Ak.ga r.got.length Ak.gc,.slice Ak.sa r.sus.length Ak.sc,.bool r.wed,.bool r.rdy,.int .i64 r.by_,.slice Ak.ma r.trm.length Ak.mc] 35)
   have hxr := Bx.new wr 35 #[.int .i64 r.ver,.slice Ak.ta r.txt.length Ak.tc,.slice Ak.ga r.got.length Ak.gc,.slice Ak.sa r.sus.length Ak.sc,.bool r.wed,.bool r.rdy,.int .i64 r.by_,.slice Ak.ma r.trm.length Ak.mc]
   have hRo := rowI_any Ak r m.n _ (hrp.below hbl)
   unfold rwV rwC at hRo
   have HBw : Hid (Below W.heap.size W (wr.alloc (.cells #[.int .i64 r.ver,.slice Ak.ta r.txt.length Ak.tc,.slice Ak.ga r.got.length Ak.gc,.slice Ak.sa r.sus.length Ak.sc,.bool r.wed,.bool r.rdy,.int .i64 r.by_,.slice Ak.ma r.trm.length Ak.mc] 35))) := HBr.out.trans (hbl.mono HBr.out.size)
   have c1' := (hbl.cell (World.block_lt_of_cell? _ _ c1)).trans c1
   obtain ⟨⟨x0,x1,x2,x3⟩,x4,x5,x6,x7⟩ := Bx.r8 hxr
   clear hrp hall hbl hxr
   go_upto_region 5 with fail
   generalize wr.alloc (.cells #[.int .i64 r.ver,.slice Ak.ta r.txt.length Ak.tc,.slice Ak.ga r.got.length Ak.gc,.slice Ak.sa r.sus.length Ak.sc,.bool r.wed,.bool r.rdy,.int .i64 r.by_,.slice Ak.ma r.trm.length Ak.mc] 35) = W5 at *
   clear c0 c1 c2 c3 c4 d0 d1 d2 d3 d4 d5 d6 d7
   cases hb : okRw r m.n with
   | false =>
    have HZ1 : Hid (okMb m = false) := HZ.out hb
    rw [hb] at hRo
    go_wp2_with (first | (go_at_call 35;refine hRo.mono ?_;rintro e w1 ⟨rfl,hb1⟩;have HB1 : Hid (Below w.heap.size w w1) := (HB0.out.trans (HBw.out.mono HB0.out.size)).trans (hb1.mono (HB0.out.trans (HBw.out.mono HB0.out.size)).size);clear hb1) | (go_at_call 144;refine (wantF _).mono ?_;rintro e w' ⟨⟨T,v,rfl⟩,hw'⟩;rw [hw'];clear hw'))
    exact ⟨rfl,.inr ⟨HZ1.out,_,_,rfl⟩,HB1.out⟩
   | true =>
    have HK1 := HK.out hb
    have HK2 : Hid (∀ j,j < k + 1 → okRw (rowN m.rows j) m.n = true) := HK1
    rw [hb] at hRo
    clear HK HK1
    go_wp2_with (first | (go_at_call 35;refine hRo.mono ?_;rintro e w1 ⟨rfl,hb1⟩;have HB1 : Hid (Below W.heap.size W w1) := HBw.out.trans (hb1.mono HBw.out.size);clear hb1) | (go_at_call 144;refine (wantT _).mono ?_;rintro e w' ⟨rfl,hw'⟩;rw [hw'];clear hw'))
    go_roundw
    case rel => exact ⟨k + 1,by omega,by go_num,HK2.out,HB1.out⟩
    case measure => simp [intOf];omega
  ·have k1 : ¬ ((k : Int) < (m.rows.length : Int)) := by omega
   obtain rfl : k = m.rows.length := by omega
   have H2 : Hid (∀ j,j < m.rows.length → okRw (rowN m.rows j) m.n = true) := HA.out
   obtain ⟨i,hi,hil,hmi⟩ := HI.out
   obtain ⟨n,hn,hln,hn1,hn5'⟩ := HN.out
   obtain ⟨g,off,Ak,hra,⟨⟨d0,d1,d2,d3⟩,d4,d5,d6,d7⟩,hrp⟩ := (HP.out.below hbr).row hil
   have hgl : i < (rowN m.rows i).got.length := by
    have := okRw_iff.1 (by rw [← hn];exact HA.out i hil : okRw (rowN m.rows i) (n : Int) = true)
    rw [this.gl];omega
   have HOwn : Hid (m.own = rowN m.rows i) := by rw [Hid,Mb.own,hmi]
   have i0 : (0 : Int) ≤ (i : Int) := by omega
   have i1 : (i : Int) < (m.rows.length : Int) := by omega
   have i2 : (i : Int) < ((rowN m.rows i).got.length : Int) := by omega
   have hsu : ∀ X,Below W.heap.size W X → Calls Try.prog 117 #[.slice A.sa m.sung.length A.sc,.int .i64 59] X fun e w' => e = .returned (.bool (susB m.sung 60)) ∧ w' = X := fun X hX => by
    have := rw14_any A.sa m.sung.length A.sc 60 m.sung X (HP.out.mbs.sung.below hX (Nat.le_refl _)) HP.out.mbs.ms
    rw [sus_row] at this
    exact this
   have hcf : ∀ X,Below W.heap.size W X → Calls Try.prog 145 #[.slice A.sa m.sung.length A.sc] X fun e w' => e = .returned (.bool (fromN m.sung)) ∧ w' = X := fun X hX => cfn_any A.sa A.sc m.sung X (HP.out.mbs.sung.below hX (Nat.le_refl _)) HP.out.mbs.ms
   have H3 : Hid ((decide (el (rowN m.rows i).got i = ((rowN m.rows i).txt.length : Int)) && decide ((i : Int) ∉ (rowN m.rows i).sus)) = false → okMb m = false) := fun h => okMb_3 (by rw [HOwn.out,hmi,hi];exact h)
   have H4 : Hid (susB m.sung 60 = false → okMb m = false) := okMb_4
   have H5 : Hid ((decide (el (rowN m.rows i).got i = ((rowN m.rows i).txt.length : Int)) && decide ((i : Int) ∉ (rowN m.rows i).sus)) = true → susB m.sung 60 = true → okMb m = (if m.done = true then (rowN m.rows i).rdy else fromN m.sung)) := fun h1 h2 => by
    have := okMb_5 H1.out H2.out (by rw [HOwn.out,hmi,hi];exact h1) h2
    rw [HOwn.out] at this
    exact this
   have hgc : ∀ X,Below wr.heap.size wr X → ∃ gb go,Ak.ga = some ⟨gb,go,none⟩ ∧ X.cell? ⟨gb,go + i,none⟩ = some (.int .i64 (el (rowN m.rows i).got i)) := fun X hX => by
    rcases (hrp.below hX).got.vec.2.2 with h | ⟨gb,go,e,h⟩
    ·omega
    ·exact ⟨gb,go,e,h i hgl⟩
   have hCon : ∀ X,Below wr.heap.size wr X → Calls Try.prog 138 #[.slice Ak.sa (rowN m.rows i).sus.length Ak.sc,.int .i64 (i : Int)] X fun e w' => e = .returned (.bool (decide ((i : Int) ∈ (rowN m.rows i).sus))) ∧ w' = X := fun X hX => con14_any Ak.sa Ak.sc (rowN m.rows i).sus (i : Int) X (hrp.below hX).sus.vec (hrp.below hX).rws.ms
   rw [hi] at c0
   rw [hra] at c2
   generalize hOK : okMb m = OK at *
   have HOk : Hid (okMb m = OK) := hOK
   clear hOK
   generalize rowN m.rows i = r at *
   generalize hge : el r.got i = gi at *
   generalize susB m.sung 60 = sb at *
   generalize fromN m.sung = fb at *
   have hbl := oneA16 wr (.cells #[.int .i64 r.ver,.slice Ak.ta r.txt.length Ak.tc,.slice Ak.ga r.got.length Ak.gc,.slice Ak.sa r.sus.length Ak.sc,.bool r.wed,.bool r.rdy,.int .i64 r.by_,.slice Ak.ma r.trm.length Ak.mc] 35)
   have hxr := Bx.new wr 35 #[.int .i64 r.ver,.slice Ak.ta r.txt.length Ak.tc,.slice Ak.ga r.got.length Ak.gc,.slice Ak.sa r.sus.length Ak.sc,.bool r.wed,.bool r.rdy,.int .i64 r.by_,.slice Ak.ma r.trm.length Ak.mc]
   have HXr : Hid (Bx (wr.alloc (.cells #[.int .i64 r.ver,.slice Ak.ta r.txt.length Ak.tc,.slice Ak.ga r.got.length Ak.gc,.slice Ak.sa r.sus.length Ak.sc,.bool r.wed,.bool r.rdy,.int .i64 r.by_,.slice Ak.ma r.trm.length Ak.mc] 35)) wr.heap.size 35 #[.int .i64 r.ver,.slice Ak.ta r.txt.length Ak.tc,.slice Ak.ga r.got.length Ak.gc,.slice Ak.sa r.sus.length Ak.sc,.bool r.wed,.bool r.rdy,.int .i64 r.by_,.slice Ak.ma r.trm.length Ak.mc]) := hxr
   have HBw : Hid (Below W.heap.size W (wr.alloc (.cells #[.int .i64 r.ver,.slice Ak.ta r.txt.length Ak.tc,.slice Ak.ga r.got.length Ak.gc,.slice Ak.sa r.sus.length Ak.sc,.bool r.wed,.bool r.rdy,.int .i64 r.by_,.slice Ak.ma r.trm.length Ak.mc] 35))) := HBr.out.trans (hbl.mono HBr.out.size)
   have HBl : Hid (Below wr.heap.size wr (wr.alloc (.cells #[.int .i64 r.ver,.slice Ak.ta r.txt.length Ak.tc,.slice Ak.ga r.got.length Ak.gc,.slice Ak.sa r.sus.length Ak.sc,.bool r.wed,.bool r.rdy,.int .i64 r.by_,.slice Ak.ma r.trm.length Ak.mc] 35))) := hbl
   have HMX : Hid (∀ X,Below W.heap.size W X → Bx X w.heap.size 103 #[.int .i64 m.id,.int .i64 m.n,.slice A.ra m.rows.length A.rc,.slice A.sa m.sung.length A.sc,.bool m.done]) := fun X h => HX.out.below h
   clear hrp hall hbl hxr HP HA hbr H1 H2 HOwn
   have hwl := HX.out.lt
   have hwr2 := HBr.out.size
   go_upto_region 8 with fail
   generalize wr.alloc (.cells #[.int .i64 r.ver,.slice Ak.ta r.txt.length Ak.tc,.slice Ak.ga r.got.length Ak.gc,.slice Ak.sa r.sus.length Ak.sc,.bool r.wed,.bool r.rdy,.int .i64 r.by_,.slice Ak.ma r.trm.length Ak.mc] 35) = W5 at *
   clear c0 c1 c2 c3 c4 d0 d1 d2 d3 d4 d5 d6 d7 hra
   have facts : ∀ X,Below W5.heap.size W5 X → Below W.heap.size W X ∧ Below w.heap.size w X := fun X h => ⟨HBw.out.trans (h.mono HBw.out.size),(HB0.out.trans (HBw.out.mono HB0.out.size)).trans (h.mono (HB0.out.trans (HBw.out.mono HB0.out.size)).size)⟩
   have HFa : Hid (∀ X,Below W5.heap.size W5 X → Below W.heap.size W X ∧ Below w.heap.size w X) := facts
   obtain ⟨⟨x0,x1,x2,x3⟩,x4,x5,x6,x7⟩ := Bx.r8 HXr.out
   obtain ⟨c0,c1,c2,c3,c4⟩ := Bx.r5 (HMX.out _ HBw.out)
   rw [hi] at c0
   obtain ⟨gb,go,hga,hgcell⟩ := hgc _ HBl.out
   rw [hga] at x2
   have T : ∀ {x v},W5.cell? x = some v → ∀ q : Bk W5,q.w.cell? x = some v := fun h q => (q.h.cell (World.block_lt_of_cell? _ _ h)).trans h
   have y0 := T c0
   have y1 := T x1
   have y2 := T x2
   have y3 := T x3
   have y4 := T hgcell
   have hCn : ∀ q : Bk W5,Calls Try.prog 138 #[.slice Ak.sa r.sus.length Ak.sc,.int .i64 (i : Int)] q.w fun e w' => e = .returned (.bool (decide ((i : Int) ∈ r.sus))) ∧ Below q.w.heap.size q.w w' := fun q => (hCon q.w (HBl.out.trans (q.h.mono HBl.out.size))).mono (fun e w' h => ⟨h.1,by rw [h.2];exact Below.refl _ _⟩)
   have HL : Hid (m.rows.length = n) := hln
   clear T x0 x1 x2 x3 x4 x5 x6 x7 c0 c1 c2 c3 c4 facts hCon hgc hga hgcell hln hi hmi
   by_cases e7 : gi = (r.txt.length : Int)
   case neg =>
    have HZ : Hid (OK = false) := H3.out (by rw [decide_eq_false e7];rfl)
    have e7' : (gi == (r.txt.length : Int)) = false := by simpa using e7
    clear e7 H3 H4 H5
    refine wp_region_quiet_tail (C := fun w' => ∃ p : Bk W5,w' = p.w) 18 hmix (by kernel_rfl) ⟨⟨W5.drewN 1,belowN (Below.refl _ _)⟩,rfl⟩ ?_
    simp only [List.take_succ_cons,List.take_zero]
    repeat (go_big_quiet_step ((first | (go_at_call 138;exact bk_call _ (hCn _)) | rfl)))
    refine wpQuiet_nil ?_
    intro wE hw'
    obtain ⟨⟨w11,hb11⟩,hw''⟩ := hw'
    have hwe : wE = w11 := hw''
    clear hw''
    subst hwe
    simp only [List.drop_succ_cons,List.drop_zero]
    have HB9 : Hid (Below w.heap.size w wE) := (HFa.out _ hb11).2
    clear y0 y1 y2 y3 y4 hb11
    go_wp2_with (go_at_call 144;refine (wantF _).mono ?_;rintro e w' ⟨⟨T,v,rfl⟩,hw'⟩;rw [hw'];clear hw')
    exact ⟨rfl,.inr ⟨HOk.out.trans HZ.out,_,_,rfl⟩,HB9.out⟩
   have e7' : (gi == (r.txt.length : Int)) = true := by simpa using e7
   by_cases e8 : (i : Int) ∈ r.sus
   ·have HZ : Hid (OK = false) := H3.out (by rw [decide_eq_true e7,decide_eq_false (by simpa using e8)];rfl)
    rw [decide_eq_true e8] at hCn
    clear e7 H3 H4 H5 e8
    refine wp_region_quiet_tail (C := fun w' => ∃ p : Bk W5,w' = p.w) 18 hmix (by kernel_rfl) ⟨⟨W5.drewN 1,belowN (Below.refl _ _)⟩,rfl⟩ ?_
    simp only [List.take_succ_cons,List.take_zero]
    repeat (go_big_quiet_step ((first | (go_at_call 138;exact bk_call _ (hCn _)) | rfl)))
    refine wpQuiet_nil ?_
    intro wE hw'
    obtain ⟨⟨w11,hb11⟩,hw''⟩ := hw'
    have hwe : wE = w11 := hw''
    clear hw''
    subst hwe
    simp only [List.drop_succ_cons,List.drop_zero]
    have HB9 : Hid (Below w.heap.size w wE) := (HFa.out _ hb11).2
    clear y0 y1 y2 y3 y4 hb11
    go_wp2_with (go_at_call 144;refine (wantF _).mono ?_;rintro e w' ⟨⟨T,v,rfl⟩,hw'⟩;rw [hw'];clear hw')
    exact ⟨rfl,.inr ⟨HOk.out.trans HZ.out,_,_,rfl⟩,HB9.out⟩
   have HZ5 : Hid (sb = true → OK = (if m.done = true then r.rdy else fb)) := H5.out (by rw [decide_eq_true e7,decide_eq_true e8];rfl)
   rw [decide_eq_false e8] at hCn
   clear e7 H3 H5 e8
   refine wp_region_quiet_tail (C := fun w' => ∃ p : Bk W5,w' = p.w) 18 hmix (by kernel_rfl) ⟨⟨W5.drewN 1,belowN (Below.refl _ _)⟩,rfl⟩ ?_
   simp only [List.take_succ_cons,List.take_zero]
   repeat (go_big_quiet_step ((first | (go_at_call 138;exact bk_call _ (hCn _)) | rfl)))
   refine wpQuiet_nil ?_
   intro wE hw'
   obtain ⟨⟨w11,hb11⟩,hw''⟩ := hw'
   have hwe : wE = w11 := hw''
   clear hw''
   subst hwe
   simp only [List.drop_succ_cons,List.drop_zero]
   have HB9 : Hid (Below w.heap.size w wE) := (HFa.out _ hb11).2
   have hBW := (HFa.out _ hb11).1
   have hsu9 := hsu _ hBW
   have hcf9 := hcf _ hBW
   obtain ⟨c0,c1,c2,c3,c4⟩ := Bx.r5 (HMX.out _ hBW)
   obtain ⟨⟨x0,x1,x2,x3⟩,x4,x5,x6,x7⟩ := Bx.r8 (HXr.out.below hb11)
   clear y0 y1 y2 y3 y4 hb11 hBW hCn hsu hcf
   cases sb with
   | false =>
    have HZ : Hid (OK = false) := H4.out rfl
    go_wp2_with (first | (go_at_call 117;refine hsu9.mono ?_;rintro e w' ⟨rfl,hw'⟩;rw [hw'];clear hw') | (go_at_call 144;first | (refine (wantT _).mono ?_;rintro e w' ⟨rfl,hw'⟩;rw [hw'];clear hw') | (refine (wantF _).mono ?_;rintro e w' ⟨⟨T,v,rfl⟩,hw'⟩;rw [hw'];clear hw')))
    exact ⟨rfl,.inr ⟨HOk.out.trans HZ.out,_,_,rfl⟩,HB9.out⟩
   | true =>
    have HZ := HZ5.out rfl
    have HZ6 : Hid (OK = (if m.done = true then r.rdy else fb)) := HZ
    clear HZ HZ5 H4
    cases hd : m.done with
    | true =>
     rw [hd] at c4
     cases hr : r.rdy with
     | true =>
      have HZ : Hid (OK = true) := by rw [Hid,HZ6.out,hd,hr];rfl
      rw [hr] at x5
      clear hd hr
      go_wp2_with (first | (go_at_call 117;refine hsu9.mono ?_;rintro e w' ⟨rfl,hw'⟩;rw [hw'];clear hw') | (go_at_call 144;refine (wantT _).mono ?_;rintro e w' ⟨rfl,hw'⟩;rw [hw'];clear hw'))
      first | go_end0 | go_ret
      exact ⟨.inl ⟨HOk.out.trans HZ.out,rfl⟩,HB9.out⟩
     | false =>
      have HZ : Hid (OK = false) := by rw [Hid,HZ6.out,hd,hr];rfl
      rw [hr] at x5
      clear hd hr
      go_wp2_with (first | (go_at_call 117;refine hsu9.mono ?_;rintro e w' ⟨rfl,hw'⟩;rw [hw'];clear hw') | (go_at_call 144;first | (refine (wantT _).mono ?_;rintro e w' ⟨rfl,hw'⟩;rw [hw'];clear hw') | (refine (wantF _).mono ?_;rintro e w' ⟨⟨T,v,rfl⟩,hw'⟩;rw [hw'];clear hw')))
      exact ⟨rfl,.inr ⟨HOk.out.trans HZ.out,_,_,rfl⟩,HB9.out⟩
    | false =>
     rw [hd] at c4
     cases fb with
     | true =>
      have HZ : Hid (OK = true) := by rw [Hid,HZ6.out,hd];rfl
      clear hd
      go_wp2_with (first | (go_at_call 117;refine hsu9.mono ?_;rintro e w' ⟨rfl,hw'⟩;rw [hw'];clear hw') | (go_at_call 145;refine hcf9.mono ?_;rintro e w' ⟨rfl,hw'⟩;rw [hw'];clear hw') | (go_at_call 144;refine (wantT _).mono ?_;rintro e w' ⟨rfl,hw'⟩;rw [hw'];clear hw'))
      first | go_end0 | go_ret
      exact ⟨.inl ⟨HOk.out.trans HZ.out,rfl⟩,HB9.out⟩
     | false =>
      have HZ : Hid (OK = false) := by rw [Hid,HZ6.out,hd];rfl
      clear hd
      go_wp2_with (first | (go_at_call 117;refine hsu9.mono ?_;rintro e w' ⟨rfl,hw'⟩;rw [hw'];clear hw') | (go_at_call 145;refine hcf9.mono ?_;rintro e w' ⟨rfl,hw'⟩;rw [hw'];clear hw') | (go_at_call 144;first | (refine (wantT _).mono ?_;rintro e w' ⟨rfl,hw'⟩;rw [hw'];clear hw') | (refine (wantF _).mono ?_;rintro e w' ⟨⟨T,v,rfl⟩,hw'⟩;rw [hw'];clear hw')))
      exact ⟨rfl,.inr ⟨HOk.out.trans HZ.out,_,_,rfl⟩,HB9.out⟩
set_option maxRecDepth 100000 in
set_option maxHeartbeats 800000 in
theorem memI_any (A : Ma) (m : Mb) (w : World) (hv : MbP w A m) :
  Calls Try.prog 127 #[mbV A m] w fun e w' => e = .returned (.bool (okMb m)) ∧ Below w.heap.size w w' := by
 have hmf : ∀ (fn : Fn) (first cap : Array Value) (w : World),(Instr.makeFunc fn first cap).run Try.prog w = .ok (.func fn first cap) w := fun _ _ _ _ => rfl
 have hb0 := oneA16 w (.cells (mbC A m) 103)
 have hx0 := Bx.new w 103 (mbC A m)
 have h0 := hv.below hb0
 have hb1 := oneA16 (w.alloc (.cells (mbC A m) 103)) (.cells #[.bool false] 4)
 have hT := told_any 137 #[mbV A m] #[] (w.alloc (.cells (mbC A m) 103)) (fun b X => b = okMb m ∧ Below ((w.alloc (.cells (mbC A m) 103)).alloc (.cells #[.bool false] 4)).heap.size ((w.alloc (.cells (mbC A m) 103)).alloc (.cells #[.bool false] 4)) X) (fun _ _ => enters_of Try.func137 (by kernel_rfl) rfl _ _) ((chk_any A m _ (h0.below hb1)).mono (fun e w' ⟨h1,h2⟩ => by
  rcases h1 with ⟨h,h1⟩ | ⟨h,h1⟩
  ·exact .inl ⟨h1,h.symm,h2⟩
  ·exact .inr ⟨h1,h.symm,h2⟩)) (fun b X h => (Bx.new _ _ _).below h.2)
 have hF : ∀ e w',(∃ b X,e = Ending.returned (.bool b) ∧ (b = okMb m ∧ Below ((w.alloc (.cells (mbC A m) 103)).alloc (.cells #[.bool false] 4)).heap.size ((w.alloc (.cells (mbC A m) 103)).alloc (.cells #[.bool false] 4)) X) ∧ Wrt (fun x => x = (w.alloc (.cells (mbC A m) 103)).heap.size) X w') → e = .returned (.bool (okMb m)) ∧ Below w.heap.size w w' := by
  rintro e w' ⟨b,X,rfl,⟨rfl,h1⟩,h2⟩
  have hs := hb0.size
  have hbX := (hb0.trans (hb1.mono hb0.size)).trans (h1.mono (hb0.trans (hb1.mono hb0.size)).size)
  exact ⟨rfl,h2.below hbX hbX.size (fun b e => by omega)⟩
 have hT2 := hT.mono hF
 obtain ⟨c0,c1,c2,c3,c4⟩ := Bx.r5 hx0
 clear hF hT hb1 h0 hx0 hb0 hv
 unfold mbV mbC at *
 generalize okMb m = OK at *
 generalize hWW : w.alloc (.cells #[.int .i64 m.id,.int .i64 m.n,.slice A.ra m.rows.length A.rc,.slice A.sa m.sung.length A.sc,.bool m.done] 103) = W at *
 go_enter Try.func127,Try.ntmps127
 go_wp2_with (go_at_call 136;refine hT2.mono ?_;rintro e w1 ⟨rfl,hb1⟩;have HB1 : Hid (Below w.heap.size w w1) := hb1;clear hb1)
 go_ret
 exact ⟨rfl,HB1.out⟩
end Go.Proofs.Ytlnmdfgcpfbleaa
namespace Go.Proofs.Ytlnmdfgcpfbleaa
set_option linter.unusedVariables false
set_option linter.unusedSimpArgs false
open Go.RowKit Go.Sort
def belN (n : Int) (xs : List Int) : Bool := (List.range xs.length).all (fun i => inB (el xs i) 0 (n - 1) && decide (el xs i ∉ xs.take i))
theorem belN_two (n f t : Int) : belN n [f,t] = (inB f 0 (n - 1) && (inB t 0 (n - 1) && decide (f ≠ t))) := by
 have e : List.range [f,t].length = [0,1] := rfl
 rw [belN,e]
 simp [el,eq_comm]
theorem take_in {a : Option Addr} {n c j : Nat} (ha : a ≠ none) (hj : j ≤ n) (hc : n ≤ c) (hm : c ≤ maxLen) (X : World) :
  (Instr.slice 24 (.slice a n c) none (some (.int .i64 (j : Int))) none).run Try.prog X = .ok (.slice a j c) X := by
 obtain ⟨i0,hi0,hz0,hz1,hz2⟩ := info_parts2n Try.info2n
 unfold maxLen at hm
 have hs : (Instr.slice 24 (.slice a n c) none (some (.int .i64 (j : Int))) none).run Try.prog X = .ok (sliced a 0 j c 1) X := by
  rw [run_slice_h X 24 a n c (by kernel_rfl) .i64 (j : Int) (by omega) (by omega)]
  rw [show Try.prog.elem 24 = 2 by kernel_rfl]
  rw [run_sizeOf X hi0,show Try.prog.cellsOf 2 = 1 by kernel_rfl]
  simp [Result.andThen]
 rw [hs]
 have e : (if c = 0 then a else a.map (·.add (0 * 1))) = a := by
  split
  ·rfl
  ·cases a with
   | none => exact absurd rfl ha
   | some p => simp [Addr.add]
 simp only [sliced,e,Nat.sub_zero]
set_option maxHeartbeats 800000 in
theorem anb_any (n : Int) (b off c : Nat) (xs : List Int) (w : World) (hv : Vec w (some ⟨b,off,none⟩) xs.length xs) (hl : xs.length ≤ 100) (hc : xs.length ≤ c) (hm : c ≤ maxLen) (hn : -1000000 ≤ n ∧ n ≤ 1000000) :
  Calls Try.prog 128 #[.int .i64 n,.slice (some ⟨b,off,none⟩) xs.length c] w fun e w' => e = .returned (.bool (belN n xs)) ∧ w' = w := by
 have HV : Hid (Vec w (some ⟨b,off,none⟩) xs.length xs) := hv
 have hw : wrap64 (n - 1) = n - 1 := by unfold wrap64;omega
 have hsl := fun (j : Nat) (hj : j ≤ xs.length) (X : World) => take_in (a := some ⟨b,off,none⟩) (n := xs.length) (c := c) (j := j) (by simp) hj hc hm X
 have HSl : Hid (∀ (j : Nat),j ≤ xs.length → ∀ X : World,(Instr.slice 24 (.slice (some ⟨b,off,none⟩) xs.length c) none (some (.int .i64 (j : Int))) none).run Try.prog X = .ok (.slice (some ⟨b,off,none⟩) j c) X) := hsl
 have HC : Hid (∀ j,j < xs.length → Calls Try.prog 138 #[.slice (some ⟨b,off,none⟩) j c,.int .i64 (el xs j)] w fun e w' => e = .returned (.bool (decide (el xs j ∈ xs.take j))) ∧ w' = w) := fun j hj => by
  have e : (xs.take j).length = j := by rw [List.length_take];omega
  have hvt : Vec w (some ⟨b,off,none⟩) (xs.take j).length (xs.take j) := by
   refine ⟨rfl,fun x hx => hv.2.1 x (List.mem_of_mem_take hx),.inr ⟨b,off,rfl,fun k hk => ?_⟩⟩
   rcases hv.2.2 with h0 | ⟨b',o',ee,hcell⟩
   ·omega
   ·cases ee
    rw [hcell k (by omega)]
    simp [el,List.getD,show k < j by omega]
  have := con14_any (some ⟨b,off,none⟩) c (xs.take j) (el xs j) w hvt (by unfold maxLen;omega)
  rw [e] at this
  exact this
 clear hv hsl
 go_enter Try.func128,Try.ntmps128
 go_wp2
 go_loop [9] (fun i => ∃ k : Nat,k ≤ xs.length ∧ i = .int .i64 (k : Int) ∧ Hid (∀ j,j < k → (inB (el xs j) 0 (n - 1) && decide (el xs j ∉ xs.take j)) = true)) (fun i => xs.length - (intOf i).toNat)
 case atStart => exact ⟨0,Nat.zero_le _,rfl,fun j hj => by omega⟩
 case round =>
  obtain ⟨k,hk,rfl,HA⟩ := hrel
  by_cases hlt : k < xs.length
  ·rcases HV.out.2.2 with h0 | ⟨b',o',ee,hcell⟩
   ·omega
   cases ee
   have hck := hcell k hlt
   have k1 : (k : Int) < (xs.length : Int) := by omega
   have k0 : (0 : Int) ≤ (k : Int) := by omega
   have hT := HSl.out k hk
   have hCk := HC.out k hlt
   have hI : ∀ z,z = n - 1 → Calls Try.prog 114 #[.int .i64 (el xs k),.int .i64 z] w fun e w' => e = .returned (.bool (inB (el xs k) 0 (n - 1))) ∧ w' = w := fun z hz => by rw [hz];exact isW14_any _ _ w
   have HF : Hid ((inB (el xs k) 0 (n - 1) && decide (el xs k ∉ xs.take k)) = false → belN n xs = false) := fun h => by
    rw [belN,List.all_eq_false]
    exact ⟨k,List.mem_range.2 hlt,by rw [h];decide⟩
   have HT : Hid ((inB (el xs k) 0 (n - 1) && decide (el xs k ∉ xs.take k)) = true → ∀ j,j < k + 1 → (inB (el xs j) 0 (n - 1) && decide (el xs j ∉ xs.take j)) = true) := fun h j hj => by
    rcases Nat.lt_succ_iff_lt_or_eq.1 hj with h1 | h1
    ·exact HA.out j h1
    ·rw [h1];exact h
   clear hcell
   have hd : decide (el xs k ∉ xs.take k) = !decide (el xs k ∈ xs.take k) := by simp
   rw [hd] at HF HT
   clear hd
   generalize decide (el xs k ∈ xs.take k) = q at *
   generalize inB (el xs k) 0 (n - 1) = p at *
   generalize el xs k = x at *
   cases p with
   | false =>
    have HZ : Hid (belN n xs = false) := HF.out rfl
    clear HF HT
    go_wp2_with (go_at_call 114;refine (hI _ (by first | rfl | exact hw)).mono ?_;rintro e w' ⟨rfl,hw'⟩;rw [hw'];clear hw')
    go_ret
    exact ⟨ret_bool (by rw [HZ.out]),rfl⟩
   | true =>
    cases q with
    | true =>
     have HZ : Hid (belN n xs = false) := HF.out rfl
     clear HF HT
     go_wp2_with (first | (go_at_call 114;refine (hI _ (by first | rfl | exact hw)).mono ?_;rintro e w' ⟨rfl,hw'⟩;rw [hw'];clear hw') | (go_at_call 138;refine hCk.mono ?_;rintro e w' ⟨rfl,hw'⟩;rw [hw'];clear hw'))
     go_ret
     exact ⟨ret_bool (by rw [HZ.out]),rfl⟩
    | false =>
     have HZ : Hid _ := HT.out rfl
     clear HF HT
     go_wp2_with (first | (go_at_call 114;refine (hI _ (by first | rfl | exact hw)).mono ?_;rintro e w' ⟨rfl,hw'⟩;rw [hw'];clear hw') | (go_at_call 138;refine hCk.mono ?_;rintro e w' ⟨rfl,hw'⟩;rw [hw'];clear hw'))
     go_round
     case rel => exact ⟨k + 1,by omega,by go_num,HZ⟩
     case measure => simp [intOf];omega
  ·have k1 : ¬ ((k : Int) < (xs.length : Int)) := by omega
   have HZ : Hid (belN n xs = true) := by
    rw [Hid,belN,List.all_eq_true]
    intro j hj
    exact HA.out j (by have := List.mem_range.1 hj;omega)
   go_wp2
   go_ret
   exact ⟨ret_bool (by rw [HZ.out]),rfl⟩
theorem GrP.below {w w' : World} {A : Ga} {g : Gr} (h : GrP w A g) (hb : Below w.heap.size w w') : GrP w' A g := by
 obtain ⟨f,hf⟩ := h.own
 exact ⟨⟨f,owL_below hf hb⟩,h.fit,h.i64,h.sz⟩
theorem GrP.grs {w : World} {A : Ga} {g : Gr} (h : GrP w A g) : GrS w A g := by
 obtain ⟨f,hf⟩ := h.own
 exact grs_of (owL_vw hf) h.fit
theorem memN_mem {g : Gr} {k : Nat} (hk : k < g.mem.length) : memN g k ∈ g.mem := List.mem_of_getElem? (memN_at hk)
theorem mailN_mem {g : Gr} {k : Nat} (hk : k < g.mail.length) : mailN g k ∈ g.mail := List.mem_of_getElem? (mailN_at hk)
theorem szMb_mem {g : Gr} {m : Mb} (h : m ∈ g.mem) : szMb m ≤ szGr g := by
 obtain ⟨k,hk,rfl⟩ := List.mem_iff_getElem.1 h
 have h1 := zPm_next (R := g.mem) hk
 have h2 := zPm_mono (R := g.mem) (show k + 1 ≤ g.mem.length by omega)
 have e : mbN g.mem k = g.mem[k] := by simp [mbN,List.getD,hk]
 rw [e] at h1
 unfold szGr szMs
 omega
theorem szMl_mem {g : Gr} {x : Ml} (h : x ∈ g.mail) : szRw x.row ≤ szGr g := by
 obtain ⟨k,hk,rfl⟩ := List.mem_iff_getElem.1 h
 have h1 := zPl_next (R := g.mail) hk
 have h2 := zPl_mono (R := g.mail) (show k + 1 ≤ g.mail.length by omega)
 have e : mlN g.mail k = g.mail[k] := by simp [mlN,List.getD,hk]
 rw [e] at h1
 have h3 : szMl g.mail[k] = szRw g.mail[k].row := rfl
 unfold szGr szLs
 omega
theorem GrP.member {w : World} {A : Ga} {g : Gr} (h : GrP w A g) {k : Nat} (hk : k < g.mem.length) : ∃ b off Ak,A.ma = some ⟨b,off,none⟩ ∧ C5 w b (off + k * 5) (.int .i64 (memN g k).id) (.int .i64 (memN g k).n) (.slice Ak.ra (memN g k).rows.length Ak.rc) (.slice Ak.sa (memN g k).sung.length Ak.sc) (.bool (memN g k).done) ∧ MbP w Ak (memN g k) := by
 obtain ⟨f,hf⟩ := h.own
 obtain ⟨u1,us1,f1,f2,e,o1,_,_,_⟩ := hf
 cases e
 obtain ⟨b,off,f3,hra,_,_,⟨vs,hpc,hov,_⟩,_⟩ := ow_elF mb5_len (by omega) o1 (memN_at hk)
 obtain ⟨Ak,rfl,hl⟩ := mb5_ow hov
 have hl5 : (mbC Ak (memN g k)).toList.length = 5 := rfl
 have c := hpc.cell
 exact ⟨b,off,Ak,hra,⟨c 0 (by rw [hl5];omega),c 1 (by rw [hl5];omega),c 2 (by rw [hl5];omega),c 3 (by rw [hl5];omega),c 4 (by rw [hl5];omega)⟩,⟨f3,hl⟩,h.fit.1 _ (memN_mem hk),h.i64.1 _ (memN_mem hk),Nat.le_trans (szMb_mem (memN_mem hk)) h.sz⟩
theorem GrP.letter {w : World} {A : Ga} {g : Gr} (h : GrP w A g) {k : Nat} (hk : k < g.mail.length) : ∃ b off Ak,A.la = some ⟨b,off,none⟩ ∧ w.cell? ⟨b,off + k * 10,none⟩ = some (.int .i64 (mailN g k).fr) ∧ w.cell? ⟨b,off + k * 10 + 1,none⟩ = some (.int .i64 (mailN g k).to) ∧ C8 w b (off + k * 10 + 2) (.int .i64 (mailN g k).row.ver) (.slice Ak.ta (mailN g k).row.txt.length Ak.tc) (.slice Ak.ga (mailN g k).row.got.length Ak.gc) (.slice Ak.sa (mailN g k).row.sus.length Ak.sc) (.bool (mailN g k).row.wed) (.bool (mailN g k).row.rdy) (.int .i64 (mailN g k).row.by_) (.slice Ak.ma (mailN g k).row.trm.length Ak.mc) ∧ RwP w Ak (mailN g k).row := by
 obtain ⟨f,hf⟩ := h.own
 obtain ⟨u1,us1,f1,f2,e,_,hf2,_,_⟩ := hf
 cases e
 obtain ⟨u2,us2,f4,f5,e,_,hf3,_,_⟩ := hf2
 cases e
 obtain ⟨u3,us3,f6,f7,e,o3,_,_,_⟩ := hf3
 cases e
 obtain ⟨b,off,f3,hra,_,_,⟨vs,hpc,hov,_⟩,_⟩ := ow_elF ml10_len (by omega) o3 (mailN_at hk)
 obtain ⟨us0,rfl,hq0⟩ := owL_v' hov
 obtain ⟨us9,rfl,hq1⟩ := owL_v' hq0
 obtain ⟨Ak,rfl,hl⟩ := rw8_ow hq1
 have hl8 : (rwC Ak (mailN g k).row).toList.length = 8 := rfl
 have c := hpc.cell
 have c' : ∀ j,j < 8 → w.cell? ⟨b,off + k * 10 + 2 + j,none⟩ = (rwC Ak (mailN g k).row).toList[j]? := fun j hj => by
  have := c (j + 2) (by simp [hl8];omega)
  rw [show off + k * 10 + (j + 2) = off + k * 10 + 2 + j by omega] at this
  rw [this]
  simp [hl8,hj]
 have hx := mailN_mem hk
 refine ⟨b,off,Ak,hra,c 0 (by simp),c 1 (by simp),⟨⟨c' 0 (by omega),c' 1 (by omega),c' 2 (by omega),c' 3 (by omega)⟩,c' 4 (by omega),c' 5 (by omega),c' 6 (by omega),c' 7 (by omega)⟩,it_rwp (owL_it hl (lo := 0) (fun b _ => Nat.zero_le b)) (h.fit.2 _ hx) (h.i64.2 _ hx).2.2 (Nat.le_trans (szMl_mem hx) h.sz)⟩
end Go.Proofs.Ytlnmdfgcpfbleaa