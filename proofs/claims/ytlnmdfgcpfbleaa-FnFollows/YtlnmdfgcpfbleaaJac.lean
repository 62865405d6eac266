/-
  Texts in one: Vws Vwt Rlo Rfu Rcn Rpu Rpn Dhl Vwa Iti Vwh Rzh Rzm Rdk Tlr Drt.
-/
import Derived.Test.YtlnmdfgcpfbleaaJab
import Derived.Test.YtlnmdfgcpfbleaaJaa
import Derived.Deep.RegionHeld3
import Derived.StillTail
import Derived.OrdersHeld
import Derived.Deep.RegionHeld
namespace Go.Proofs.Ytlnmdfgcpfbleaa
set_option linter.unusedVariables false
set_option linter.unusedSimpArgs false
open Go.RowKit Go.Sort
end Go.Proofs.Ytlnmdfgcpfbleaa
namespace Go.Proofs.Ytlnmdfgcpfbleaa
set_option linter.unusedVariables false
set_option linter.unusedSimpArgs false
open Go.RowKit Go.Sort
end Go.Proofs.Ytlnmdfgcpfbleaa
namespace Go.Proofs.Ytlnmdfgcpfbleaa
set_option linter.unusedVariables false
set_option linter.unusedSimpArgs false
open Go.RowKit Go.Sort
end Go.Proofs.Ytlnmdfgcpfbleaa
namespace Go.Proofs.Ytlnmdfgcpfbleaa
set_option linter.unusedVariables false
set_option linter.unusedSimpArgs false
open Go.RowKit Go.Sort
end Go.Proofs.Ytlnmdfgcpfbleaa
namespace Go.Proofs.Ytlnmdfgcpfbleaa
set_option linter.unusedVariables false
set_option linter.unusedSimpArgs false
open Go.RowKit Go.Sort
theorem below_cell {w w' : World} (hb : Below w.heap.size w w') {p : Addr} {v : Value} (h : w.cell? p = some v) : w'.cell? p = some v := (hb.cell (World.block_lt_of_cell? _ _ h)).trans h
end Go.Proofs.Ytlnmdfgcpfbleaa
namespace Go.Proofs.Ytlnmdfgcpfbleaa
set_option linter.unusedVariables false
set_option linter.unusedSimpArgs false
open Go.RowKit Go.Sort
theorem putL_at (n : Int) : ∀ (h : List Int) (k : Nat),k ≤ h.length → (∀ t,t < k → el h t < n) → (k < h.length → ¬ el h k < n) →
  putL h n = if k < h.length ∧ el h k = n then h else h.take k ++ n :: h.drop k := by
 intro h
 induction h with
 | nil => intro k hk _ _;simp at hk;subst hk;simp [putL]
 | cons x l ih =>
  intro k hk hlt hge
  cases k with
  | zero =>
   have h0 : ¬ x < n := by simpa [el] using hge (by simp)
   unfold putL
   rw [if_neg h0]
   by_cases e : x = n
   ·rw [if_pos e,if_pos ⟨by simp,by simpa [el] using e⟩]
   ·rw [if_neg e,if_neg (by simp [el];exact e)]
    simp
  | succ k =>
   have h0 : x < n := by simpa [el] using hlt 0 (by omega)
   have hs : ∀ t,el (x :: l) (t + 1) = el l t := fun t => by simp [el]
   unfold putL
   rw [if_pos h0,ih k (by simpa using hk) (fun t ht => by rw [← hs];exact hlt (t + 1) (by omega)) (fun hk' => by rw [← hs];exact hge (by simpa using hk')),hs]
   by_cases e : k < l.length ∧ el l k = n
   ·rw [if_pos e,if_pos ⟨by simpa using e.1,e.2⟩]
   ·rw [if_neg e,if_neg (by simpa using e)]
    simp
theorem el_take {xs : List Int} {k i : Nat} (h : i < k) : el (xs.take k) i = el xs i := by simp [el,List.getElem?_take,h]
theorem el_drop {xs : List Int} {k i : Nat} : el (xs.drop k) i = el xs (k + i) := by simp [el,List.getElem?_drop]
theorem app_one {w w2 : World} {g2 o2 c2 m : Nat} {Z : List Int} (ho2 : OSl w2 1 g2 o2 (0 + m) c2 (([] : List Int).map (Value.int .i64) ++ Z.map (Value.int .i64))) (hg2 : (w.alloc (.cells #[] 2)).grownBy w2 (some w.heap.size))
  (hat2 : g2 = w.heap.size ∨ g2 = (w.alloc (.cells #[] 2)).heap.size) : OI w2 g2 o2 m c2 Z ∧ w.heap.size ≤ g2 ∧ Below w.heap.size w w2 ∧ g2 < w2.heap.size := by
 simp only [List.map_nil,List.nil_append,Nat.zero_add] at ho2
 refine ⟨ho2, ?_,below_grown6 ((Below.refl _ _).alloc (Nat.le_refl _) _) hg2 (Nat.le_refl _) (by simp),ho2.blk⟩
 rcases hat2 with h | h
 ·rw [h];exact Nat.le_refl _
 ·rw [h];simp
theorem app_more {w w3 w4 : World} {o : Obj} {g3 g4 o4 c4 m k : Nat} {T : List Int} {n : Int} (hB : Below w.heap.size w w3) (hg : w.heap.size ≤ g3) (ho : OSl w4 1 g4 o4 (k + 1) c4 (T.map (Value.int .i64) ++ [.int .i64 n])) (hg4 : (w3.alloc o).grownBy w4 (some g3))
  (hat : g4 = g3 ∨ g4 = (w3.alloc o).heap.size) : OI w4 g4 o4 (k + 1) c4 (T ++ [n]) ∧ w.heap.size ≤ g4 ∧ Below w.heap.size w w4 := by
 refine ⟨by rw [OI,List.map_append];exact ho, ?_,below_grown6 (hB.alloc hB.size _) hg4 hg (Nat.le_trans hB.size (by simp))⟩
 rcases hat with h | h
 ·rw [h];exact hg
 ·rw [h];exact Nat.le_trans hB.size (by simp)
theorem app_last {w w4 w5 : World} {g4 g5 o5 c5 m k : Nat} {T D : List Int} {n : Int} (hB : Below w.heap.size w w4) (hg : w.heap.size ≤ g4) (ho : OSl w5 1 g5 o5 (k + 1 + m) c5 ((T ++ [n]).map (Value.int .i64) ++ D.map (Value.int .i64))) (hg5 : w4.grownBy w5 (some g4))
  (hat : g5 = g4 ∨ g5 = w4.heap.size) : OI w5 g5 o5 (k + 1 + m) c5 (T ++ n :: D) ∧ w.heap.size ≤ g5 ∧ Below w.heap.size w w5 := by
 refine ⟨by rw [OI,show T ++ n :: D = (T ++ [n]) ++ D by simp,List.map_append];exact ho, ?_,below_grown6 hB hg5 hg hB.size⟩
 rcases hat with h | h
 ·rw [h];exact hg
 ·rw [h];exact hB.size
set_option maxRecDepth 100000 in
set_option maxHeartbeats 3200000 in
theorem putS_any (b off len cap : Nat) (xs : List Int) (n : Int) (w : World) (hl : xs.length = len) (hc : ∀ i,i < len → w.cell? ⟨b,off + i,none⟩ = some (.int .i64 (el xs i))) (hcap : len ≤ cap) (hm : cap ≤ maxLen) (hn : len ≤ 100000000) :
  Calls Try.prog 113 #[.slice (some ⟨b,off,none⟩) len cap,.int .i64 n] w fun e w' => (e = .returned (.slice (some ⟨b,off,none⟩) len cap) ∧ putL xs n = xs ∧ w' = w) ∨ AnsN w w' e (putL xs n) := by
 obtain ⟨i0,hi0,hz0,hz1,hz2⟩ := info_parts2n Try.info2n
 unfold maxLen at hm
 have HL : Hid (xs.length = len) := hl
 have HP : Hid (∀ k,k ≤ len → (∀ t,t < k → el xs t < n) → (k < len → ¬ el xs k < n) → putL xs n = if k < len ∧ el xs k = n then xs else xs.take k ++ n :: xs.drop k) := fun k h1 h2 h3 => by
  have := putL_at n xs k (by omega) h2 (by rw [hl];exact h3)
  rw [hl] at this
  exact this
 clear hl
 go_enter Try.func113,Try.ntmps113
 go_wp2_with fail
 go_loop [5] (fun i => ∃ k : Nat,k ≤ len ∧ i = .int .i64 k ∧ ∀ t,t < k → el xs t < n) (fun i => len - (intOf i).toNat)
 case atStart => exact ⟨0,Nat.zero_le _,rfl,fun t ht => by omega⟩
 case round =>
  obtain ⟨k,hk,rfl,hlo⟩ := hrel
  have HO : Hid (∀ t,t < k → el xs t < n) := hlo
  clear hlo
  have k0 : (0 : Int) ≤ (k : Int) := by omega
  by_cases hlt : k < len
  ·have hck := hc k hlt
   have k1 : (k : Int) < (len : Int) := by omega
   by_cases hx : el xs k < n
   ·have hd : decide (el xs k < n) = true := by simpa using hx
    have HE : Hid (∀ t,t < k + 1 → el xs t < n) := fun t ht => by
     rcases Nat.lt_succ_iff_lt_or_eq.1 ht with h1 | h1
     ·exact HO.out t h1
     ·rw [h1];exact hx
    go_wp2
    go_round
    case rel => exact ⟨k + 1,by omega,by go_num,HE.out⟩
    case measure => simp [intOf];omega
   ·have hd : decide (el xs k < n) = false := by simpa using hx
    have HQ := HP.out k hk HO.out (fun _ => by omega)
    by_cases he : el xs k = n
    ·have hb : (el xs k == n) = true := by simpa using he
     have HZ : Hid (putL xs n = xs) := by rw [Hid,HQ,if_pos ⟨hlt,he⟩]
     clear HQ he hx
     go_wp2
     go_ret
     exact .inl ⟨rfl,HZ.out,rfl⟩
    ·have hb : (el xs k == n) = false := by simpa using he
     have HZ : Hid (putL xs n = xs.take k ++ n :: xs.drop k) := by rw [Hid,HQ,if_neg (fun h => he h.2)]
     clear HQ he hx
     have k2 : (k : Int) ≤ (len : Int) := by omega
     have k3 : (k : Int) ≤ (cap : Int) := by omega
     have HTl : Hid ((xs.take k).length = k) := by rw [Hid,List.length_take,HL.out];omega
     have HDl : Hid ((xs.drop k).length = len - k) := by rw [Hid,List.length_drop,HL.out]
     have HD : Hid (∀ i,i < (xs.drop k).length → (w.alloc (.cells #[] 2)).cell? ⟨b,off + k + i,none⟩ = some (.int .i64 (el (xs.drop k) i))) := fun i hi => by
      rw [el_drop,Nat.add_assoc]
      exact below_cell ((Below.refl _ _).alloc (Nat.le_refl _) _) (hc (k + i) (by have := HDl.out;omega))
     have HT : Hid (∀ i,i < (xs.take k).length → w.cell? ⟨b,off + i,none⟩ = some (.int .i64 (el (xs.take k) i))) := fun i hi => by
      rw [el_take (by have := HTl.out;omega)]
      exact hc i (by have := HTl.out;omega)
     clear hc
     generalize xs.take k = T at *
     generalize xs.drop k = D at *
     have hTn : (T.map (Value.int .i64)).length = k * 1 := by rw [List.length_map,HTl.out];omega
     have hDn : (D.map (Value.int .i64)).length = (len - k) * 1 := by rw [List.length_map,HDl.out];omega
     go_wp2_with (first
      | (at_builtin;refine wpList_append_os _ rfl (.tmp 34) (.tmp 37) _ rfl 2 i0 _ 1 8 Try.underlying24 hi0 hz0 hz1 hz2 rfl (by omega) w.heap.size 0 0 0 (([] : List Int).map (Value.int .i64)) rfl (num_empty w 2) ⟨b,off + k,none⟩ (len - k) (cap - k) (D.map (Value.int .i64)) rfl hDn (num_news HD.out) (by simp [Value.oneCell']) (by unfold maxLen;omega) (by omega) ?_;intro g2 o2 c2 w2 ho2 hg2 hat2;obtain ⟨q2,r2,s2,t2⟩ := app_one ho2 hg2 hat2;clear ho2 hg2 hat2)
      | (at_builtin;refine wpList_append_os _ rfl (.tmp 39) (.tmp 42) _ rfl 2 i0 _ 1 8 Try.underlying24 hi0 hz0 hz1 hz2 rfl (by omega) w2.heap.size 0 0 0 (([] : List Int).map (Value.int .i64)) rfl (num_empty w2 2) ⟨b,off,none⟩ k cap (T.map (Value.int .i64)) rfl hTn (num_news (fun i hi => below_cell ((Below.refl _ _).alloc (Nat.le_refl _) _) (below_cell s2 (HT.out i hi)))) (by simp [Value.oneCell']) (by unfold maxLen;omega) (by omega) ?_;intro g3 o3 c3 w3 ho3 hg3 hat3;obtain ⟨q3,r3,s3,t3⟩ := app_one ho3 hg3 hat3;clear ho3 hg3 hat3)
      | (at_builtin;refine wpList_append_os _ rfl (.tmp 43) (.tmp 45) _ rfl 2 i0 _ 1 8 Try.underlying24 hi0 hz0 hz1 hz2 rfl (by omega) g3 o3 k c3 (T.map (Value.int .i64)) rfl (OSl.below q3 ((Below.refl _ _).alloc (Nat.le_refl _) _) t3) ⟨w3.heap.size,0,none⟩ 1 1 [.int .i64 n] rfl rfl (World.news_of_block (cs := #[.int .i64 n]) (t := 2) (fr := (0,0)) (heap_alloc_new _ _)) (by simp [Value.oneCell']) (by unfold maxLen;omega) (by omega) ?_;intro g4 o4 c4 w4 ho4 hg4 hat4;obtain ⟨q4,r4,s4⟩ := app_more (m := 0) s3 r3 ho4 hg4 hat4;clear ho4 hg4 hat4)
      | (at_builtin;refine wpList_append_os _ rfl (.tmp 46) (.tmp 47) _ rfl 2 i0 _ 1 8 Try.underlying24 hi0 hz0 hz1 hz2 rfl (by omega) g4 o4 (k + 1) c4 ((T ++ [n]).map (Value.int .i64)) rfl q4 ⟨g2,o2,none⟩ (len - k) c2 (D.map (Value.int .i64)) rfl hDn (num_news (fun i hi => OI.cellAt (show OI w4 g2 o2 (len - k) c2 D from OSl.below q2 s4 t2) (by have := HDl.out;omega))) (by simp [Value.oneCell']) (by unfold maxLen;omega) (by omega) ?_;intro g5 o5 c5 w5 ho5 hg5 hat5;obtain ⟨q5,r5,s5⟩ := app_last s4 r4 ho5 hg5 hat5;clear ho5 hg5 hat5))
     go_ret
     refine .inr ⟨g5,o5,c5, ?_,Nat.le_trans s2.size r5, ?_,s2.trans (s5.mono s2.size)⟩
     ·rw [HZ.out,List.length_append,List.length_cons,HTl.out,HDl.out]
      exact congrArg (fun z => Ending.returned (.slice (some ⟨g5,o5,none⟩) z c5)) (by omega)
     ·rw [HZ.out,List.length_append,List.length_cons,HTl.out,HDl.out,show k + (len - k + 1) = k + 1 + (len - k) by omega]
      exact q5
  ·have HQ := HP.out k hk HO.out (fun h => absurd h hlt)
   have HZ : Hid (putL xs n = xs.take k ++ n :: xs.drop k) := by rw [Hid,HQ,if_neg (fun h => hlt h.1)]
   clear HQ
   have hkl : len = k := by omega
   subst hkl
   clear hlt
   by_cases hcl : len = cap
   ·subst hcl
    have k2 : (0 : Int) ≤ (len : Int) := by omega
    have k3 : (len : Int) ≤ (len : Int) := by omega
    have HTl : Hid ((xs.take len).length = len) := by rw [Hid,List.length_take,HL.out];omega
    have HDl : Hid ((xs.drop len).length = 0) := by rw [Hid,List.length_drop,HL.out];omega
    have HD : Hid (∀ i,i < (xs.drop len).length → (w.alloc (.cells #[] 2)).cell? ⟨b,off + i,none⟩ = some (.int .i64 (el (xs.drop len) i))) := fun i hi => absurd hi (by have := HDl.out;omega)
    have HT : Hid (∀ i,i < (xs.take len).length → w.cell? ⟨b,off + i,none⟩ = some (.int .i64 (el (xs.take len) i))) := fun i hi => by
     rw [el_take (by have := HTl.out;omega)]
     exact hc i (by have := HTl.out;omega)
    clear hc
    generalize xs.take len = T at *
    generalize xs.drop len = D at *
    have hTn : (T.map (Value.int .i64)).length = len * 1 := by rw [List.length_map,HTl.out];omega
    have hDn : (D.map (Value.int .i64)).length = 0 * 1 := by rw [List.length_map,HDl.out]
    go_wp2_with (first
     | (at_builtin;refine wpList_append_os _ rfl (.tmp 34) (.tmp 37) _ rfl 2 i0 _ 1 8 Try.underlying24 hi0 hz0 hz1 hz2 rfl (by omega) w.heap.size 0 0 0 (([] : List Int).map (Value.int .i64)) rfl (num_empty w 2) ⟨b,off,none⟩ 0 0 (D.map (Value.int .i64)) rfl hDn (num_news HD.out) (by simp [Value.oneCell']) (by unfold maxLen;omega) (by omega) ?_;intro g2 o2 c2 w2 ho2 hg2 hat2;obtain ⟨q2,r2,s2,t2⟩ := app_one ho2 hg2 hat2;clear ho2 hg2 hat2)
     | (at_builtin;refine wpList_append_os _ rfl (.tmp 39) (.tmp 42) _ rfl 2 i0 _ 1 8 Try.underlying24 hi0 hz0 hz1 hz2 rfl (by omega) w2.heap.size 0 0 0 (([] : List Int).map (Value.int .i64)) rfl (num_empty w2 2) ⟨b,off,none⟩ len len (T.map (Value.int .i64)) rfl hTn (num_news (fun i hi => below_cell ((Below.refl _ _).alloc (Nat.le_refl _) _) (below_cell s2 (HT.out i hi)))) (by simp [Value.oneCell']) (by unfold maxLen;omega) (by omega) ?_;intro g3 o3 c3 w3 ho3 hg3 hat3;obtain ⟨q3,r3,s3,t3⟩ := app_one ho3 hg3 hat3;clear ho3 hg3 hat3)
     | (at_builtin;refine wpList_append_os _ rfl (.tmp 43) (.tmp 45) _ rfl 2 i0 _ 1 8 Try.underlying24 hi0 hz0 hz1 hz2 rfl (by omega) g3 o3 len c3 (T.map (Value.int .i64)) rfl (OSl.below q3 ((Below.refl _ _).alloc (Nat.le_refl _) _) t3) ⟨w3.heap.size,0,none⟩ 1 1 [.int .i64 n] rfl rfl (World.news_of_block (cs := #[.int .i64 n]) (t := 2) (fr := (0,0)) (heap_alloc_new _ _)) (by simp [Value.oneCell']) (by unfold maxLen;omega) (by omega) ?_;intro g4 o4 c4 w4 ho4 hg4 hat4;obtain ⟨q4,r4,s4⟩ := app_more (m := 0) s3 r3 ho4 hg4 hat4;clear ho4 hg4 hat4)
     | (at_builtin;refine wpList_append_os _ rfl (.tmp 46) (.tmp 47) _ rfl 2 i0 _ 1 8 Try.underlying24 hi0 hz0 hz1 hz2 rfl (by omega) g4 o4 (len + 1) c4 ((T ++ [n]).map (Value.int .i64)) rfl q4 ⟨g2,o2,none⟩ 0 c2 (D.map (Value.int .i64)) rfl hDn (num_news (fun i hi => OI.cellAt (show OI w4 g2 o2 0 c2 D from OSl.below q2 s4 t2) (by have := HDl.out;omega))) (by simp [Value.oneCell']) (by unfold maxLen;omega) (by omega) ?_;intro g5 o5 c5 w5 ho5 hg5 hat5;obtain ⟨q5,r5,s5⟩ := app_last s4 r4 ho5 hg5 hat5;clear ho5 hg5 hat5))
    go_ret
    refine .inr ⟨g5,o5,c5, ?_,Nat.le_trans s2.size r5, ?_,s2.trans (s5.mono s2.size)⟩
    ·rw [HZ.out,List.length_append,List.length_cons,HTl.out,HDl.out]
     exact congrArg (fun z => Ending.returned (.slice (some ⟨g5,o5,none⟩) z c5)) (by omega)
    ·rw [HZ.out,List.length_append,List.length_cons,HTl.out,HDl.out,show len + (0 + 1) = len + 1 + 0 by omega]
     exact q5
   ·have hcl2 : ¬ (cap = len) := fun h => hcl h.symm
    have k2 : (0 : Int) ≤ (len : Int) := by omega
    have k3 : (len : Int) ≤ (cap : Int) := by omega
    have HTl : Hid ((xs.take len).length = len) := by rw [Hid,List.length_take,HL.out];omega
    have HDl : Hid ((xs.drop len).length = 0) := by rw [Hid,List.length_drop,HL.out];omega
    have HD : Hid (∀ i,i < (xs.drop len).length → (w.alloc (.cells #[] 2)).cell? ⟨b,off + len + i,none⟩ = some (.int .i64 (el (xs.drop len) i))) := fun i hi => absurd hi (by have := HDl.out;omega)
    have HT : Hid (∀ i,i < (xs.take len).length → w.cell? ⟨b,off + i,none⟩ = some (.int .i64 (el (xs.take len) i))) := fun i hi => by
     rw [el_take (by have := HTl.out;omega)]
     exact hc i (by have := HTl.out;omega)
    clear hc
    generalize xs.take len = T at *
    generalize xs.drop len = D at *
    have hTn : (T.map (Value.int .i64)).length = len * 1 := by rw [List.length_map,HTl.out];omega
    have hDn : (D.map (Value.int .i64)).length = 0 * 1 := by rw [List.length_map,HDl.out]
    go_wp2_with (first
     | (at_builtin;refine wpList_append_os _ rfl (.tmp 34) (.tmp 37) _ rfl 2 i0 _ 1 8 Try.underlying24 hi0 hz0 hz1 hz2 rfl (by omega) w.heap.size 0 0 0 (([] : List Int).map (Value.int .i64)) rfl (num_empty w 2) ⟨b,off + len,none⟩ 0 (cap - len) (D.map (Value.int .i64)) rfl hDn (num_news HD.out) (by simp [Value.oneCell']) (by unfold maxLen;omega) (by omega) ?_;intro g2 o2 c2 w2 ho2 hg2 hat2;obtain ⟨q2,r2,s2,t2⟩ := app_one ho2 hg2 hat2;clear ho2 hg2 hat2)
     | (at_builtin;refine wpList_append_os _ rfl (.tmp 39) (.tmp 42) _ rfl 2 i0 _ 1 8 Try.underlying24 hi0 hz0 hz1 hz2 rfl (by omega) w2.heap.size 0 0 0 (([] : List Int).map (Value.int .i64)) rfl (num_empty w2 2) ⟨b,off,none⟩ len cap (T.map (Value.int .i64)) rfl hTn (num_news (fun i hi => below_cell ((Below.refl _ _).alloc (Nat.le_refl _) _) (below_cell s2 (HT.out i hi)))) (by simp [Value.oneCell']) (by unfold maxLen;omega) (by omega) ?_;intro g3 o3 c3 w3 ho3 hg3 hat3;obtain ⟨q3,r3,s3,t3⟩ := app_one ho3 hg3 hat3;clear ho3 hg3 hat3)
     | (at_builtin;refine wpList_append_os _ rfl (.tmp 43) (.tmp 45) _ rfl 2 i0 _ 1 8 Try.underlying24 hi0 hz0 hz1 hz2 rfl (by omega) g3 o3 len c3 (T.map (Value.int .i64)) rfl (OSl.below q3 ((Below.refl _ _).alloc (Nat.le_refl _) _) t3) ⟨w3.heap.size,0,none⟩ 1 1 [.int .i64 n] rfl rfl (World.news_of_block (cs := #[.int .i64 n]) (t := 2) (fr := (0,0)) (heap_alloc_new _ _)) (by simp [Value.oneCell']) (by unfold maxLen;omega) (by omega) ?_;intro g4 o4 c4 w4 ho4 hg4 hat4;obtain ⟨q4,r4,s4⟩ := app_more (m := 0) s3 r3 ho4 hg4 hat4;clear ho4 hg4 hat4)
     | (at_builtin;refine wpList_append_os _ rfl (.tmp 46) (.tmp 47) _ rfl 2 i0 _ 1 8 Try.underlying24 hi0 hz0 hz1 hz2 rfl (by omega) g4 o4 (len + 1) c4 ((T ++ [n]).map (Value.int .i64)) rfl q4 ⟨g2,o2,none⟩ 0 c2 (D.map (Value.int .i64)) rfl hDn (num_news (fun i hi => OI.cellAt (show OI w4 g2 o2 0 c2 D from OSl.below q2 s4 t2) (by have := HDl.out;omega))) (by simp [Value.oneCell']) (by unfold maxLen;omega) (by omega) ?_;intro g5 o5 c5 w5 ho5 hg5 hat5;obtain ⟨q5,r5,s5⟩ := app_last s4 r4 ho5 hg5 hat5;clear ho5 hg5 hat5))
    go_ret
    refine .inr ⟨g5,o5,c5, ?_,Nat.le_trans s2.size r5, ?_,s2.trans (s5.mono s2.size)⟩
    ·rw [HZ.out,List.length_append,List.length_cons,HTl.out,HDl.out]
     exact congrArg (fun z => Ending.returned (.slice (some ⟨g5,o5,none⟩) z c5)) (by omega)
    ·rw [HZ.out,List.length_append,List.length_cons,HTl.out,HDl.out,show len + (0 + 1) = len + 1 + 0 by omega]
     exact q5
end Go.Proofs.Ytlnmdfgcpfbleaa
namespace Go.Proofs.Ytlnmdfgcpfbleaa
set_option linter.unusedVariables false
set_option linter.unusedSimpArgs false
open Go.RowKit Go.Sort
set_option maxRecDepth 100000 in
set_option maxHeartbeats 3200000 in
theorem putN_any (n : Int) (w : World) : Calls Try.prog 113 #[.slice none 0 0,.int .i64 n] w fun e w' => AnsN w w' e [n] := by
 obtain ⟨i0,hi0,hz0,hz1,hz2⟩ := info_parts2n Try.info2n
 go_enter Try.func113,Try.ntmps113
 go_wp2_with fail
 go_loop [5] (fun i => i = .int .i64 0) (fun i => 0)
 case atStart => rfl
 case round =>
  subst hrel
  go_wp2_with (first
   | (at_builtin;refine wpList_append_none _ rfl (.tmp 34) (.tmp 37) _ rfl 2 i0 Try.underlying24 hi0 (some ⟨w.heap.size,0,none⟩) 0 0 rfl (Nat.le_refl _) none 0 rfl ?_)
   | (at_builtin;refine wpList_append_none _ rfl (.tmp 39) (.tmp 42) _ rfl 2 i0 Try.underlying24 hi0 (some ⟨w.heap.size + 1,0,none⟩) 0 0 rfl (Nat.le_refl _) none 0 rfl ?_)
   | (at_builtin;refine wpList_append_oo _ rfl (.tmp 43) (.tmp 45) _ rfl 2 i0 _ 1 8 Try.underlying24 hi0 hz0 hz1 hz2 rfl (by omega) (some ⟨w.heap.size + 1,0,none⟩) 0 0 [] none rfl (OSo.nil _ _ (plainS _ _)) (some ⟨w.heap.size + 1 + 1,0,none⟩) 1 1 [.int .i64 n] rfl rfl (.inr ⟨_,rfl,World.news_of_block (cs := #[.int .i64 n]) (t := 2) (fr := (0,0)) (by simpa using heap_alloc_new ((w.alloc (.cells #[] 2)).alloc (.cells #[] 2)) (.cells #[.int .i64 n] 2))⟩) (by simp [Value.oneCell']) (by unfold maxLen;omega) (by omega) ?_;intro a2 c2 G2 w2 ho2 hg2 hat2)
   | (at_builtin;refine wpList_append_none _ rfl (.tmp 46) (.tmp 47) _ rfl 2 i0 Try.underlying24 hi0 a2 (0 + 1) c2 rfl ho2.le.1 (some ⟨w.heap.size,0,none⟩) 0 rfl ?_))
  go_ret
  rcases ho2 with ⟨h0,_⟩ | ⟨g,off,rfl,ho2,rfl⟩
  ·omega
  ·have hG : g = w.heap.size + 1 + 1 + 1 := by
    rcases hat2 with h | h
    ·cases h
    ·simpa using h
   refine ⟨g,off,c2,rfl,by omega,by simpa [OI] using ho2, ?_⟩
   have h3 : Below w.heap.size w (((w.alloc (.cells #[] 2)).alloc (.cells #[] 2)).alloc (.cells #[.int .i64 n] 2)) := (((Below.refl _ _).alloc (Nat.le_refl _) _).alloc (by simp) _).alloc (by simp;omega) _
   exact below_of_grown h3 hg2 (fun k hk => by cases hk) h3.size
theorem putO_any (a : Option Addr) (cap : Nat) (xs : List Int) (n : Int) (w : World) (hv : Vec w a xs.length xs) (ha : a = none → cap = 0) (hcap : xs.length ≤ cap) (hm : cap ≤ maxLen) (hn : xs.length ≤ 100000000) (hoff : PlainA a) :
  Calls Try.prog 113 #[.slice a xs.length cap,.int .i64 n] w fun e w' => (e = .returned (.slice a xs.length cap) ∧ putL xs n = xs ∧ w' = w) ∨ AnsN w w' e (putL xs n) := by
 cases a with
 | none =>
  have hc := ha rfl
  subst hc
  have hx : xs = [] := List.eq_nil_of_length_eq_zero (by omega)
  subst hx
  exact (putN_any n w).mono (fun e w' h => .inr h)
 | some x =>
  obtain ⟨b,off,rfl⟩ := hoff x rfl
  refine putS_any b off xs.length cap xs n w rfl (fun i hi => ?_) hcap hm hn
  rcases hv.2.2 with h | ⟨b',off',hb,hc⟩
  ·omega
  ·cases hb
   exact hc i hi
end Go.Proofs.Ytlnmdfgcpfbleaa
namespace Go.Proofs.Ytlnmdfgcpfbleaa
set_option linter.unusedVariables false
set_option linter.unusedSimpArgs false
open Go.RowKit Go.Sort
end Go.Proofs.Ytlnmdfgcpfbleaa
namespace Go.Proofs.Ytlnmdfgcpfbleaa
set_option linter.unusedVariables false
set_option linter.unusedSimpArgs false
open Go.RowKit Go.Sort
end Go.Proofs.Ytlnmdfgcpfbleaa
namespace Go.Proofs.Ytlnmdfgcpfbleaa
set_option linter.unusedVariables false
set_option linter.unusedSimpArgs false
open Go.RowKit Go.Sort
end Go.Proofs.Ytlnmdfgcpfbleaa
namespace Go.Proofs.Ytlnmdfgcpfbleaa
set_option linter.unusedVariables false
set_option linter.unusedSimpArgs false
open Go.RowKit Go.Sort
def I64v (x : Int) : Prop := -9223372036854775808 ≤ x ∧ x ≤ 9223372036854775807
structure VcP (w : World) (a : Option Addr) (c : Nat) (M : List Int) : Prop where
 vec : Vec w a M.length M
 le : M.length ≤ c
 mx : c ≤ maxLen
 pl : PlainA a
 nn : a = none → c = 0
theorem VcP.below {w w' : World} {a : Option Addr} {c : Nat} {M : List Int} (h : VcP w a c M) (hb : Below w.heap.size w w') : VcP w' a c M := ⟨h.vec.below hb (Nat.le_refl _),h.le,h.mx,h.pl,h.nn⟩
theorem ow_vcp {w : World} {a : Option Addr} {c : Nat} {M : List Int} {fp : Fp} (h : Cel.ow w (icl M) (.slice a M.length c) fp) (hf : Fits M) : VcP w a c M := by
 obtain ⟨a0,c0,e0,hv,h1,h2⟩ := vw_icl (Cel.ow_vw h) hf
 cases e0
 obtain ⟨a1,c1,G,e1,hs,hG⟩ := ow_icl.1 h
 cases e1
 refine ⟨hv,h1,h2,hs.plain,fun e => ?_⟩
 rcases hs with ⟨_,h,_⟩ | ⟨g,off,ha,_⟩
 ·exact h
 ·rw [ha] at e;cases e
end Go.Proofs.Ytlnmdfgcpfbleaa
namespace Go.Proofs.Ytlnmdfgcpfbleaa
set_option linter.unusedVariables false
set_option linter.unusedSimpArgs false
open Go.RowKit Go.Sort
def szRw (r : Rw) : Nat := r.txt.length + totS r.txt r.txt.length + r.got.length + r.sus.length + r.trm.length
attribute [local irreducible] sv
end Go.Proofs.Ytlnmdfgcpfbleaa
namespace Go.Proofs.Ytlnmdfgcpfbleaa
set_option linter.unusedVariables false
set_option linter.unusedSimpArgs false
open Go.RowKit Go.Sort
def cntRw (r : Rw) : Nat := r.txt.length + r.got.length + r.sus.length + r.trm.length
attribute [local irreducible] sv
end Go.Proofs.Ytlnmdfgcpfbleaa
namespace Go.Proofs.Ytlnmdfgcpfbleaa
set_option linter.unusedVariables false
set_option linter.unusedSimpArgs false
open Go.RowKit Go.Sort
structure SmR (r : Rw) : Prop where
 ver : -10 ≤ r.ver ∧ r.ver ≤ 1000020
 tl : r.txt.length ≤ 20
 ts : ∀ i,i < r.txt.length → (r.txt.getD i []).length ≤ 21
 gl : r.got.length ≤ 16
 gf : Fits r.got
 sl : r.sus.length ≤ 16
 sf : Fits r.sus
 ml : r.trm.length ≤ 16
 mf : Fits r.trm
 bys : -1 ≤ r.by_ ∧ r.by_ ≤ 7
def zeroRc : Array Value := #[.int .i64 0,.slice none 0 0,.slice none 0 0,.slice none 0 0,.bool false,.bool false,.int .i64 0,.slice none 0 0]
def RD (w X Y : World) (p : Nat) (a : Option Addr) (len cap : Nat) (bs : Nat → Int) (o : Nat) (Zr : Array Value) (A : Ra) (r : Rw) (fp : Fp) : Prop := SD w X Y p a len cap bs 35 o Zr (rwC A r) (rwCels r) (rwVals A r) fp
section
variable {w X Y Y' : World} {p : Nat} {a : Option Addr} {len cap : Nat} {bs : Nat → Int} {o : Nat} {Zr : Array Value} {A : Ra} {r : Rw} {fp : Fp}
theorem RD.drawn (h : RD w X Y p a len cap bs o Zr A r fp) (hg : Y.grownBy Y' (some p)) (hc : Cc w Y' p a len cap bs) : RD w X Y' p a len cap bs o Zr A r fp := SD.drawn h hg hc
theorem RD.step (h : RD w X Y p a len cap bs o Zr A r fp) (hb : Below Y.heap.size Y Y') : RD w X Y' p a len cap bs o Zr A r fp := SD.step h hb
theorem RD.drewN (h : RD w X Y p a len cap bs o Zr A r fp) (n : Nat) : RD w X (Y.drewN n) p a len cap bs o Zr A r fp := SD.drewN h n
theorem RD.c8 (h : RD w X Y p a len cap bs o Zr A r fp) : (Y.cell? ⟨o,0,none⟩ = some (.int .i64 r.ver) ∧ Y.cell? ⟨o,1,none⟩ = some (.slice A.ta r.txt.length A.tc) ∧ Y.cell? ⟨o,2,none⟩ = some (.slice A.ga r.got.length A.gc) ∧ Y.cell? ⟨o,3,none⟩ = some (.slice A.sa r.sus.length A.sc)) ∧ Y.cell? ⟨o,4,none⟩ = some (.bool r.wed) ∧ Y.cell? ⟨o,5,none⟩ = some (.bool r.rdy) ∧ Y.cell? ⟨o,6,none⟩ = some (.int .i64 r.by_) ∧ Y.cell? ⟨o,7,none⟩ = some (.slice A.ma r.trm.length A.mc) := Bx.r8 h.own
theorem RD.ver (h : RD w X Y p a len cap bs o Zr A r fp) (x : Int) : RD w X (Y.setCell ⟨o,0,none⟩ (.int .i64 x)) p a len cap bs o Zr A { r with ver := x } fp := SD.set h 0 (.int .i64 x)
theorem RD.wed (h : RD w X Y p a len cap bs o Zr A r fp) (x : Bool) : RD w X (Y.setCell ⟨o,4,none⟩ (.bool x)) p a len cap bs o Zr A { r with wed := x } fp := SD.set h 4 (.bool x)
theorem RD.rdy (h : RD w X Y p a len cap bs o Zr A r fp) (x : Bool) : RD w X (Y.setCell ⟨o,5,none⟩ (.bool x)) p a len cap bs o Zr A { r with rdy := x } fp := SD.set h 5 (.bool x)
theorem RD.by_ (h : RD w X Y p a len cap bs o Zr A r fp) (x : Int) : RD w X (Y.setCell ⟨o,6,none⟩ (.int .i64 x)) p a len cap bs o Zr A { r with by_ := x } fp := SD.set h 6 (.int .i64 x)
theorem RD.got (h : RD w X Y p a len cap bs o Zr A r fp) {a' : Option Addr} {c' : Nat} {Z : List Int} {f' : Fp} (hc : Cel.ow Y (icl Z) (.slice a' Z.length c') f') (hf : ∀ b,f' b → X.heap.size < b ∧ b ≠ o) (hd : ∀ b,f' b → ¬ fp b) : ∃ fp',RD w X (Y.setCell ⟨o,2,none⟩ (.slice a' Z.length c')) p a len cap bs o Zr { A with ga := a',gc := c' } { r with got := Z } fp' := by
 obtain ⟨fp',h1⟩ := SD.new h (j := 1) rfl hc hf hd
 exact ⟨fp',SD.set h1 2 (.slice a' Z.length c')⟩
theorem RD.sus (h : RD w X Y p a len cap bs o Zr A r fp) {a' : Option Addr} {c' : Nat} {Z : List Int} {f' : Fp} (hc : Cel.ow Y (icl Z) (.slice a' Z.length c') f') (hf : ∀ b,f' b → X.heap.size < b ∧ b ≠ o) (hd : ∀ b,f' b → ¬ fp b) : ∃ fp',RD w X (Y.setCell ⟨o,3,none⟩ (.slice a' Z.length c')) p a len cap bs o Zr { A with sa := a',sc := c' } { r with sus := Z } fp' := by
 obtain ⟨fp',h1⟩ := SD.new h (j := 2) rfl hc hf hd
 exact ⟨fp',SD.set h1 3 (.slice a' Z.length c')⟩
theorem RD.trm (h : RD w X Y p a len cap bs o Zr A r fp) {a' : Option Addr} {c' : Nat} {Z : List Int} {f' : Fp} (hc : Cel.ow Y (icl Z) (.slice a' Z.length c') f') (hf : ∀ b,f' b → X.heap.size < b ∧ b ≠ o) (hd : ∀ b,f' b → ¬ fp b) : ∃ fp',RD w X (Y.setCell ⟨o,7,none⟩ (.slice a' Z.length c')) p a len cap bs o Zr { A with ma := a',mc := c' } { r with trm := Z } fp' := by
 obtain ⟨fp',h1⟩ := SD.new h (j := 3) rfl hc hf hd
 exact ⟨fp',SD.set h1 7 (.slice a' Z.length c')⟩
theorem RD.txt (h : RD w X Y p a len cap bs o Zr A r fp) {a' : Option Addr} {c' : Nat} {Z : List (List UInt8)} {f' : Fp} (hc : Cel.ow Y (scl Z) (.slice a' Z.length c') f') (hf : ∀ b,f' b → X.heap.size < b ∧ b ≠ o) (hd : ∀ b,f' b → ¬ fp b) : ∃ fp',RD w X (Y.setCell ⟨o,1,none⟩ (.slice a' Z.length c')) p a len cap bs o Zr { A with ta := a',tc := c' } { r with txt := Z } fp' := by
 obtain ⟨fp',h1⟩ := SD.new h (j := 0) rfl hc hf hd
 exact ⟨fp',SD.set h1 1 (.slice a' Z.length c')⟩
theorem RD.owI (h : RD w X Y p a len cap bs o Zr A r fp) : ∃ f1 f2 f3 f4,Cel.ow Y (scl r.txt) (.slice A.ta r.txt.length A.tc) f1 ∧ Cel.ow Y (icl r.got) (.slice A.ga r.got.length A.gc) f2 ∧ Cel.ow Y (icl r.sus) (.slice A.sa r.sus.length A.sc) f3 ∧ Cel.ow Y (icl r.trm) (.slice A.ma r.trm.length A.mc) f4 := by
 obtain ⟨u1,us1,f1,g1,e1,o1,h2,_⟩ := h.ls
 cases e1
 obtain ⟨u2,us2,f2,g2,e2,o2,h3,_⟩ := h2
 cases e2
 obtain ⟨u3,us3,f3,g3,e3,o3,h4,_⟩ := h3
 cases e3
 obtain ⟨u4,us4,f4,g4,e4,o4,h5,_⟩ := h4
 cases e4
 exact ⟨f1,f2,f3,f4,o1,o2,o3,o4⟩
theorem RD.gotAt (h : RD w X Y p a len cap bs o Zr A r fp) {i : Nat} (hi : i < r.got.length) : ∃ g off,A.ga = some ⟨g,off,none⟩ ∧ (Y.cell? ⟨g,off + i,none⟩ = some (.int .i64 (el r.got i)) ∧ Y.frozen? ⟨g,off + i,none⟩ = false) ∧
  ∀ x : Int,∃ fp',RD w X (Y.setCell ⟨g,off + i,none⟩ (.int .i64 x)) p a len cap bs o Zr A { r with got := r.got.set i x } fp' := by
 obtain ⟨u,f,hu,hc,hs,hp⟩ := SD.at h (j := 1) rfl
 cases hu
 obtain ⟨a',c',G,e,ho,hf⟩ := ow_icl.1 hc
 cases e
 rcases ho.oi with ⟨e,_,_⟩ | ⟨g,off,e1,ho',e2⟩
 ·rw [e] at hi;exact absurd hi (Nat.not_lt_zero _)
 ·have hle := ho'.le
  refine ⟨g,off,e1,⟨?_,ho'.free i (by omega)⟩,fun x => ?_⟩
  ·have := ho'.cell i (by omega)
   rw [this]
   simp [el,hi]
  ·subst e2
   have hset := num_set ho' hi x
   have := hp (Y.setCell ⟨g,off + i,none⟩ (.int .i64 x)) (icl (r.got.set i x)) (.slice A.ga (r.got.set i x).length A.gc) f ((Wrt.set Y g (off + i) _).mono (fun b _ e => (hf b).2 (by rw [e]))) (ow_icl.2 ⟨_,_,some g,rfl,by rw [List.length_set,e1];exact OSo.of hset,hf⟩) (fun b hb => .inl hb)
   obtain ⟨fp',h1⟩ := this
   refine ⟨fp', ?_⟩
   have e3 : rwC A { r with got := r.got.set i x } = rwC A r := by simp [rwC]
   unfold RD
   rw [e3]
   exact h1
theorem RD.app (h : RD w X Y p a len cap bs o Zr A r fp) (i0 : TypeInfo) (hi0 : Try.prog.info? 9 = some i0) (hz0 : i0.zero = some (.string ⟨#[]⟩)) (hz1 : i0.size = 1) (hz2 : i0.bytes = 16) (s : List UInt8) (hl : r.txt.length ≤ 1000) :
  ∀ Z,Same Z (Y.alloc (.cells #[.string (sv s)] 9)) → ∃ v' w4,(Builtin.append_ #[33,33] 33 #[.slice A.ta r.txt.length A.tc,.slice (some ⟨Y.heap.size,0,none⟩) 1 1]).run Try.prog Z = .ok v' w4 ∧
   ∃ a' c',v' = .slice a' (r.txt.length + 1) c' ∧ w4.cell? ⟨o,1,none⟩ = some (.slice A.ta r.txt.length A.tc) ∧ w4.frozen? ⟨o,1,none⟩ = false ∧ ∃ fp',RD w X (w4.setCell ⟨o,1,none⟩ (.slice a' (r.txt.length + 1) c')) p a len cap bs o Zr { A with ta := a',tc := c' } { r with txt := r.txt ++ [s] } fp' := by
 intro Z hZ
 have hbZ : Below Y.heap.size Y Z := (oneA16 Y _).trans (hZ.below.mono (oneA16 Y _).size)
 have hD := h.step hbZ
 obtain ⟨u,f,hu,hc,hs,hp⟩ := SD.at hD (j := 0) rfl
 cases hu
 obtain ⟨ta',tc',G,e,ho,hf⟩ := ow_scl.1 hc
 cases e
 have hnew : Z.heap[Y.heap.size]? = some (.cells #[.string (sv s)] 9) := by rw [hZ.heap];exact heap_alloc_new Y _
 obtain ⟨a',c',G',w4,hr,ho',hg,hat⟩ := run_append_oo (P := Try.prog) Z 33 33 9 i0 _ 1 16 Try.underlying33 hi0 hz0 hz1 hz2 rfl (by omega) A.ta r.txt.length A.tc (svs r.txt) G ho (some ⟨Y.heap.size,0,none⟩) 1 1 [.string (sv s)] rfl (.inr ⟨_,rfl,World.news_of_block (cs := #[.string (sv s)]) (t := 9) (fr := (0,0)) hnew⟩) (by simp [Value.oneCell']) (by unfold maxLen;omega) (by omega)
 have hw4 : Wrt f Z w4 := (Wrt.of_grown hg).mono (fun b _ e => (hf b).2 e)
 have hno : ¬ f o := fun e => (hD.fpl o (hs o e)).2 rfl
 have k0 := hD.own.wrt hw4 hno
 have elen : (r.txt ++ [s]).length = r.txt.length + 1 := by simp
 obtain ⟨fp',h1⟩ := hp w4 (scl (r.txt ++ [s])) (.slice a' (r.txt.length + 1) c') (fun b => G' = some b) hw4 (ow_scl.2 ⟨a',c',G',by rw [elen],by rw [svs_app,elen];exact ho',fun b => Iff.rfl⟩) (fun b hb => by
  rcases hat with e | e
  ·exact .inl ((hf b).2 (e ▸ hb))
  ·rw [e] at hb;cases hb;exact .inr (Nat.le_refl _))
 refine ⟨_,w4,hr,a',c',rfl,k0.at 1 rfl,k0.f 1,fp', ?_⟩
 have h2 := SD.set h1 1 (.slice a' (r.txt.length + 1) c')
 unfold RD
 have e1 : rwC { A with ta := a',tc := c' } { r with txt := r.txt ++ [s] } = (rwC A r).setIfInBounds 1 (.slice a' (r.txt.length + 1) c') := by simp [rwC]
 have e2 : rwVals { A with ta := a',tc := c' } { r with txt := r.txt ++ [s] } = (rwVals A r).set 0 (.slice a' (r.txt.length + 1) c') := by simp [rwVals]
 rw [e1,e2]
 exact h2
theorem RD.ans (h : RD w X Y p a len cap bs o Zr A r fp) {x0 x1 x2 x3 x4 x5 x6 x7 : Value} : owL ((((((((Y.setCell ⟨X.heap.size,0,none⟩ x0).setCell ⟨X.heap.size,1,none⟩ x1).setCell ⟨X.heap.size,2,none⟩ x2).setCell ⟨X.heap.size,3,none⟩ x3).setCell ⟨X.heap.size,4,none⟩ x4).setCell ⟨X.heap.size,5,none⟩ x5).setCell ⟨X.heap.size,6,none⟩ x6).setCell ⟨X.heap.size,7,none⟩ x7) (rwCels r) (rwVals A r) fp ∧ (∀ b,fp b → X.heap.size ≤ b) ∧ Cc w ((((((((Y.setCell ⟨X.heap.size,0,none⟩ x0).setCell ⟨X.heap.size,1,none⟩ x1).setCell ⟨X.heap.size,2,none⟩ x2).setCell ⟨X.heap.size,3,none⟩ x3).setCell ⟨X.heap.size,4,none⟩ x4).setCell ⟨X.heap.size,5,none⟩ x5).setCell ⟨X.heap.size,6,none⟩ x6).setCell ⟨X.heap.size,7,none⟩ x7) p a len cap bs ∧ X.grownBy ((((((((Y.setCell ⟨X.heap.size,0,none⟩ x0).setCell ⟨X.heap.size,1,none⟩ x1).setCell ⟨X.heap.size,2,none⟩ x2).setCell ⟨X.heap.size,3,none⟩ x3).setCell ⟨X.heap.size,4,none⟩ x4).setCell ⟨X.heap.size,5,none⟩ x5).setCell ⟨X.heap.size,6,none⟩ x6).setCell ⟨X.heap.size,7,none⟩ x7) (some p) := SD.ans h (wrt8 Y X.heap.size)
theorem RD.r8 (h : RD w X Y p a len cap bs o zeroRc A r fp) : (Y.cell? ⟨X.heap.size,0,none⟩ = some (.int .i64 0) ∧ Y.cell? ⟨X.heap.size,1,none⟩ = some (.slice none 0 0) ∧ Y.cell? ⟨X.heap.size,2,none⟩ = some (.slice none 0 0) ∧ Y.cell? ⟨X.heap.size,3,none⟩ = some (.slice none 0 0)) ∧ Y.cell? ⟨X.heap.size,4,none⟩ = some (.bool false) ∧ Y.cell? ⟨X.heap.size,5,none⟩ = some (.bool false) ∧ Y.cell? ⟨X.heap.size,6,none⟩ = some (.int .i64 0) ∧ Y.cell? ⟨X.heap.size,7,none⟩ = some (.slice none 0 0) := Bx.r8 h.res
theorem RD.f8 (h : RD w X Y p a len cap bs o Zr A r fp) : (Y.frozen? ⟨X.heap.size,0,none⟩ = false ∧ Y.frozen? ⟨X.heap.size,1,none⟩ = false ∧ Y.frozen? ⟨X.heap.size,2,none⟩ = false ∧ Y.frozen? ⟨X.heap.size,3,none⟩ = false) ∧ Y.frozen? ⟨X.heap.size,4,none⟩ = false ∧ Y.frozen? ⟨X.heap.size,5,none⟩ = false ∧ Y.frozen? ⟨X.heap.size,6,none⟩ = false ∧ Y.frozen? ⟨X.heap.size,7,none⟩ = false := Bx.f8 h.res
theorem RD.fo (h : RD w X Y p a len cap bs o Zr A r fp) (i : Nat) : Y.frozen? ⟨o,i,none⟩ = false := h.own.f i
end
theorem RD.copyT {w X Y : World} {p : Nat} {a : Option Addr} {len cap : Nat} {bs : Nat → Int} {o : Nat} {Zr : Array Value} {A : Ra} {r : Rw} {fp : Fp} (h : RD w X Y p a len cap bs o Zr A r fp) (hf : Fits r.got) (hl : r.got.length ≤ 1000) (i0 : TypeInfo) (hi0 : Try.prog.info? 2 = some i0) (hz0 : i0.zero = some (.int .i64 0)) (hz1 : i0.size = 1) (hz2 : i0.bytes = 8) :
  ∀ Z,Same Z (Y.alloc (.cells #[] 2)) → ∃ v' w4,(Builtin.append_ #[24,24] 24 #[.slice (some ⟨Y.heap.size,0,none⟩) 0 0,.slice A.ga r.got.length A.gc]).run Try.prog Z = .ok v' w4 ∧
   ∃ a' c',v' = .slice a' r.got.length c' ∧ w4.cell? ⟨o,7,none⟩ = some (.slice A.ma r.trm.length A.mc) ∧ w4.frozen? ⟨o,7,none⟩ = false ∧ ∃ fp',RD w X (w4.setCell ⟨o,7,none⟩ (.slice a' r.got.length c')) p a len cap bs o Zr { A with ma := a',mc := c' } { r with trm := r.got } fp' := by
 intro Z hZ
 have hbZ : Below Y.heap.size Y Z := (oneA16 Y _).trans (hZ.below.mono (oneA16 Y _).size)
 have hD := h.step hbZ
 obtain ⟨_,f2,_,_,_,ho2,_,_⟩ := hD.owI
 obtain ⟨a6,c6,w6,fp6,hr6,ho6,hw6,hf6⟩ := ints_copied (P := Try.prog) (w := Z) 24 24 2 i0 Try.underlying24 hi0 hz0 hz1 hz2 (plainS Y.heap.size 0) (x := A.ga) (c := A.gc) (ow_vcp ho2 hf).vec (by omega)
 have hb6 : Below Z.heap.size Z w6 := hw6.below (Below.refl _ _) (Nat.le_refl _) (fun b h => absurd h id)
 have hE := hD.step hb6
 have hol := hD.own.lt
 have hXo := h.ho
 obtain ⟨fp',h2⟩ := RD.trm hE (a' := a6) (c' := c6) (Z := r.got) ho6 (fun b hb => by have := hf6 b hb;omega) (fun b hb hfp => by have := hf6 b hb;have := owL_lt hD.ls b hfp;omega)
 exact ⟨_,w6,hr6,a6,c6,rfl,hE.c8.2.2.2.2,hE.fo 7,fp',h2⟩
theorem RD.putS {w X Y : World} {p : Nat} {a : Option Addr} {len cap : Nat} {bs : Nat → Int} {o : Nat} {Zr : Array Value} {A : Ra} {r : Rw} {fp : Fp} (h : RD w X Y p a len cap bs o Zr A r fp) (hf : Fits r.sus) (hl : r.sus.length ≤ 100) (n : Int) :
  Calls Try.prog 113 #[.slice A.sa r.sus.length A.sc,.int .i64 n] Y fun e w' => ∃ a' c',e = .returned (.slice a' (putL r.sus n).length c') ∧ Below Y.heap.size Y w' ∧ ∃ fp',RD w X (w'.setCell ⟨o,3,none⟩ (.slice a' (putL r.sus n).length c')) p a len cap bs o Zr { A with sa := a',sc := c' } { r with sus := putL r.sus n } fp' := by
 obtain ⟨_,_,f3,_,_,_,ho3,_⟩ := h.owI
 have hv := ow_vcp ho3 hf
 refine (putO_any A.sa A.sc r.sus n Y hv.vec hv.nn hv.le hv.mx (by omega) hv.pl).mono ?_
 rintro e w' (⟨rfl,h1,rfl⟩ | hA)
 ·refine ⟨A.sa,A.sc,by rw [h1],Below.refl _ _,fp, ?_⟩
  have h2 := SD.set h 3 (.slice A.sa r.sus.length A.sc)
  have e1 : (rwC A r).setIfInBounds 3 (.slice A.sa r.sus.length A.sc) = rwC A r := by simp [rwC]
  rw [e1] at h2
  rw [h1]
  exact h2
 ·obtain ⟨g,off,c,rfl,hg,ho,hb⟩ := hA
  have hD := h.step hb
  have hol := h.own.lt
  have hXo := h.ho
  obtain ⟨fp',h2⟩ := RD.sus hD (a' := some ⟨g,off,none⟩) (c' := c) (Z := putL r.sus n) (f' := fun b => b = g) (ow_icl.2 ⟨_,c,some g,rfl,OSo.of ho,fun b => by simp [eq_comm]⟩) (fun b hb => by omega) (fun b hb hfp => by have := owL_lt h.ls b hfp;omega)
  exact ⟨_,c,rfl,hb,fp',h2⟩
end Go.Proofs.Ytlnmdfgcpfbleaa
namespace Go.Proofs.Ytlnmdfgcpfbleaa
set_option linter.unusedSimpArgs false
set_option linter.unusedVariables false
open Go.RowKit Go.Sort
section
variable {P : Program} {ops : Array Oper} {Q : Exit → Act → World → Prop} {md : Region.Mode} {S : World → Prop}
def wpAnyT (P : Program) (md : Region.Mode) (ops : Array Oper) (Q : Exit → Act → World → Prop) (S : World → Prop) (z : Nat) : Nat → Array Bool → Act → World → Prop
 | 0,listed,a,w => Region.ready md ops listed = [] ∧ Q .normal a w
 | fuel + 1,listed,a,w =>
  (Region.ready md ops listed = [] → Q .normal a w) ∧
  ∀ i ∈ Region.ready md ops listed,wpOp P ops Q i (fun a' w' => (i ≠ z → S w → S w') ∧ wpAnyT P md ops Q S z fuel (listed.setIfInBounds i true) a' w') a w
theorem wpAny_of_T {z : Nat} : ∀ (fuel : Nat) (listed : Array Bool) (a : Act) (w : World),wpAnyT P md ops Q S z fuel listed a w → wpAny P md ops Q fuel listed a w
 | 0,_,_,_,h => h
 | fuel + 1,_,_,_,h => ⟨h.1,fun i hi => wpOp_mono (fun a' w' h' => wpAny_of_T fuel _ a' w' h'.2) (h.2 i hi)⟩
theorem wpAnyT_first {i z : Nat} {oi : Oper} {v : Value} (hi : ops[i]? = some oi) (hsel : ∀ (j : Nat) (o : Oper) cs b,ops[j]? = some o → o.op ≠ .select cs b)
  (hQ : ∀ c a w,Q (.panic c) (a.put oi.dst v) w → Q (.panic c) a w) (hz : Region.waitsFor md ops z i = true) (hiz : i ≠ z) :
  ∀ (fuel : Nat) (listed : Array Bool) (a : Act) (w : World),
   (∀ j oj,ops[j]? = some oj → j ≠ i → listed.getD j true = false → (∀ e ∈ oj.after,Region.binds md e = true → e.on ≠ i) → oi.apart ops oj = true) →
   i ∈ Region.ready md ops listed → YieldsIf P ops S oi v a → S w →
   wpAnyT P md ops Q S z fuel (listed.setIfInBounds i true) (a.put oi.dst v) w → wpAnyT P md ops Q S z (fuel + 1) listed a w := by
 intro fuel
 induction fuel with
 | zero =>
  intro listed a w _ hr hy hS H
  refine ⟨fun h => (by rw [h] at hr;cases hr),fun j hj => ?_⟩
  by_cases hji : j = i
  ·subst hji;exact hy.wpOp hi hS ⟨fun _ h => h,H⟩
  ·have := ready_mono hj hji
   rw [H.1] at this
   cases this
 | succ fuel ih =>
  intro listed a w hfree hr hy hS H
  have hun := (mem_ready.1 hr).1
  refine ⟨fun h => (by rw [h] at hr;cases hr),fun j hj => ?_⟩
  by_cases hji : j = i
  ·subst hji;exact hy.wpOp hi hS ⟨fun _ h => h,H⟩
  ·obtain ⟨hjun,oj,hoj,hall⟩ := mem_ready.1 hj
   have hnot : ∀ e ∈ oj.after,Region.binds md e = true → e.on ≠ i := fun e he hb heq => by
    have h3 := hall e he hb
    rw [heq,getD_both hun] at h3
    cases h3
   have hjz : j ≠ z := fun e => by
    subst e
    obtain ⟨o',ho',e,he,hb,hon⟩ := Region.waitsFor_spec hz
    have : o' = oj := Option.some.inj (ho'.symm.trans hoj)
    subst this
    exact hnot e he hb hon
   have h1 := H.2 j (ready_mono hj hji)
   have h2 := wpOp_putIf hoj (hfree j oj hoj hji hjun hnot) (fun cs b => hsel i oi cs b hi) (fun cs b => hsel j oj cs b hoj) hQ hy h1
   have hfree' : ∀ k ok,ops[k]? = some ok → k ≠ i → (listed.setIfInBounds j true).getD k true = false →
     (∀ e ∈ ok.after,Region.binds md e = true → e.on ≠ i) → oi.apart ops ok = true := fun k ok hk hki hun hno => by
    refine hfree k ok hk hki ?_ hno
    by_cases hjk : j = k
    ·subst hjk;exact hjun
    ·rw [getD_set_ne true hjk] at hun;exact hun
   refine wpOp_mono (fun a' w' h3 => ⟨h3.2.1,ih (listed.setIfInBounds j true) a' w' hfree' (ready_mono hr (Ne.symm hji)) h3.1 (h3.2.1 hjz hS) ?_⟩) h2
   rw [Array.setIfInBounds_comm _ _ hji]
   exact h3.2.2
theorem wpAnyT_pure {i z : Nat} {oi : Oper} {v : Value} (hi : ops[i]? = some oi) (hsel : ∀ (j : Nat) (o : Oper) cs b,ops[j]? = some o → o.op ≠ .select cs b)
  (hQ : ∀ c a w,Q (.panic c) (a.put oi.dst v) w → Q (.panic c) a w) :
  ∀ (fuel : Nat) (listed : Array Bool) (a : Act) (w : World),
   (∀ j oj,ops[j]? = some oj → j ≠ i → listed.getD j true = false → (∀ e ∈ oj.after,Region.binds md e = true → e.on ≠ i) → oi.apart ops oj = true) →
   i ∈ Region.ready md ops listed → Yields P ops oi v a →
   wpAnyT P md ops Q S z fuel (listed.setIfInBounds i true) (a.put oi.dst v) w → wpAnyT P md ops Q S z (fuel + 1) listed a w := by
 intro fuel
 induction fuel with
 | zero =>
  intro listed a w _ hr hy H
  refine ⟨fun h => (by rw [h] at hr;cases hr),fun j hj => ?_⟩
  by_cases hji : j = i
  ·subst hji;exact hy.wpOp hi ⟨fun _ h => h,H⟩
  ·have := ready_mono hj hji
   rw [H.1] at this
   cases this
 | succ fuel ih =>
  intro listed a w hfree hr hy H
  have hun := (mem_ready.1 hr).1
  refine ⟨fun h => (by rw [h] at hr;cases hr),fun j hj => ?_⟩
  by_cases hji : j = i
  ·subst hji;exact hy.wpOp hi ⟨fun _ h => h,H⟩
  ·obtain ⟨hjun,oj,hoj,hall⟩ := mem_ready.1 hj
   have hnot : ∀ e ∈ oj.after,Region.binds md e = true → e.on ≠ i := fun e he hb heq => by
    have h3 := hall e he hb
    rw [heq,getD_both hun] at h3
    cases h3
   have h1 := H.2 j (ready_mono hj hji)
   have h2 := wpOp_put hoj (hfree j oj hoj hji hjun hnot) (fun cs b => hsel i oi cs b hi) (fun cs b => hsel j oj cs b hoj) hQ hy h1
   have hfree' : ∀ k ok,ops[k]? = some ok → k ≠ i → (listed.setIfInBounds j true).getD k true = false →
     (∀ e ∈ ok.after,Region.binds md e = true → e.on ≠ i) → oi.apart ops ok = true := fun k ok hk hki hun hno => by
    refine hfree k ok hk hki ?_ hno
    by_cases hjk : j = k
    ·subst hjk;exact hjun
    ·rw [getD_set_ne true hjk] at hun;exact hun
   refine wpOp_mono (fun a' w' h3 => ⟨h3.2.1,ih (listed.setIfInBounds j true) a' w' hfree' (ready_mono hr (Ne.symm hji)) h3.1 ?_⟩) h2
   rw [Array.setIfInBounds_comm _ _ hji]
   exact h3.2.2
end
section
variable {P : Program} {l : List Oper} {Q : Exit → Act → World → Prop} {S : World → Prop}
def GT (P : Program) (l : List Oper) (Q : Exit → Act → World → Prop) (S : World → Prop) (z fuel : Nat) (listed : Array Bool) (a : Act) (w : World) : Prop := wpAnyT P .any l.toArray Q S z fuel listed a w
theorem gt_begin {id : Nat} {a : Act} {w : World} (z : Nat) (hm : P.follows .mixedOrders = true) (hlen : (l.length == l.length) = true)
  (h : GT P l Q S z l.length (Array.replicate l.length false) a w.drew) : (Code.region id l.toArray true).wp P Q a w := by
 refine wp_region_any hm (wpAny_of_T (z := z) (S := S) _ _ _ _ ?_)
 unfold GT at h
 simpa using h
theorem gt_take {i z : Nat} {oi : Oper} {v : Value} {fuel : Nat} {listed : Array Bool} {a : Act} {w : World} (hi : l[i]? = some oi) (hs : Region.noSelect l.toArray = true)
  (hsk : (Region.waitsFor .any l.toArray z i && (i != z)) = true) (hf : Region.free .any l.toArray listed i = true) (hr : (Region.ready .any l.toArray listed).contains i = true)
  (hQ : ∀ c a w,Q (.panic c) (a.put oi.dst v) w → Q (.panic c) a w) (hy : YieldsIf P l.toArray S oi v a) (hS : S w)
  (h : GT P l Q S z fuel (listed.setIfInBounds i true) (a.put oi.dst v) w) : GT P l Q S z (fuel + 1) listed a w := by
 simp only [Bool.and_eq_true,bne_iff_ne] at hsk
 have hi' : l.toArray[i]? = some oi := by simpa using hi
 exact wpAnyT_first hi' (Region.noSelect_spec hs) hQ hsk.1 hsk.2 fuel listed a w (Region.free_spec hi' hf) (by simpa using hr) hy hS h
theorem gt_pure {i z : Nat} {oi : Oper} {v : Value} {fuel : Nat} {listed : Array Bool} {a : Act} {w : World} (hi : l[i]? = some oi) (hs : Region.noSelect l.toArray = true)
  (hf : Region.free .any l.toArray listed i = true) (hr : (Region.ready .any l.toArray listed).contains i = true)
  (hQ : ∀ c a w,Q (.panic c) (a.put oi.dst v) w → Q (.panic c) a w) (hy : Yields P l.toArray oi v a)
  (h : GT P l Q S z fuel (listed.setIfInBounds i true) (a.put oi.dst v) w) : GT P l Q S z (fuel + 1) listed a w := by
 have hi' : l.toArray[i]? = some oi := by simpa using hi
 exact wpAnyT_pure hi' (Region.noSelect_spec hs) hQ fuel listed a w (Region.free_spec hi' hf) (by simpa using hr) hy h
theorem gt_one {i z : Nat} {o : Oper} {fuel : Nat} {listed : Array Bool} {a : Act} {w : World} (hi : l[i]? = some o) (hr : Region.ready .any l.toArray listed = [i]) (hiz : (i != z) = true)
  (h : ∀ K' : Act → World → Prop,Shut (∀ a w,S w → (S w → GT P l Q S z fuel (listed.setIfInBounds i true) a w) → K' a w) → if Region.wanted o (yielded l.toArray a.tmps) = true then Oper.wp P o a w K' Q else K' (a.put o.dst undef) w) : GT P l Q S z (fuel + 1) listed a w := by
 have hi' : l.toArray[i]? = some o := by simpa using hi
 refine ⟨fun h0 => (by rw [hr] at h0;cases h0),fun j hj => ?_⟩
 rw [hr] at hj
 simp at hj
 subst hj
 exact wpOp_step hi' (fun K' hK => h K' (fun a w hS hW => hK a w ⟨fun _ _ => hS,hW hS⟩))
theorem gt_last {z : Nat} {o : Oper} {fuel : Nat} {listed : Array Bool} {a : Act} {w : World} (hi : l[z]? = some o) (hr : Region.ready .any l.toArray listed = [z]) (hr2 : Region.ready .any l.toArray (listed.setIfInBounds z true) = [])
  (h : ∀ K' : Act → World → Prop,Shut (∀ a w,Q .normal a w → K' a w) → if Region.wanted o (yielded l.toArray a.tmps) = true then Oper.wp P o a w K' Q else K' (a.put o.dst undef) w) : GT P l Q S z (fuel + 1) listed a w := by
 have hi' : l.toArray[z]? = some o := by simpa using hi
 refine ⟨fun h0 => (by rw [hr] at h0;cases h0),fun j hj => ?_⟩
 rw [hr] at hj
 simp at hj
 subst hj
 refine wpOp_step hi' (fun K' hK => h K' (fun a w hq => hK a w ⟨fun h => absurd rfl h, ?_⟩))
 cases fuel with
 | zero => exact ⟨hr2,hq⟩
 | succ f => exact ⟨fun _ => hq,by rw [hr2];simp⟩
end
end Go.Proofs.Ytlnmdfgcpfbleaa
namespace Go.Proofs.Ytlnmdfgcpfbleaa
set_option linter.unusedSimpArgs false
set_option linter.unusedVariables false
open Go.RowKit Go.Sort
def bys (l : List UInt8) : List Value := l.map (fun b => Value.int .u8 (b.toNat : Int))
theorem bys_app (a b : List UInt8) : bys (a ++ b) = bys a ++ bys b := by simp [bys]
theorem bys_len (l : List UInt8) : (bys l).length = l.length := by simp [bys]
def OBy (w : World) (g off n cap : Nat) (l : List UInt8) : Prop := OSl w 1 g off n cap (bys l)
theorem OBy.length {w : World} {g off n cap : Nat} {l : List UInt8} (h : OBy w g off n cap l) : l.length = n := by have := h.len;rw [bys_len] at this;omega
theorem OBy.cellAt {w : World} {g off n cap : Nat} {l : List UInt8} (h : OBy w g off n cap l) {i : Nat} (hi : i < l.length) : w.cell? ⟨g,off + i,none⟩ = some (.int .u8 (l[i].toNat : Int)) := by
 have hl := h.length
 rw [h.cell i (by omega)]
 simp [bys,hi]
theorem oby_empty (w : World) (T : TypeId) : OBy (w.alloc (.cells #[] T)) w.heap.size 0 0 0 [] :=
 ⟨rfl,Nat.le_refl _,Nat.zero_le _,by simp,fun i hi => by omega,fun i hi => by omega,fun i hi => by omega⟩
theorem oby_app {w : World} {g off n m cap : Nat} {l r : List UInt8} (h : OSl w 1 g off (n + m) cap (bys l ++ bys r)) : OBy w g off (n + m) cap (l ++ r) := by unfold OBy;rw [bys_app];exact h
theorem OBy.set {w : World} {g off n cap : Nat} {l : List UInt8} (h : OBy w g off n cap l) {i : Nat} (hi : i < n) (b : UInt8) : OBy (w.setCell ⟨g,off + i,none⟩ (.int .u8 (b.toNat : Int))) g off n cap (l.set i b) := by
 have hl := h.length
 have hc := h.cellAt (i := i) (by omega)
 refine ⟨by rw [bys_len];simp [hl],h.le,h.max,by simp [World.setCell];exact h.blk,fun j hj => ?_,fun j hj => ?_,fun j hj => by rw [World.frozen?_setCell];exact h.free j hj⟩
 ·by_cases e : i = j
  ·subst e
   rw [World.cell?_setCell_same _ _ _ hc]
   simp [bys,show i < l.length by omega]
  ·rw [World.cell?_setCell_other _ _ _ _ (by simp [e]),h.cell j hj]
   simp [bys,e]
 ·by_cases e : i = j
  ·subst e
   rw [World.cell?_setCell_same _ _ _ hc];rfl
  ·rw [World.cell?_setCell_other _ _ _ _ (by simp [e])];exact h.some j hj
theorem OBy.str {w : World} {g off cap : Nat} {l : List UInt8} (h : OBy w g off l.length cap l) : (convert 22 9 (.slice (some ⟨g,off,none⟩) l.length cap)).run Try.prog w = .ok (.string (sv l)) w :=
 run_convert_bytes_back (P := Try.prog) w 22 9 5 ⟨g,off,none⟩ cap l Try.underlying22 Try.underlying5 Try.underlying9 (fun j hj => by rw [add_lit0];exact h.cellAt hj)
structure Lb (w wr : World) (p : Nat) (a : Option Addr) (len cap g f c : Nat) (l : List UInt8) : Prop where
 out : OBy wr g f l.length c l
 new : w.heap.size ≤ g
 cur : CurAt wr p a len cap
 grown : w.grownBy wr (some p)
theorem Lb.step {w wr wx : World} {p : Nat} {a : Option Addr} {len cap g f c : Nat} {l : List UInt8} (h : Lb w wr p a len cap g f c l) (hpl : p < w.heap.size) (hc : CurAt wx p a len cap) (hg : wr.grownBy wx (some p)) : Lb w wx p a len cap g f c l :=
 ⟨OSl.grown h.out hg (by have := h.new;simp;omega),h.new,hc,grown_trans h.grown hg⟩
theorem Lb.bvec {w wr : World} {p : Nat} {a : Option Addr} {len cap g f c : Nat} {l : List UInt8} {bs : Nat → Int} (h : Lb w wr p a len cap g f c l) (hv : BVec w a len bs) (hp : OffB a len p) : BVec wr a len bs := hv.grown h.grown hp
theorem Lb.push {w wr w6 : World} {p : Nat} {a : Option Addr} {len cap g f c g6 f6 c6 : Nat} {l r : List UInt8} (h : Lb w wr p a len cap g f c l) (hpl : p < w.heap.size) (o : Obj) (hO : OSl w6 1 g6 f6 (l.length + r.length) c6 (bys l ++ bys r)) (hg : (wr.alloc o).grownBy w6 (some g)) (hat : g6 = g ∨ g6 = (wr.alloc o).heap.size) : Lb w w6 p a len cap g6 f6 c6 (l ++ r) := by
 have hs := h.grown.size
 have hn := h.new
 refine ⟨by rw [List.length_append];exact oby_app hO, ?_, ?_, ?_⟩
 ·rcases hat with e | e
  ·rw [e];exact h.new
  ·rw [e];simp;omega
 ·exact (h.cur.alloc o).grown hg (by simp;omega)
 ·exact grown_more (grown_more h.grown (World.grownBy_alloc wr o none) (by simp)) hg (fun k hk => by cases hk;exact h.new)
theorem Lb.set {w wr : World} {p : Nat} {a : Option Addr} {len cap g f c i : Nat} {l : List UInt8} (h : Lb w wr p a len cap g f c l) (hpl : p < w.heap.size) (hi : i < l.length) (b : UInt8) : Lb w (wr.setCell ⟨g,f + i,none⟩ (.int .u8 (b.toNat : Int))) p a len cap g f c (l.set i b) :=
 ⟨by rw [List.length_set];exact h.out.set hi b,h.new,h.cur.set (by have := h.new;omega) _ _,grown_setOwn h.grown h.new _ _⟩
theorem u8_of {x : Int} (h0 : 0 ≤ x) (h1 : x ≤ 255) : ((UInt8.ofNat x.toNat).toNat : Int) = x := by rw [UInt8.toNat_ofNat'];omega
attribute [local irreducible] sv
set_option maxRecDepth 100000 in
set_option maxHeartbeats 1600000 in
theorem drawText_any (p : Nat) (a : Option Addr) (len cap : Nat) (bs : Nat → Int) (most : Nat) (w : World) (hcur : CurAt w p a len cap) (hv : BVec w a len bs) (hp : OffB a len p) (hl : len ≤ 4096) (hmost : most ≤ 1000) :
  Calls Try.prog 112 #[.pointer (some ⟨p,0,none⟩),.int .i64 (most : Int)] w fun e w' => ∃ l : List UInt8,l.length ≤ most ∧ e = .returned (.string (sv l)) ∧ CurAt w' p a len cap ∧ w.grownBy w' (some p) := by
 obtain ⟨i0,hi0,hz0,hz1,hz2⟩ := info_parts Try.info5
 have hpl := hcur.lt
 have L0 : Lb w (w.alloc (.cells #[] 5)) p a len cap w.heap.size 0 0 [] := ⟨oby_empty w 5,Nat.le_refl _,hcur.alloc _,World.grownBy_alloc w _ _⟩
 go_enter Try.func112,Try.ntmps112
 go_wp2_with fail
 refine (below_any p a len cap bs ((most : Int) + 1) _ L0.cur (L0.bvec hv hp) hp hl (by omega)).mono ?_
 rintro e w1 ⟨x,rfl,hx0,hx1,_,hc1,hg1⟩
 have hxm := hx1 (by omega)
 obtain ⟨N,hN⟩ : ∃ N : Nat,x = (N : Int) := ⟨x.toNat,by omega⟩
 subst hN
 have HL1 : Hid (Lb w w1 p a len cap w.heap.size 0 0 []) := L0.step hpl hc1 hg1
 clear L0 hx0 hx1 hc1 hg1
 go_wp2
 go_loopw [5,6] (fun b n wr => ∃ (l : List UInt8) (g f c M : Nat),n = .int .i64 (M : Nat) ∧ b = .slice (some ⟨g,f,none⟩) l.length c ∧ l.length + M ≤ most ∧ Lb w wr p a len cap g f c l) (fun _ n _ => (intOf n).toNat)
 case atStart => exact ⟨[],w.heap.size,0,0,N,rfl,rfl,by simp;omega,HL1.out⟩
 case round =>
  obtain ⟨l,g,f,c,M,rfl,rfl,hlm,hL⟩ := hrel
  have KL : Hid (Lb w wr p a len cap g f c l) := hL
  clear hL HL1
  rcases Nat.eq_zero_or_pos M with h0 | hpos
  ·subst h0
   go_wp2_with fail
   refine (once_any p a len cap bs 7 wr KL.out.cur (KL.out.bvec hv hp) hp hl (by omega)).mono ?_
   rintro e w2 ⟨x,rfl,hc2,hg2⟩
   have K2 : Hid (Lb w w2 p a len cap g f c l) := KL.out.step hpl hc2 hg2
   clear hc2 hg2
   by_cases hx : x = true ∧ 0 < l.length
   ·obtain ⟨rfl,hlp⟩ := hx
    have hli : (0 : Int) < (l.length : Int) := by omega
    go_wp2_with fail
    refine (below_any p a len cap bs (l.length : Int) w2 K2.out.cur (K2.out.bvec hv hp) hp hl (by omega)).mono ?_
    rintro e w3 ⟨y,rfl,hy0,hy1,_,hc3,hg3⟩
    have hyl := hy1 (by omega)
    obtain ⟨k,hk⟩ : ∃ k : Nat,y = (k : Int) := ⟨y.toNat,by omega⟩
    subst hk
    have K3 : Hid (Lb w w3 p a len cap g f c l) := K2.out.step hpl hc3 hg3
    clear hy0 hy1 hc3 hg3
    go_wp2_with fail
    refine (byte_any p a len cap bs w3 K3.out.cur (K3.out.bvec hv hp) hp hl).mono ?_
    rintro e w4 ⟨z,rfl,hz00,hz255,hc4,hg4⟩
    have K4 : Hid (Lb w w4 p a len cap g f c l) := K3.out.step hpl hc4 hg4
    have hkl : k < l.length := by omega
    have c1 := K4.out.out.cellAt hkl
    have f1 := K4.out.out.free k (by have := K4.out.out.le;omega)
    have K5 := K4.out.set hpl hkl (UInt8.ofNat z.toNat)
    rw [u8_of hz00 hz255] at K5
    have hstr := K5.out.str
    rw [List.length_set] at hstr
    have hyi : (0 : Int) ≤ (k : Int) := by omega
    have K5' : Hid (CurAt (w4.setCell ⟨g,f + k,none⟩ (.int .u8 z)) p a len cap ∧ w.grownBy (w4.setCell ⟨g,f + k,none⟩ (.int .u8 z)) (some p)) := ⟨K5.cur,K5.grown⟩
    clear hc4 hg4 K5
    go_wp2
    go_ret
    exact ⟨l.set k (UInt8.ofNat z.toNat),by rw [List.length_set];omega,rfl,K5'.out.1,K5'.out.2⟩
   ·have hstr := K2.out.out.str
    have K2' : Hid (CurAt w2 p a len cap ∧ w.grownBy w2 (some p)) := ⟨K2.out.cur,K2.out.grown⟩
    cases x
    ·clear hx
     go_wp2
     go_ret
     exact ⟨l,by omega,rfl,K2'.out.1,K2'.out.2⟩
    ·have hli : l.length = 0 := by
      rcases Nat.eq_zero_or_pos l.length with h | h
      ·exact h
      ·exact absurd ⟨rfl,h⟩ hx
     rw [hli] at hstr
     rw [hli]
     clear hx
     go_wp2
     go_ret
     exact ⟨l,by omega,rfl,K2'.out.1,K2'.out.2⟩
  ·have hMi : (0 : Int) < (M : Int) := by omega
   go_wp2_with fail
   refine (below_any p a len cap bs 3 wr KL.out.cur (KL.out.bvec hv hp) hp hl (by omega)).mono ?_
   rintro e w2 ⟨x,rfl,hx0,hx1,_,hc2,hg2⟩
   have hx3 := hx1 (by omega)
   have K2 : Hid (Lb w w2 p a len cap g f c l) := KL.out.step hpl hc2 hg2
   have hu := u8_of (x := 97 + x) (by omega) (by omega)
   have hO1 : OSl (w2.alloc (.cells #[.int .u8 (97 + x)] 5)) 1 g f l.length c (bys l) := OSl.below K2.out.out ((Below.refl _ _).alloc (Nat.le_refl _) _) K2.out.out.blk
   clear hx1 hc2 hg2
   go_wp2_with (at_builtin;refine wpList_append_os _ rfl _ _ 22 rfl 5 i0 _ 1 1 Try.underlying22 hi0 hz0 hz1 hz2 rfl (by omega) g f l.length c _ rfl hO1 ⟨w2.heap.size,0,none⟩ 1 1 [.int .u8 (97 + x)] rfl rfl (World.news_of_block (cs := #[.int .u8 (97 + x)]) (t := 5) (fr := (0,0)) (heap_alloc_new _ _)) (by simp [Value.oneCell']) (by unfold maxLen;omega) (by omega) ?_;intro g6 f6 c6 w6 hO6 hg6 hat6)
   have hO7 : OSl w6 1 g6 f6 (l.length + [UInt8.ofNat (97 + x).toNat].length) c6 (bys l ++ bys [UInt8.ofNat (97 + x).toNat]) := by
    have e : bys [UInt8.ofNat (97 + x).toNat] = [.int .u8 (97 + x)] := by simp only [bys,List.map_cons,List.map_nil,hu]
    rw [e];exact hO6
   have K7 := K2.out.push hpl _ hO7 hg6 hat6
   go_roundw
   case rel => exact ⟨l ++ [UInt8.ofNat (97 + x).toNat],g6,f6,c6,M - 1,by go_num,by rw [List.length_append];rfl,by rw [List.length_append];simp;omega,K7⟩
   case measure => simp [intOf];omega
end Go.Proofs.Ytlnmdfgcpfbleaa