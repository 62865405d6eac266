/-
  Texts in one: Nmf Nms Nmt Nmu Nmv Nmw Nnx Nmn.
-/
import Derived.Test.YthioodpmgifomaaGreatJae
import Derived.Test.YthioodpmgifomaaGreatJab
import Derived.Test.YthioodpmgifomaaGreatJaf
import Derived.Test.YthioodpmgifomaaGreatJap
import Derived.Test.YthioodpmgifomaaGreatJag
import Derived.Lib.Overlaps
import Derived.Lib.AppendZerosOnto
import Derived.Lib.SlicesSearch
import Derived.Lib.JoinLaws
import Derived.Lib.SliceRun
import Derived.Laws.IdiomCopy
import Derived.Laws.NewBlocks
import Derived.Laws.Externs
import Derived.Deep.LoopGhost
import Derived.Deep.Draws
import Derived.Lib.Walk
import Derived.Shelf.RegionOpenPlain
namespace Go.Proofs.YthioodpmgifomaaGreat
set_option linter.unusedVariables false
set_option linter.unusedSimpArgs false
open Go.RowKit Go.Sort
set_option maxHeartbeats 400000 in
theorem nan1_any (x : Int) (w : World) : Calls Tryz.prog 222 #[.int .i64 x] w fun e w' => e = .returned (.bool false) ∧ w' = w := by
 go_enter Tryz.func222,Tryz.ntmps222
 go_wp2
 go_ret
 exact ⟨by simp,rfl⟩
set_option maxHeartbeats 400000 in
theorem nan2_any (x : Int) (w : World) : Calls Tryz.prog 204 #[.int .i64 x] w fun e w' => e = .returned (.bool false) ∧ w' = w := by
 go_enter Tryz.func204,Tryz.ntmps204
 go_wp2
 go_ret
 exact ⟨by simp,rfl⟩
set_option maxHeartbeats 400000 in
theorem less_any (x y : Int) (w : World) : Calls Tryz.prog 203 #[.int .i64 x,.int .i64 y] w fun e w' => e = .returned (.bool (decide (x < y))) ∧ w' = w := by
 go_enter Tryz.func203,Tryz.ntmps203
 go_wp2_with (go_at_call 222;refine (nan1_any _ _).mono ?_;rintro e w' ⟨rfl,rfl⟩)
 go_ret
 exact ⟨rfl,rfl⟩
theorem put_at : ∀ {zs : List Int} {k : Nat} {x : Int},k ≤ zs.length → (∀ j,j < k → el zs j < x) → (∀ j,k ≤ j → j < zs.length → x < el zs j) → zs.take k ++ x :: zs.drop k = putL zs x
 | [],0,x,_,_,_ => rfl
 | [],k + 1,x,h,_,_ => by simp at h
 | z :: zs,0,x,_,_,h2 => by
  have := h2 0 (Nat.le_refl _) (by simp)
  simp only [el,List.getD_cons_zero] at this
  rw [putL,if_neg (by omega),if_neg (by omega)]
  rfl
 | z :: zs,k + 1,x,h,h1,h2 => by
  have e := h1 0 (by omega)
  simp only [el,List.getD_cons_zero] at e
  rw [putL,if_pos e,← put_at (zs := zs) (k := k) (x := x) (by simpa using h) (fun j hj => by have := h1 (j + 1) (by omega);simpa [el] using this) (fun j hj hl => by have := h2 (j + 1) (by omega) (by simpa using hl);simpa [el] using this)]
  rfl
set_option maxHeartbeats 4000000 in
set_option maxRecDepth 1000000 in
theorem bs_any (a : Option Addr) (cap : Nat) (zs : List Int) (x : Int) (w : World) (hv : Vec w a zs.length zs) (hm : zs.length ≤ 1000) (hs : zs.Pairwise (· < ·)) :
  Calls Tryz.prog 174 #[.slice a zs.length cap,.int .i64 x] w fun e w' => ∃ k : Nat,k ≤ zs.length ∧ e = .returned (.tuple #[.int .i64 (k : Int),.bool (decide (x ∈ zs))]) ∧ w' = w ∧ (x ∉ zs → zs.take k ++ x :: zs.drop k = putL zs x) := by
 have S : Hid (∀ a b,a < b → b < zs.length → el zs a < el zs b) := fun a b hab hb => by
  have := List.pairwise_iff_getElem.1 hs a b (by omega) hb hab
  simpa [el,hb,show a < zs.length by omega] using this
 have hc := hv.2.2
 clear hs hv
 have HP : Hid (∀ k,k ≤ zs.length → (∀ t,t < k → el zs t < x) → (∀ t,k ≤ t → t < zs.length → x ≤ el zs t) → (x ∉ zs → zs.take k ++ x :: zs.drop k = putL zs x) ∧ (k < zs.length → el zs k = x → x ∈ zs) ∧ ((k < zs.length → el zs k ≠ x) → x ∉ zs)) := fun k hk h1 h2 => by
  refine ⟨fun hx => put_at hk h1 (fun j hj hl => ?_),fun hk' e => ?_,fun hne hx => ?_⟩
  ·have := h2 j hj hl
   have hne : el zs j ≠ x := fun e => hx (e ▸ el_mem hl)
   omega
  ·exact e ▸ el_mem hk'
  ·obtain ⟨j,hj,e⟩ := List.mem_iff_getElem.1 hx
   have ej : el zs j = x := by simpa [el,hj] using e
   rcases Nat.lt_or_ge j k with h | h
   ·have := h1 j h;omega
   ·rcases Nat.eq_or_lt_of_le h with h | h
    ·subst h;exact hne hj ej
    ·have a1 := S.out k j h hj
     have a2 := h2 k (Nat.le_refl _) (by omega)
     omega
 have HT : Hid ((x ∈ zs → decide (x ∈ zs) = true) ∧ (x ∉ zs → decide (x ∈ zs) = false)) := ⟨decide_eq_true,decide_eq_false⟩
 generalize decide (x ∈ zs) = D at *
 go_enter Tryz.func174,Tryz.ntmps174
 go_wp2
 go_loopg [7,8] zs.length (fun g s7 s8 wr => ∃ lo hi : Nat,s7 = .int .i64 (lo : Int) ∧ s8 = .int .i64 (hi : Int) ∧ lo ≤ hi ∧ hi ≤ zs.length ∧ hi - lo ≤ g ∧ wr = w ∧ (∀ t,t < lo → el zs t < x) ∧ (∀ t,hi ≤ t → t < zs.length → x ≤ el zs t))
 case atStart => exact ⟨0,zs.length,rfl,rfl,Nat.zero_le _,Nat.le_refl _,by omega,rfl,fun t ht => absurd ht (Nat.not_lt_zero _),fun t h1 h2 => by omega⟩
 case round =>
  obtain ⟨lo,hi,rfl,rfl,hlh,hin,hg,rfl,h1,h2⟩ := hrel
  have I : Hid ((∀ t,t < lo → el zs t < x) ∧ (∀ t,hi ≤ t → t < zs.length → x ≤ el zs t)) := ⟨h1,h2⟩
  clear h1 h2
  by_cases hlt : lo < hi
  ·rcases hc with h0 | ⟨b,off,rfl,hc⟩
   ·omega
   have cm := hc ((lo + hi) / 2) (by omega)
   clear hc
   generalize hy : el zs ((lo + hi) / 2) = y at cm
   have Y : Hid (el zs ((lo + hi) / 2) = y) := hy
   clear hy
   by_cases hyx : y < x
   ·go_wp2_with (first | (go_at_call 203;refine (less_any _ _ _).mono ?_;rintro e w' ⟨rfl,rfl⟩) | (go_at_call 204;refine (nan2_any _ _).mono ?_;rintro e w' ⟨rfl,rfl⟩))
    go_roundg (hi - ((lo + hi) / 2 + 1))
    case measure => omega
    case rel =>
     refine ⟨(lo + hi) / 2 + 1,hi,by rw [show ((lo : Int) + (hi : Int)) / 2 + 1 = (((lo + hi) / 2 + 1 : Nat) : Int) by omega],rfl,by omega,hin,Nat.le_refl _,rfl,fun t ht => ?_,I.out.2⟩
     rcases Nat.lt_or_ge t ((lo + hi) / 2) with h | h
     ·have := S.out t ((lo + hi) / 2) h (by omega)
      rw [Y.out] at this
      omega
     ·rw [show t = (lo + hi) / 2 by omega,Y.out];exact hyx
   ·go_wp2_with (first | (go_at_call 203;refine (less_any _ _ _).mono ?_;rintro e w' ⟨rfl,rfl⟩) | (go_at_call 204;refine (nan2_any _ _).mono ?_;rintro e w' ⟨rfl,rfl⟩))
    go_roundg ((lo + hi) / 2 - lo)
    case measure => omega
    case rel =>
     refine ⟨lo,(lo + hi) / 2,rfl,by rw [show ((lo : Int) + (hi : Int)) / 2 = (((lo + hi) / 2 : Nat) : Int) by omega],by omega,by omega,Nat.le_refl _,rfl,I.out.1,fun t ht htn => ?_⟩
     rcases Nat.eq_or_lt_of_le ht with h | h
     ·rw [← h,Y.out];omega
     ·have := S.out ((lo + hi) / 2) t h htn
      rw [Y.out] at this
      omega
  ·have : hi = lo := by omega
   subst this
   obtain ⟨p1,p2,p3⟩ := HP.out hi hin I.out.1 I.out.2
   have E1 : Hid (x ∉ zs → zs.take hi ++ x :: zs.drop hi = putL zs x) := p1
   by_cases hn : hi < zs.length
   ·rcases hc with h0 | ⟨b,off,rfl,hc⟩
    ·omega
    have cl := hc hi hn
    by_cases hyx : el zs hi = x
    ·have E2 : Hid (D = true) := HT.out.1 (p2 hn hyx)
     rw [hyx] at cl
     clear hc hyx p1 p2 p3
     go_wp2_with (first | (go_at_call 203;refine (less_any _ _ _).mono ?_;rintro e w' ⟨rfl,rfl⟩) | (go_at_call 204;refine (nan2_any _ _).mono ?_;rintro e w' ⟨rfl,rfl⟩))
     go_ret2
     exact ⟨hi,hin,by rw [E2.out];first | rfl | simp,rfl,E1.out⟩
    ·have E2 : Hid (D = false) := HT.out.2 (p3 (fun _ => hyx))
     have hyx' : ((el zs hi) == x) = false := by simpa using hyx
     clear hc p1 p2 p3
     generalize el zs hi = y at *
     go_wp2_with (first | (go_at_call 203;refine (less_any _ _ _).mono ?_;rintro e w' ⟨rfl,rfl⟩) | (go_at_call 204;refine (nan2_any _ _).mono ?_;rintro e w' ⟨rfl,rfl⟩))
     go_ret2
     exact ⟨hi,hin,by rw [E2.out];first | rfl | simp [hyx],rfl,E1.out⟩
   ·have E2 : Hid (D = false) := HT.out.2 (p3 (fun h => absurd h hn))
    clear hc p1 p2 p3
    go_wp2_with (first | (go_at_call 203;refine (less_any _ _ _).mono ?_;rintro e w' ⟨rfl,rfl⟩) | (go_at_call 204;refine (nan2_any _ _).mono ?_;rintro e w' ⟨rfl,rfl⟩))
    go_ret2
    exact ⟨hi,hin,by rw [E2.out];first | rfl | simp,rfl,E1.out⟩
end Go.Proofs.YthioodpmgifomaaGreat
namespace Go.Proofs.YthioodpmgifomaaGreat
set_option linter.unusedVariables false
set_option linter.unusedSimpArgs false
open Go.RowKit Go.Sort
theorem wp_copy17 {P : Program} (w : World) {o : Oper} {a : Act} {K : Act → World → Prop} {Q : Exit → Act → World → Prop} (d s : Operand) (t t' : TypeId)
  (ho : o.op = .call { callee := .builtin .copy,args := #[d,s],argTypes := #[t,t'] }) (v u : Value) (hd : a.eval d = v) (hs : a.eval s = u) {v' : Value} {w' : World}
  (hr : (Builtin.copy_ #[t,t'] o.type #[v,u]).run P w = .ok v' w') (h : K (a.put o.dst v') w') : o.wp P a w K Q := by
 unfold Oper.wp execOp
 simp only [ho,resolve,invoke,builtin,Sem.run_bind,Sem.run_pure,Result.andThen_ok,List.map_toArray,List.map_cons,List.map_nil,hd,hs,hr]
 exact h
theorem wpList_copy17 {P : Program} (w : World) {ops : Array Oper} {rest : List Oper} {o : Oper} {a : Act} {Q : Exit → Act → World → Prop} (hgd : o.guard = none) (d s : Operand) (t t' : TypeId)
  (ho : o.op = .call { callee := .builtin .copy,args := #[d,s],argTypes := #[t,t'] }) (v u : Value) (hd : a.eval d = v) (hs : a.eval s = u) {v' : Value} {w' : World}
  (hr : (Builtin.copy_ #[t,t'] o.type #[v,u]).run P w = .ok v' w') (h : wpList P ops Q rest (a.put o.dst v') w') : wpList P ops Q (o :: rest) a w :=
 wpList_plain hgd fun _ hK => wp_copy17 w d s t t' ho v u hd hs hr (hK _ _ h)
theorem step_copy17 {P : Program} {ops : Array Oper} {o : Oper} {a : Act} {w : World} {K : Act → World → Prop} {Q : Exit → Act → World → Prop} {E : Prop}
  (hg : o.guard = none) (d x : Operand) (dT sT : TypeId) (hop : o.op = Op.call { callee := Callee.builtin Builtin.copy,args := #[d,x],argTypes := #[dT,sT] })
  (v u : Value) (hd : a.eval d = v) (hx : a.eval x = u) {v' : Value} {w' : World} (hr : (Builtin.copy_ #[dT,sT] o.type #[v,u]).run P w = .ok v' w') (hK : K (a.put o.dst v') w') :
  if Region.wanted o (yielded ops a.tmps) = true then Oper.wp P o a w K Q else E := by
 have hw : Region.wanted o (yielded ops a.tmps) = true := by simp [Region.wanted,hg]
 rw [if_pos hw]
 unfold Oper.wp
 simp [execOp,hop,resolve,invoke,builtin,hd,hx,hr,Result.andThen]
 exact hK
theorem some_set17 (b : Nat) (vs : List Value) (o : Nat) (w : World) (h : ∀ j,j < vs.length → (w.cell? ⟨b,o + j,none⟩).isSome = true) (k : Nat) (hk : (w.cell? ⟨b,k,none⟩).isSome = true) : ((w.setCells b o vs).cell? ⟨b,k,none⟩).isSome = true := by
 by_cases hin : o ≤ k ∧ k < o + vs.length
 ·have := World.cell?_setCells_in b vs o w h (k - o) (by omega)
  rw [show o + (k - o) = k by omega] at this
  rw [this];rfl
 ·rw [World.cell?_setCells_out b vs o w ⟨b,k,none⟩ (fun _ _ => by show k < o ∨ o + vs.length ≤ k;omega)]
  exact hk
theorem ins_get {α : Type} (cs : List α) (k : Nat) (x : α) (hk : k ≤ cs.length) (j : Nat) : (cs.take k ++ x :: cs.drop k)[j]? = if j < k then cs[j]? else if j = k then some x else cs[j - 1]? := by
 have hl : (cs.take k).length = k := by rw [List.length_take];omega
 by_cases h1 : j < k
 ·rw [if_pos h1,List.getElem?_append_left (by omega),List.getElem?_take,if_pos h1]
 ·rw [if_neg h1,List.getElem?_append_right (by omega),hl]
  by_cases h2 : j = k
  ·rw [if_pos h2,h2,Nat.sub_self];rfl
  ·rw [if_neg h2,show j - k = (j - k - 1) + 1 by omega,List.getElem?_cons_succ,List.getElem?_drop]
   congr 1
   omega
theorem ins_down (W : World) (N o k c : Nat) (cs : List Value) (x : Value) (hk : k ≤ cs.length) (h0 : ∀ j,j < k → W.cell? ⟨N,o + j,none⟩ = cs[j]?) (hs : ∀ j,j < c → (W.cell? ⟨N,o + j,none⟩).isSome = true) (hc : cs.length + 1 ≤ c) :
  (∀ j,j < cs.length + 1 → ((W.setCells N (o + (k + 1)) (cs.drop k)).setCells N (o + k) [x]).cell? ⟨N,o + j,none⟩ = (cs.take k ++ x :: cs.drop k)[j]?) ∧ ∀ j,j < c → (((W.setCells N (o + (k + 1)) (cs.drop k)).setCells N (o + k) [x]).cell? ⟨N,o + j,none⟩).isSome = true := by
 have hd : (cs.drop k).length = cs.length - k := List.length_drop
 have s1 : ∀ j,j < (cs.drop k).length → (W.cell? ⟨N,o + (k + 1) + j,none⟩).isSome = true := fun j hj => by rw [Nat.add_assoc];exact hs _ (by omega)
 have s2 : ∀ j,j < c → ((W.setCells N (o + (k + 1)) (cs.drop k)).cell? ⟨N,o + j,none⟩).isSome = true := fun j hj => some_set17 N _ _ W s1 _ (hs j hj)
 have s3 : ∀ j,j < [x].length → ((W.setCells N (o + (k + 1)) (cs.drop k)).cell? ⟨N,o + k + j,none⟩).isSome = true := fun j hj => by rw [Nat.add_assoc];exact s2 _ (by simp at hj;omega)
 refine ⟨fun j hj => ?_,fun j hj => some_set17 N _ _ _ s3 _ (s2 j hj)⟩
 rw [ins_get cs k x hk j]
 by_cases h2 : j = k
 ·subst h2
  rw [if_neg (by omega),if_pos rfl]
  have := World.cell?_setCells_in N [x] (o + j) _ s3 0 (by simp)
  exact this
 ·rw [World.cell?_setCells_out N [x] (o + k) _ ⟨N,o + j,none⟩ (fun _ _ => by show o + j < o + k ∨ o + k + [x].length ≤ o + j;simp;omega),if_neg h2]
  by_cases h1 : j < k
  ·rw [if_pos h1,World.cell?_setCells_out N _ _ W ⟨N,o + j,none⟩ (fun _ _ => by show o + j < o + (k + 1) ∨ _;omega)]
   exact h0 j h1
  ·rw [if_neg h1]
   have := World.cell?_setCells_in N (cs.drop k) (o + (k + 1)) W s1 (j - (k + 1)) (by omega)
   rw [show o + (k + 1) + (j - (k + 1)) = o + j by omega] at this
   rw [this,List.getElem_drop,List.getElem?_eq_getElem (by omega)]
   congr 2
   omega
theorem ins_up (W : World) (N o k c : Nat) (cs : List Value) (x : Value) (hk : k ≤ cs.length) (h0 : ∀ j,j < k → W.cell? ⟨N,o + j,none⟩ = cs[j]?) (hs : ∀ j,j < c → (W.cell? ⟨N,o + j,none⟩).isSome = true) (hc : cs.length + 1 ≤ c) :
  (∀ j,j < cs.length + 1 → ((W.setCells N (o + k) [x]).setCells N (o + (k + 1)) (cs.drop k)).cell? ⟨N,o + j,none⟩ = (cs.take k ++ x :: cs.drop k)[j]?) ∧ ∀ j,j < c → (((W.setCells N (o + k) [x]).setCells N (o + (k + 1)) (cs.drop k)).cell? ⟨N,o + j,none⟩).isSome = true := by
 have hd : (cs.drop k).length = cs.length - k := List.length_drop
 have s3 : ∀ j,j < [x].length → (W.cell? ⟨N,o + k + j,none⟩).isSome = true := fun j hj => by rw [Nat.add_assoc];exact hs _ (by simp at hj;omega)
 have s2 : ∀ j,j < c → ((W.setCells N (o + k) [x]).cell? ⟨N,o + j,none⟩).isSome = true := fun j hj => some_set17 N _ _ W s3 _ (hs j hj)
 have s1 : ∀ j,j < (cs.drop k).length → ((W.setCells N (o + k) [x]).cell? ⟨N,o + (k + 1) + j,none⟩).isSome = true := fun j hj => by rw [Nat.add_assoc];exact s2 _ (by omega)
 refine ⟨fun j hj => ?_,fun j hj => some_set17 N _ _ _ s1 _ (s2 j hj)⟩
 rw [ins_get cs k x hk j]
 by_cases h1 : j < k + 1
 ·rw [World.cell?_setCells_out N _ _ (W.setCells N (o + k) [x]) ⟨N,o + j,none⟩ (fun _ _ => by show o + j < o + (k + 1) ∨ _;omega)]
  by_cases h2 : j = k
  ·subst h2
   rw [if_neg (by omega),if_pos rfl]
   exact World.cell?_setCells_in N [x] (o + j) W s3 0 (by simp)
  ·rw [if_pos (by omega),World.cell?_setCells_out N [x] (o + k) W ⟨N,o + j,none⟩ (fun _ _ => by show o + j < o + k ∨ _;omega)]
   exact h0 j (by omega)
 ·rw [if_neg (by omega),if_neg (by omega)]
  have := World.cell?_setCells_in N (cs.drop k) (o + (k + 1)) (W.setCells N (o + k) [x]) s1 (j - (k + 1)) (by omega)
  rw [show o + (k + 1) + (j - (k + 1)) = o + j by omega] at this
  rw [this,List.getElem_drop,List.getElem?_eq_getElem (by omega)]
  congr 2
  omega
set_option maxHeartbeats 1600000 in
set_option maxRecDepth 100000 in
theorem insS_any (b off n c i vb : Nat) (cs : List Value) (x : Int) (w : World) (hi : i < n) (hroom : n + 1 ≤ c) (hc63 : c ≤ 9223372036854775807) (hvb : vb ≠ b) (hcl : cs.length = n)
  (hcs : ∀ j v,cs[j]? = some v → w.cell? ⟨b,off + j,none⟩ = some v) (hsp : ∀ j,j < n + 1 → (w.cell? ⟨b,off + j,none⟩).isSome = true) (hfz : ∀ j,j < n + 1 → w.frozen? ⟨b,off + j,none⟩ = false)
  (hvs : w.cell? ⟨vb,0,none⟩ = some (.int .i64 x)) (h1c : ∀ v ∈ cs,v.oneCell' = true) (tA tB : TypeId) (kA kB : Nat) (hsa : w.shape? vb = some (tA,kA)) (hsb : w.shape? b = some (tB,kB)) (hkB : kB ≠ 0) (hfa : w.frozen? ⟨vb,0,none⟩ = false) (hfe : w.frozen? ⟨vb,kA,none⟩ = false) :
  Calls Tryz.prog 175 #[.slice (some ⟨b,off,none⟩) n c,.int .i64 (i : Int),.slice (some ⟨vb,0,none⟩) 1 1] w fun e w' =>
   e = .returned (.slice (some ⟨b,off,none⟩) (n + 1) c) ∧ w' = (w.drew.setCells b (off + (i + 1)) (cs.drop i)).setCells b (off + i) [.int .i64 x] := by
 have mixed := mixed17
 have hz2 : ¬ ((i : Int) = (n : Int)) := by omega
 obtain ⟨i0,hi0,hz0,hz1,hzb⟩ := info_parts2n Tryz.info2n
 have hsz : (Tryz.prog.info? 2).map (·.size) = some 1 := by rw [hi0];simp [hz1]
 have hov : ∀ lb cb,(callFunc 205 #[.slice (some ⟨vb,0,none⟩) 1 1,.slice (some ⟨b,off + (i + 1),none⟩) lb cb]).run Tryz.prog w = .ok (.value (.bool false)) w := fun lb cb => by
  rw [run_callFunc_extern Tryz.func205 (by kernel_rfl) (by kernel_rfl) (by kernel_rfl) (e := Extern.SlicesOverlaps.overlaps #[25,25] #[4]) (by kernel_rfl),
   Lib.run_overlaps_apart w 25 4 2 Tryz.underlying25 1 Tryz.sizeOf2 ⟨vb,0,none⟩ ⟨b,off + (i + 1),none⟩ 1 1 lb cb hvb tA tB kA kB hsa hsb hkB hfa hfe]
  rfl
 have hdl : (cs.drop i).length = n - i := by rw [List.length_drop,hcl]
 have hw1 : IntKind.i64.wrap ((i : Int) + 1) = (i : Int) + 1 := by rw [IntKind.wrap_i64];omega
 have hb1 : (0 : Int) ≤ (i : Int) + 1 := by omega
 have hin : i ≤ n := by omega
 have htn : ((i : Int) + 1).toNat = i + 1 := by omega
 have hb2 : ¬ (c = i + 1) := by omega
 have hb3 : (i : Int) ≤ (n : Int) + 1 := by omega
 have hb4 : ¬ (c = i) := by omega
 have hcp1 : ∀ dl sl ty dc sc,dl = n - i → sl = n + 1 - i → (Builtin.copy_ #[25,25] ty #[.slice (some ⟨b,off + (i + 1),none⟩) dl dc,.slice (some ⟨b,off + i,none⟩) sl sc]).run Tryz.prog w.drew = .ok (goInt (cs.drop i).length) (w.drew.setCells b (off + (i + 1)) (cs.drop i)) := fun dl sl ty dc sc e1 e2 =>
  run_copy_cells w.drew _ _ ty 2 b (off + (i + 1)) dl dc ⟨b,off + i,none⟩ sl sc (cs.drop i) Tryz.underlying25 hsz (by rw [hdl];simp only [Nat.min_def];split <;> omega)
   (fun j v hj => by rw [Addr.add_lit,Nat.add_assoc];exact hcs (i + j) v (by rwa [List.getElem?_drop] at hj))
   (fun j hj => by rw [Nat.add_assoc];exact hsp _ (by omega)) (fun j hj => by rw [Nat.add_assoc];exact hfz _ (by omega)) (fun v hv => h1c v (List.mem_of_mem_drop hv))
 obtain ⟨W1,hW1⟩ : ∃ W1,W1 = w.drew.setCells b (off + (i + 1)) (cs.drop i) := ⟨_,rfl⟩
 have hsp1 : ∀ k,k < n + 1 → (W1.cell? ⟨b,off + k,none⟩).isSome = true := fun k hk => by
  rw [hW1]
  exact some_set17 b _ _ _ (fun j hj => by rw [Nat.add_assoc];exact hsp _ (by omega)) _ (hsp k hk)
 have hcp2 : ∀ (W : World),(∀ x,W.cell? x = W1.cell? x) → (∀ x,W.frozen? x = W1.frozen? x) → ∀ dl ty dc,dl = n + 1 - i → (Builtin.copy_ #[25,25] ty #[.slice (some ⟨b,off + i,none⟩) dl dc,.slice (some ⟨vb,0,none⟩) 1 1]).run Tryz.prog W = .ok (goInt [Value.int .i64 x].length) (W.setCells b (off + i) [.int .i64 x]) := fun W hWc hWf dl ty dc e1 =>
  run_copy_cells W _ _ ty 2 b (off + i) dl dc ⟨vb,0,none⟩ 1 1 [.int .i64 x] Tryz.underlying25 hsz (by simp only [Nat.min_def,List.length_cons,List.length_nil];split <;> omega)
   (fun j v hj => by
    rw [Addr.add_lit,hWc,hW1,World.cell?_setCells_out b _ _ _ _ (fun h _ => absurd h hvb)]
    match j,hj with
    | 0,hj => simp at hj;rw [← hj];exact hvs)
   (fun j hj => by rw [hWc,Nat.add_assoc];exact hsp1 _ (by simp at hj;omega)) (fun j hj => by rw [hWf,hW1,World.frozen?_setCells,Nat.add_assoc];exact hfz _ (by simp at hj;omega)) (by intro v hv;simp at hv;rw [hv];rfl)
 rw [← hW1] at hcp1
 clear hcs hsp hfz hvs h1c hsp1 hsa hsb hkB hfa hfe hi0 hz0 hz1 hzb hsz
 go_enter Tryz.func175,Tryz.ntmps175
 go_wp2_with (simp only [hov])
 go_region_law_o (refine step_copy17 rfl _ _ 25 25 rfl _ _ (by simp [Act.eval,Act.put]) (by simp [Act.eval,Act.put]) (hcp1 _ _ _ _ _ (by omega) (by omega)) ?_)
 go_wp2_with (at_builtin;refine wpList_copy17 _ rfl _ _ 25 25 rfl _ _ rfl rfl (hcp2 _ (fun _ => rfl) (fun _ => rfl) _ _ _ (by omega)) ?_)
 go_ret
 first | exact ⟨rfl,rfl⟩ | exact ⟨rfl,by rw [hW1]⟩
end Go.Proofs.YthioodpmgifomaaGreat
namespace Go.Proofs.YthioodpmgifomaaGreat
set_option linter.unusedVariables false
set_option linter.unusedSimpArgs false
open Go.RowKit Go.Sort
set_option maxHeartbeats 1600000 in
set_option maxRecDepth 100000 in
theorem insG_any (b off n c i vb : Nat) (cs : List Value) (x : Int) (w : World) (hi : i < n) (hnc : n ≤ c) (hroom : c < n + 1) (hbig : (n + 1) * 8 ≤ 140737488355328) (hcl : cs.length = n)
  (hcs : ∀ j v,cs[j]? = some v → w.cell? ⟨b,off + j,none⟩ = some v) (hvs : w.cell? ⟨vb,0,none⟩ = some (.int .i64 x)) (h1c : ∀ v ∈ cs,v.oneCell' = true) :
  Calls Tryz.prog 175 #[.slice (some ⟨b,off,none⟩) n c,.int .i64 (i : Int),.slice (some ⟨vb,0,none⟩) 1 1] w fun e w' =>
   e = .returned (.slice (some ⟨w.heap.size,0,none⟩) (n + 1) (grownCap w (n + 1) c 2)) ∧
   w' = (((w.alloc (.cells ((cs.take i).toArray ++ Builtin.zeroCells (Value.int .i64 0).cells (n + 1 - i) ++ Builtin.zeroCells (Value.int .i64 0).cells (grownCap w (n + 1) c 2 - (n + 1))) 2)).drew.setCells w.heap.size i [.int .i64 x]).drew).setCells w.heap.size (i + 1) (cs.drop i) := by
 have mixed := mixed17
 obtain ⟨i0,hi0,hz0,hzs,hzb⟩ := info_parts2n Tryz.info2n
 have hz2 : ¬ ((i : Int) = (n : Int)) := by omega
 have hz3 : (c : Int) < (n : Int) + 1 := by omega
 have hsz : (Tryz.prog.info? 2).map (·.size) = some 1 := by rw [hi0];simp [hzs]
 have hbw : b < w.heap.size := World.block_lt_of_cell? _ _ (hcs 0 _ (List.getElem?_eq_getElem (by omega)))
 have hvw : vb < w.heap.size := World.block_lt_of_cell? _ _ hvs
 have hkk : (n : Int) + 1 - (i : Int) = ((n + 1 - i : Nat) : Int) := by omega
 have hik : i + (n + 1 - i) = n + 1 := by omega
 have hold : (Builtin.firstCells i0.size i (.slice (some ⟨b,off,none⟩) i c)).run Tryz.prog w.drew = .ok (cs.take i).toArray w.drew := by
  rw [hzs]
  exact run_firstCells_some w.drew 1 i ⟨b,off,none⟩ i c (cs.take i) (by rw [List.length_take];omega) (fun j v hj => by
   rw [Addr.add_lit]
   rw [List.getElem?_take] at hj
   split at hj
   ·exact hcs j v hj
   ·cases hj)
 have hrz : ∀ ty,(Builtin.append_ #[25,3] ty #[.slice (some ⟨b,off,none⟩) i c,.int .i64 ((n : Int) + 1 - (i : Int))]).run Tryz.prog w =
   .ok (.slice (some ⟨w.heap.size,0,none⟩) (n + 1) (grownCap w (n + 1) c 2)) (w.drew.alloc (.cells ((cs.take i).toArray ++ Builtin.zeroCells (Value.int .i64 0).cells (n + 1 - i) ++ Builtin.zeroCells (Value.int .i64 0).cells (grownCap w (n + 1) c 2 - (n + 1))) 2)) := fun ty => by
  have h := Lib.run_append_grow_zeros w 25 3 ty 2 i0 _ .i64 .i64 Tryz.underlying25 Tryz.underlying3 hi0 hz0 (some ⟨b,off,none⟩) i c (cs.take i) hold (n + 1 - i) (by omega) (by omega) (by omega) (by omega) (by rw [hzb];omega) (by rw [hzb,hik];exact growslice_fits hroom hbig)
  rw [hik] at h
  rw [hkk]
  exact h
 obtain ⟨G,hG⟩ : ∃ G,G = grownCap w (n + 1) c 2 := ⟨_,rfl⟩
 obtain ⟨ROW,hROW⟩ : ∃ ROW : Array Value,ROW = (cs.take i).toArray ++ Builtin.zeroCells (Value.int .i64 0).cells (n + 1 - i) ++ Builtin.zeroCells (Value.int .i64 0).cells (G - (n + 1)) := ⟨_,rfl⟩
 rw [← hG] at hrz ⊢
 rw [← hROW] at hrz ⊢
 have hRl : n + 1 ≤ ROW.size := by
  rw [hROW]
  simp [Builtin.zeroCells,Value.cells]
  omega
 obtain ⟨W1,hW1⟩ : ∃ W1,W1 = w.drew.alloc (.cells ROW 2) := ⟨_,rfl⟩
 rw [← hW1] at hrz
 have hN : ∀ j,j < n + 1 → (W1.cell? ⟨w.heap.size,j,none⟩).isSome = true := fun j hj => by
  rw [hW1,World.cell?_alloc_at (w := w.drew) ROW _ w.heap.size j rfl,Array.getElem?_eq_getElem (by omega)];rfl
 have hNf : ∀ j,W1.frozen? ⟨w.heap.size,j,none⟩ = false := fun j => by rw [hW1];exact World.frozen?_alloc_at (w := w.drew) ROW _ w.heap.size j rfl
 have hOb : ∀ j v,w.cell? ⟨b,j,none⟩ = some v → W1.cell? ⟨b,j,none⟩ = some v := fun j v h => by rw [hW1,World.cell?_alloc_past (w := w.drew) _ b j hbw];exact h
 have hOv : ∀ j v,w.cell? ⟨vb,j,none⟩ = some v → W1.cell? ⟨vb,j,none⟩ = some v := fun j v h => by rw [hW1,World.cell?_alloc_past (w := w.drew) _ vb j hvw];exact h
 have hcpA : ∀ (W : World),(∀ x,W.cell? x = W1.cell? x) → (∀ x,W.frozen? x = W1.frozen? x) → ∀ dl ty dc,dl = n + 1 - i → (Builtin.copy_ #[25,25] ty #[.slice (some ⟨w.heap.size,i,none⟩) dl dc,.slice (some ⟨vb,0,none⟩) 1 1]).run Tryz.prog W = .ok (goInt [Value.int .i64 x].length) (W.setCells w.heap.size i [.int .i64 x]) := fun W hWc hWf dl ty dc e1 =>
  run_copy_cells W _ _ ty 2 w.heap.size i dl dc ⟨vb,0,none⟩ 1 1 [.int .i64 x] Tryz.underlying25 hsz (by simp only [Nat.min_def,List.length_cons,List.length_nil];split <;> omega)
   (fun j v hj => by
    rw [Addr.add_lit,hWc]
    match j,hj with
    | 0,hj => simp at hj;rw [← hj];exact hOv _ _ hvs)
   (fun j hj => by rw [hWc];exact hN _ (by simp at hj;omega)) (fun j hj => by rw [hWf];exact hNf _) (by intro v hv;simp at hv;rw [hv];rfl)
 have hGn : n + 1 ≤ G := by rw [hG];exact grownCap_ge w _ _ _
 have hG63 : G ≤ 9223372036854775807 := by
  have := grownCap_le_maxLen w (n + 1) c 2 (by unfold maxLen;omega)
  rw [← hG] at this
  unfold maxLen at this
  omega
 have hGi : ¬ (G = i) := by omega
 have hGim : ¬ (G = i + 1) := by omega
 have hci : ¬ (c = i) := by omega
 have hbN : b ≠ w.heap.size := by omega
 have hdl : (cs.drop i).length = n - i := by rw [List.length_drop,hcl]
 have hcpB : ∀ (W : World),(∀ y,W.cell? y = (W1.setCells w.heap.size i [.int .i64 x]).cell? y) → (∀ y,W.frozen? y = (W1.setCells w.heap.size i [.int .i64 x]).frozen? y) → ∀ dl sl ty dc sc,dl = n - i → sl = n - i → (Builtin.copy_ #[25,25] ty #[.slice (some ⟨w.heap.size,i + 1,none⟩) dl dc,.slice (some ⟨b,off + i,none⟩) sl sc]).run Tryz.prog W = .ok (goInt (cs.drop i).length) (W.setCells w.heap.size (i + 1) (cs.drop i)) := fun W hWc hWf dl sl ty dc sc e1 e2 =>
  run_copy_cells W _ _ ty 2 w.heap.size (i + 1) dl dc ⟨b,off + i,none⟩ sl sc (cs.drop i) Tryz.underlying25 hsz (by rw [hdl];simp only [Nat.min_def];split <;> omega)
   (fun j v hj => by
    rw [Addr.add_lit,hWc,World.cell?_setCells_out _ _ _ _ _ (fun h _ => absurd h hbN),Nat.add_assoc]
    exact hOb _ v (hcs (i + j) v (by rwa [List.getElem?_drop] at hj)))
   (fun j hj => by rw [hWc];exact some_set17 _ _ _ _ (fun t ht => hN _ (by simp at ht;omega)) _ (hN _ (by omega)))
   (fun j hj => by rw [hWf,World.frozen?_setCells];exact hNf _) (fun v hv => h1c v (List.mem_of_mem_drop hv))
 subst hW1
 have hE1 : ∀ x,((w.alloc (.cells ROW 2)).drew).cell? x = (w.drew.alloc (.cells ROW 2)).cell? x := fun x => rfl
 have hE2 : ∀ x,((w.alloc (.cells ROW 2)).drew).frozen? x = (w.drew.alloc (.cells ROW 2)).frozen? x := fun x => rfl
 have hF1 : ∀ y,(((w.alloc (.cells ROW 2)).drew.setCells w.heap.size i [.int .i64 x]).drew).cell? y = ((w.drew.alloc (.cells ROW 2)).setCells w.heap.size i [.int .i64 x]).cell? y := fun y => rfl
 have hF2 : ∀ y,(((w.alloc (.cells ROW 2)).drew.setCells w.heap.size i [.int .i64 x]).drew).frozen? y = ((w.drew.alloc (.cells ROW 2)).setCells w.heap.size i [.int .i64 x]).frozen? y := fun y => rfl
 have hw1 : IntKind.i64.wrap ((i : Int) + 1) = (i : Int) + 1 := by rw [IntKind.wrap_i64];omega
 have hb1 : (0 : Int) ≤ (i : Int) + 1 := by omega
 have hin : i ≤ n := by omega
 have htn : ((i : Int) + 1).toNat = i + 1 := by omega
 have hb3 : (i : Int) ≤ (n : Int) := by omega
 clear hkk hik hold hROW hG hRl hcs hvs h1c hN hNf hOb hOv hsz hi0 hz0 hzs hzb
 go_enter Tryz.func175,Tryz.ntmps175
 go_wp2_with (first
  | (at_builtin;refine Lib.wpList_append_run _ rfl _ _ _ _ rfl _ _ rfl rfl _ _ (hrz _) ?_)
  | (at_builtin;refine wpList_copy17 _ rfl _ _ 25 25 rfl _ _ rfl rfl (hcpA _ hE1 hE2 _ _ _ (by omega)) ?_))
 go_region_law_o (refine step_copy17 rfl _ _ 25 25 rfl (.slice (some ⟨w.heap.size,i + 1,none⟩) (n - i) (G - (i + 1))) (.slice (some ⟨b,off + i,none⟩) (n - i) (c - i)) (by simp [Act.eval,Act.put]) (by simp [Act.eval,Act.put]) (hcpB _ hF1 hF2 (n - i) (n - i) 3 (G - (i + 1)) (c - i) rfl rfl) ?_)
 go_wp2
 go_ret
 exact ⟨rfl,rfl⟩
end Go.Proofs.YthioodpmgifomaaGreat
namespace Go.Proofs.YthioodpmgifomaaGreat
set_option linter.unusedVariables false
set_option linter.unusedSimpArgs false
open Go.RowKit Go.Sort
theorem shape_of {w : World} {b j : Nat} {v : Value} (h : w.cell? ⟨b,j,none⟩ = some v) : ∃ t k,w.shape? b = some (t,k) ∧ k ≠ 0 := by
 unfold World.cell? at h
 unfold World.shape?
 split at h
 ·rename_i c t fz hb
  refine ⟨t,c.size,by rw [hb],fun e => ?_⟩
  simp only [Option.isSome_none,Bool.false_eq_true,if_false] at h
  rw [Array.getElem?_eq_none (by omega)] at h
  cases h
 ·cases h
theorem map_ins (T : List Int) (k : Nat) (x : Int) : (T.take k ++ x :: T.drop k).map (Value.int .i64) = (T.map (Value.int .i64)).take k ++ .int .i64 x :: (T.map (Value.int .i64)).drop k := by simp [List.map_take,List.map_drop]
theorem len_ins (T : List Int) (k : Nat) (x : Int) (hk : k ≤ T.length) : (T.take k ++ x :: T.drop k).length = T.length + 1 := by simp;omega
theorem drew_set17 (b : Nat) : ∀ (vs : List Value) (o : Nat) (w : World),(w.setCells b o vs).drew = w.drew.setCells b o vs
 | [],_,_ => rfl
 | v :: r,o,w => by rw [World.setCells,World.setCells,drew_set17 b r];rfl
def InsR (w : World) (f : Fp) (n : Nat) (Tx : List Int) (e : Ending) (w' : World) : Prop := ∃ a' c' f',e = .returned (.slice a' (n + 1) c') ∧ Cel.ow w' (icl Tx) (.slice a' (n + 1) c') f' ∧ (∀ b,f' b → f b ∨ w.heap.size ≤ b) ∧ Wrt f w w'
set_option maxHeartbeats 1600000 in
set_option maxRecDepth 100000 in
theorem ins_any (a : Option Addr) (c k : Nat) (T : List Int) (x : Int) (f : Fp) (w : World) (h : Cel.ow w (icl T) (.slice a T.length c) f) (hk : k ≤ T.length) (hm : T.length ≤ 100) :
  Calls Tryz.prog 175 #[.slice a T.length c,.int .i64 (k : Int),.slice (some ⟨w.heap.size,0,none⟩) 1 1] (w.alloc (.cells #[.int .i64 x] 2)) fun e w' => InsR w f T.length (T.take k ++ x :: T.drop k) e w' := by
 have h' := h
 obtain ⟨a1,c1,G,e,ho,hf⟩ := ow_icl.1 h'
 cases e
 have hba := oneA16 w (.cells #[.int .i64 x] 2)
 have hxv := Bx.new w 2 #[.int .i64 x]
 by_cases hkl : k = T.length
 ·obtain ⟨a2,c2,e2,hA⟩ := ow_int_app x h (Nat.le_trans hm (by decide))
  cases e2
  have hle := ho.le
  have hT : T.take k ++ x :: T.drop k = T ++ [x] := by rw [hkl,List.take_length,List.drop_length]
  rw [hT]
  subst hkl
  have hpl := ho.plain
  have hcm : c ≤ 9223372036854775807 := by have := hle.2;unfold maxLen at this;omega
  clear h h' ho hf hxv hba hT
  generalize T ++ [x] = Tx at *
  generalize T.length = n at *
  generalize hWv : w.alloc (.cells #[.int .i64 x] 2) = Wv at *
  cases a with
  | none =>
   go_enter Tryz.func175,Tryz.ntmps175
   go_wp2_with (at_builtin;refine wpList_append_of (by rfl) _ _ _ _ (by rfl) _ _ (by rfl) (by rfl) hA ⟨rfl,rfl,rfl,rfl⟩ ?_;rintro v1 w1 ⟨a1,e1,f1,rfl,q1,q2,q3⟩;have HQ : Hid (Cel.ow w1 (icl Tx) (.slice a1 (n + 1) e1) f1 ∧ (∀ b,f1 b → f b ∨ w.heap.size ≤ b) ∧ Wrt f w w1) := ⟨q1,q2,q3⟩;clear q1 q2 q3 hA)
   go_ret
   exact ⟨a1,e1,f1,rfl,HQ.out⟩
  | some ad =>
   go_enter Tryz.func175,Tryz.ntmps175
   go_wp2_with (at_builtin;refine wpList_append_of (by rfl) _ _ _ _ (by rfl) _ _ (by rfl) (by rfl) hA ⟨rfl,rfl,rfl,rfl⟩ ?_;rintro v1 w1 ⟨a1,e1,f1,rfl,q1,q2,q3⟩;have HQ : Hid (Cel.ow w1 (icl Tx) (.slice a1 (n + 1) e1) f1 ∧ (∀ b,f1 b → f b ∨ w.heap.size ≤ b) ∧ Wrt f w w1) := ⟨q1,q2,q3⟩;clear q1 q2 q3 hA)
   all_goals (go_ret;exact ⟨a1,e1,f1,rfl,HQ.out⟩)
 have hklt : k < T.length := by omega
 rcases ho with ⟨h0,_⟩ | ⟨g,off,rfl,ho,rfl⟩
 ·omega
 have hcl : (T.map (Value.int .i64)).length = T.length := List.length_map _
 have hgl := ho.blk
 have e1 : (w.alloc (.cells #[.int .i64 x] 2)).heap[g]? = w.heap[g]? := hba.block g hgl
 have ho1 : OSl (w.alloc (.cells #[.int .i64 x] 2)) 1 g off T.length c (T.map (Value.int .i64)) := ho.of_block e1 (Nat.lt_of_lt_of_le hgl hba.size)
 have hcs : ∀ j v,(T.map (Value.int .i64))[j]? = some v → (w.alloc (.cells #[.int .i64 x] 2)).cell? ⟨g,off + j,none⟩ = some v := fun j v hj => by
  have hjl : j < T.length := by
   rcases Nat.lt_or_ge j T.length with h | h
   ·exact h
   ·rw [List.getElem?_eq_none (by omega)] at hj;cases hj
  rw [ho1.cell j (by omega)];exact hj
 have h1c : ∀ v ∈ T.map (Value.int .i64),v.oneCell' = true := fun v hv => by
  obtain ⟨y,_,rfl⟩ := List.mem_map.1 hv
  rfl
 have hvs := hxv.at 0 (v := .int .i64 x) rfl
 have hle := ho.le
 have hmx := ho.max
 have hne : w.heap.size ≠ g := by omega
 have hfg : ∀ b,f b ↔ b = g := fun b => (hf b).trans ⟨fun h => by cases h;rfl,fun h => by rw [h]⟩
 have hli := len_ins T k x hk
 by_cases hroom : T.length + 1 ≤ c
 ·obtain ⟨tB,kB,hsb,hkB⟩ := shape_of (hcs 0 _ (List.getElem?_eq_getElem (by omega)))
  have hsa : (w.alloc (.cells #[.int .i64 x] 2)).shape? w.heap.size = some (2,1) := by unfold World.shape?;rw [show (w.alloc (.cells #[.int .i64 x] 2)).heap[w.heap.size]? = _ from hxv];rfl
  refine (insS_any g off T.length c k w.heap.size (T.map (Value.int .i64)) x _ hklt hroom (by unfold maxLen at hmx;omega) hne hcl hcs (fun j hj => ho1.some j (by omega)) (fun j hj => ho1.free j (by omega)) hvs h1c 2 tB 1 kB hsa hsb hkB (hxv.f 0) (hxv.f 1)).mono ?_
  rintro e w' ⟨rfl,rfl⟩
  obtain ⟨k1,k2⟩ := ins_down (w.alloc (.cells #[.int .i64 x] 2)).drew g off k c (T.map (Value.int .i64)) (.int .i64 x) (by omega) (fun j hj => ho1.cell j (by omega)) (fun j hj => ho1.some j (by omega)) (by omega)
  have hW : Wrt (fun b => b = g) (w.alloc (.cells #[.int .i64 x] 2)).drew (((w.alloc (.cells #[.int .i64 x] 2)).drew.setCells g (off + (k + 1)) ((T.map (Value.int .i64)).drop k)).setCells g (off + k) [.int .i64 x]) := (Wrt.setCells g _ _ _).trans (Wrt.setCells g _ _ _) (fun _ _ h => h)
  have hbd : Below w.heap.size w (w.alloc (.cells #[.int .i64 x] 2)).drew := hba.trans ((Same.drewN _ 1).below.mono hba.size)
  refine ⟨some ⟨g,off,none⟩,c,f,rfl, ?_,fun b hb => .inl hb,((Wrt.of_below hbd).trans hW (fun b _ hb => (hfg b).2 hb))⟩
  rw [← hli]
  refine ow_icl.2 ⟨some ⟨g,off,none⟩,c,some g,rfl,.inr ⟨g,off,rfl, ?_,rfl⟩,hf⟩
  rw [hli]
  refine ⟨by rw [List.length_map,hli];omega,hroom,hmx,Nat.lt_of_lt_of_le (Nat.lt_of_lt_of_le hgl hbd.size) hW.size,fun j hj => ?_,fun j hj => k2 j (by omega),fun j hj => ?_⟩
  ·rw [map_ins];exact k1 j (by omega)
  ·rw [frz_setCells,frz_setCells];exact ho1.free j (by omega)
 ·refine (insG_any g off T.length c k w.heap.size (T.map (Value.int .i64)) x _ hklt hle (by omega) (by omega) hcl hcs hvs h1c).mono ?_
  rintro e w' ⟨rfl,rfl⟩
  have hGn : T.length + 1 ≤ grownCap (w.alloc (.cells #[.int .i64 x] 2)) (T.length + 1) c 2 := grownCap_ge _ _ _ _
  have hGm : grownCap (w.alloc (.cells #[.int .i64 x] 2)) (T.length + 1) c 2 ≤ maxLen := grownCap_le_maxLen _ _ _ _ (by unfold maxLen;omega)
  generalize grownCap (w.alloc (.cells #[.int .i64 x] 2)) (T.length + 1) c 2 = GG at *
  generalize hWv : w.alloc (.cells #[.int .i64 x] 2) = Wv at *
  generalize hROW : ((T.map (Value.int .i64)).take k).toArray ++ Builtin.zeroCells (Value.int .i64 0).cells (T.length + 1 - k) ++ Builtin.zeroCells (Value.int .i64 0).cells (GG - (T.length + 1)) = ROW at *
  have hRs : ROW.size = GG := by
   rw [← hROW]
   simp [Builtin.zeroCells,Value.cells]
   omega
  have hR0 : ∀ j,j < k → ROW[j]? = (T.map (Value.int .i64))[j]? := fun j hj => by
   rw [← hROW,Array.getElem?_append_left (by simp [Builtin.zeroCells,Value.cells];omega),Array.getElem?_append_left (by simp;omega)]
   simp [List.getElem?_take,hj]
  have hxN : Bx (Wv.alloc (.cells ROW 2)).drew Wv.heap.size 2 ROW := Bx.new Wv 2 ROW
  obtain ⟨k1,k2⟩ := ins_up (Wv.alloc (.cells ROW 2)).drew Wv.heap.size 0 k GG (T.map (Value.int .i64)) (.int .i64 x) (by omega) (fun j hj => by rw [Nat.zero_add,hxN.cell j];exact hR0 j hj) (fun j hj => by rw [Nat.zero_add,hxN.cell j,Array.getElem?_eq_getElem (by omega)];rfl) (by omega)
  simp only [Nat.zero_add] at k1 k2
  have hW : Wrt (fun b => b = Wv.heap.size) (Wv.alloc (.cells ROW 2)).drew ((((Wv.alloc (.cells ROW 2)).drew.setCells Wv.heap.size k [.int .i64 x]).drew).setCells Wv.heap.size (k + 1) ((T.map (Value.int .i64)).drop k)) := ((Wrt.setCells _ _ _ _).trans (Wrt.of_below (Same.drewN _ 1).below) (fun _ _ h => h)).trans (Wrt.setCells _ _ _ _) (fun _ _ h => h)
  have hb2 : Below Wv.heap.size Wv (Wv.alloc (.cells ROW 2)).drew := (oneA16 Wv _).trans ((Same.drewN _ 1).below.mono (oneA16 Wv _).size)
  have hbd : Below w.heap.size w (Wv.alloc (.cells ROW 2)).drew := hba.trans (hb2.mono hba.size)
  have hB9 := hW.below hbd hbd.size (fun b hb => by rw [hb];exact hba.size)
  refine ⟨some ⟨Wv.heap.size,0,none⟩,GG,fun b => b = Wv.heap.size,rfl, ?_,fun b hb => .inr (by rw [hb];exact hba.size),Wrt.of_below hB9⟩
  rw [← hli]
  refine ow_icl.2 ⟨some ⟨Wv.heap.size,0,none⟩,GG,some Wv.heap.size,rfl,.inr ⟨Wv.heap.size,0,rfl, ?_,rfl⟩,fun b => ⟨fun h => by rw [h],fun h => by cases h;rfl⟩⟩
  rw [hli]
  refine ⟨by rw [List.length_map,hli];omega,hGn,hGm,Nat.lt_of_lt_of_le hxN.lt hW.size,fun j hj => ?_,fun j hj => ?_,fun j hj => ?_⟩
  ·rw [map_ins,Nat.zero_add,← drew_set17];exact k1 j (by omega)
  ·rw [Nat.zero_add,← drew_set17];exact k2 j (by omega)
  ·rw [frz_setCells]
   show (((Wv.alloc (.cells ROW 2)).drew.setCells Wv.heap.size k [.int .i64 x]).frozen? _) = false
   rw [frz_setCells]
   exact hxN.f _
end Go.Proofs.YthioodpmgifomaaGreat
namespace Go.Proofs.YthioodpmgifomaaGreat
set_option linter.unusedVariables false
set_option linter.unusedSimpArgs false
open Go.RowKit Go.Sort
theorem putL_self : ∀ {l : List Int} {x : Int},l.Pairwise (· < ·) → x ∈ l → putL l x = l
 | y :: l,x,h,hx => by
  obtain ⟨h1,h2⟩ := List.pairwise_cons.1 h
  rw [putL]
  rcases List.mem_cons.1 hx with e | hx
  ·rw [if_neg (by omega),if_pos e.symm]
  ·rw [if_pos (h1 x hx),putL_self h2 hx]
def wdR (i : Nat) (r : Rw) (S : List Int) (k : Nat) : Rw := { r with wed := true,sus := learnS i r.sus (S.take k) }
theorem wdR_sus {i nn : Nat} {r : Rw} {S : List Int} (hr : OkR r nn) (hS : ∀ x ∈ S,0 ≤ x ∧ x < (nn : Int)) (k : Nat) : (wdR i r S k).sus.Pairwise (· < ·) ∧ (∀ x ∈ (wdR i r S k).sus,0 ≤ x ∧ x < (nn : Int)) ∧ (wdR i r S k).sus.length ≤ 5 := by
 have h1 : (wdR i r S k).sus.Pairwise (· < ·) := learnS_ris (ris_iff.1 hr.ris)
 have h2 : ∀ x ∈ (wdR i r S k).sus,0 ≤ x ∧ x < (nn : Int) := fun x hx => by
  rcases mem_learnS.1 hx with h | ⟨h,_⟩
  ·exact hr.sus x h
  ·exact hS x (List.mem_of_mem_take h)
 have h5 := hr.n5
 exact ⟨h1,h2,Nat.le_trans (ris_short (k := nn) h1 h2) h5.2⟩
theorem vec_block {X Y : World} {a : Option Addr} {S : List Int} (h : Vec X a S.length S) (hb : ∀ b o,a = some ⟨b,o,none⟩ → S ≠ [] → Y.heap[b]? = X.heap[b]?) : Vec Y a S.length S := by
 obtain ⟨h1,h2,h3⟩ := h
 refine ⟨h1,h2, ?_⟩
 rcases h3 with h3 | ⟨b,o,e,h3⟩
 ·exact .inl h3
 ·by_cases hn : S = []
  ·exact .inl (by rw [hn];rfl)
  ·exact .inr ⟨b,o,e,fun j hj => (World.cell?_of_block (hb b o e hn)).trans (h3 j hj)⟩
set_option maxRecDepth 100000 in
set_option maxHeartbeats 1600000 in
theorem wdg_any (B i n g off c nn : Nat) (r : Rw) (f : Fp) (S : List Int) (a : Option Addr) (sc : Nat) (X : World) (h : Plc X g (off + i * 8) (rw8 r) f) (hBg : B ≠ g) (hfB : ¬ f B) (c0 : X.cell? ⟨B,0,none⟩ = some (.int .i64 (i : Int))) (c1 : X.cell? ⟨B,1,none⟩ = some (.slice (some ⟨g,off,none⟩) n c)) (hi : i < n)
  (hv : Vec X a S.length S) (hvb : ∀ b o,a = some ⟨b,o,none⟩ → S ≠ [] → ¬ f b ∧ b ≠ g) (hr : OkR r nn) (hS : ∀ x ∈ S,0 ≤ x ∧ x < (nn : Int)) (hSl : S.length ≤ 100) :
  Calls Tryz.prog 121 #[.pointer (some ⟨B,0,none⟩),.slice a S.length sc] X fun e w' => e = .returned (.tuple #[]) ∧ Bcm X w' g (off + i * 8) (rw8 (wdR i r S S.length)) f := by
 have hOw := own_any B i n g off c X c0 c1 hi
 have HP : Hid (Plc X g (off + i * 8) (rw8 r) f) := h
 have HV : Hid (Vec X a S.length S) := hv
 have HVB : Hid (∀ b o,a = some ⟨b,o,none⟩ → S ≠ [] → ¬ f b ∧ b ≠ g) := hvb
 have HC0 : Hid (X.cell? ⟨B,0,none⟩ = some (.int .i64 (i : Int))) := c0
 have HW : Hid (∀ k,(wdR i r S k).sus.Pairwise (· < ·) ∧ (∀ x ∈ (wdR i r S k).sus,0 ≤ x ∧ x < (nn : Int)) ∧ (wdR i r S k).sus.length ≤ 5) := fun k => wdR_sus hr hS k
 have H5 : Hid (1 ≤ nn ∧ nn ≤ 5) := hr.n5
 have HSx : Hid (∀ x ∈ S,0 ≤ x ∧ x < (nn : Int)) := hS
 have hBlt := World.block_lt_of_cell? _ _ c0
 clear h hv hvb c0 c1 hr hS
 go_enter Tryz.func121,Tryz.ntmps121
 go_wp2_with fail
 refine hOw.mono ?_
 rintro e XA ⟨rfl,hbA⟩
 obtain ⟨u4,f4,hu4,hz4,⟨rfl,hf4⟩,hs4,hn4,hset4⟩ := (HP.out.below hbA).at (j := 4) rfl
 obtain ⟨_,_,B4,_⟩ := hset4 XA (.v (.bool true)) (.bool true) (fun _ => False) (Wrt.refl _ _) ⟨rfl,fun _ h => h⟩ (fun b hb => hb.elim)
 have HB4 : Hid (Bcm X (XA.setCell ⟨g,off + i * 8 + 4,none⟩ (.bool true)) g (off + i * 8) (rw8 (wdR i r S 0)) f) := B4.first hbA HP.out.lt HP.out.flt
 clear hset4 B4 hs4 hn4 hf4 hOw
 go_upto_region 3 with fail
 generalize XA.setCell ⟨g,off + i * 8 + 4,none⟩ (.bool true) = W4 at *
 clear hu4 hz4 hbA
 go_loopw [16] (fun v wr => ∃ k : Nat,k ≤ S.length ∧ v = .int .i64 (k : Int) ∧ Bcm X wr g (off + i * 8) (rw8 (wdR i r S k)) f) (fun v _ => S.length - (intOf v).toNat)
 case atStart => exact ⟨0,Nat.zero_le _,rfl,HB4.out⟩
 case round =>
  obtain ⟨k,hk,rfl,hB⟩ := hrel
  have HB : Hid (Bcm X wr g (off + i * 8) (rw8 (wdR i r S k)) f) := hB
  clear HB4
  by_cases hlt : k < S.length
  ·have hne : S ≠ [] := fun e => by rw [e] at hlt;simp at hlt
   have hvw := vec_block HV.out (fun b o e hn => hB.wrt.block b (by
    rcases HV.out.2.2 with h | ⟨b',o',e',h⟩
    ·omega
    ·rw [e'] at e;cases e;exact World.block_lt_of_cell? _ _ (h k hlt)) (fun kk => by have := HVB.out b o e hn;rcases kk with kk | kk;exact this.1 kk;exact this.2 kk))
   rcases hvw.2.2 with h0 | ⟨sb,so,rfl,hsc⟩
   ·omega
   have hck := hsc k hlt
   have b0 : wr.cell? ⟨B,0,none⟩ = some (.int .i64 (i : Int)) := (World.cell?_of_block (hB.wrt.block B hBlt (fun kk => by rcases kk with kk | kk;exact hfB kk;exact hBg kk))).trans HC0.out
   obtain ⟨fp1,hp1,hf1,hgo⟩ := hB.next
   obtain ⟨u,f3,hu,hz,how,hsub,hn3,hset⟩ := hp1.at (j := 3) rfl
   have how' : Cel.ow wr (icl (wdR i r S k).sus) u f3 := how
   obtain ⟨sa,sac,_,rfl,_⟩ := ow_icl.1 how'
   obtain ⟨w1,w2,w3⟩ := HW.out k
   have h5 := H5.out
   have hfit : Fits (wdR i r S k).sus := fun x hx => by have := w2 x hx;omega
   have hBs := bs_any sa sac (wdR i r S k).sus (el S k) wr (vec_of_ow how' hfit) (by omega) w1
   have hT := learnS_take (id := i) (s := r.sus) hlt
   have k0 : (0 : Int) ≤ (k : Int) := by omega
   have k1 : (k : Int) < (S.length : Int) := by omega
   have HN1 : Hid (el S k = (i : Int) → wdR i r S (k + 1) = wdR i r S k) := fun e => by rw [wdR,hT,if_pos e];rfl
   have HN2 : Hid (el S k ≠ (i : Int) → el S k ∈ (wdR i r S k).sus → wdR i r S (k + 1) = wdR i r S k) := fun e hm => by
    rw [wdR,hT,if_neg e,show putL (learnS i r.sus (S.take k)) (el S k) = learnS i r.sus (S.take k) from putL_self w1 hm]
    rfl
   have HN3 : Hid (el S k ≠ (i : Int) → wdR i r S (k + 1) = { wdR i r S k with sus := putL (wdR i r S k).sus (el S k) }) := fun e => by rw [wdR,hT,if_neg e];rfl
   have hx0 : 0 ≤ el S k ∧ el S k < 5 := by have := HSx.out _ (el_mem hlt);omega
   have HSet : Hid (∀ (w1 : World) (c' : Cel) (u' : Value) (f' : Fp),Wrt f3 wr w1 → Cel.ow w1 c' u' f' → (∀ b,f' b → f3 b ∨ wr.heap.size ≤ b) → w1.cell? ⟨g,off + i * 8 + 3,none⟩ = some (.slice sa (wdR i r S k).sus.length sac) ∧ w1.frozen? ⟨g,off + i * 8 + 3,none⟩ = false ∧ Bcm X (w1.setCell ⟨g,off + i * 8 + 3,none⟩ u') g (off + i * 8) ((rw8 (wdR i r S k)).set 3 c') f) := fun w1 c' u' f' q1 q2 q3 => by
    obtain ⟨p1,p2,p3,_⟩ := hset w1 c' u' f' q1 q2 q3
    exact ⟨p1,p2,hgo _ _ (by simp) p3⟩
   have HOw : Hid (Cel.ow wr (icl (wdR i r S k).sus) (.slice sa (wdR i r S k).sus.length sac) f3) := how'
   clear hvw hsc hB hp1 hf1 hgo hset how how' hsub hn3 hfit hT w1 w2
   generalize hwd : wdR i r S k = rk at *
   generalize el S k = x at *
   by_cases hin : x ∈ rk.sus
   ·have HE : Hid (wdR i r S (k + 1) = rk) := by
     by_cases e : x = (i : Int)
     ·exact HN1.out e
     ·exact HN2.out e hin
    rw [decide_eq_true hin] at hBs
    clear hin
    go_wp2_with (go_at_call 174;refine hBs.mono ?_;rintro e w' ⟨kk,hkk,rfl,hw',_⟩;rw [hw'];clear hw')
    go_roundw
    case rel => exact ⟨k + 1,by omega,by go_num,by rw [HE.out];exact HB.out⟩
    case measure => simp [intOf];omega
   rw [decide_eq_false hin] at hBs
   by_cases e : x = (i : Int)
   ·have HE : Hid (wdR i r S (k + 1) = rk) := HN1.out e
    have e' : (x != (i : Int)) = false := by simp [e]
    clear hin e
    go_wp2_with (go_at_call 174;refine hBs.mono ?_;rintro e w' ⟨kk,hkk,rfl,hw',_⟩;rw [hw'];clear hw')
    go_roundw
    case rel => exact ⟨k + 1,by omega,by go_num,by rw [HE.out];exact HB.out⟩
    case measure => simp [intOf];omega
   have HE : Hid (wdR i r S (k + 1) = { rk with sus := putL rk.sus x }) := HN3.out e
   have e' : (x != (i : Int)) = true := by simp [e]
   have HIn : Hid (x ∉ rk.sus) := hin
   have HM : Hid (rk.sus.length ≤ 100) := by rw [Hid];omega
   clear hin e
   go_upto_region 7 with (go_at_call 174;refine hBs.mono ?_;rintro e w' ⟨kk,hkk,rfl,hw',hput⟩;rw [hw'];clear hw')
   have hpt := hput HIn.out
   have hIn := ins_any sa sac kk rk.sus x f3 wr HOw.out hkk HM.out
   rw [hpt] at hIn
   clear hput hpt hBs
   go_wp2_with (go_at_call 175;refine hIn.mono ?_;rintro e w9 ⟨a9,c9,f9,rfl,o9,p9,q9⟩;obtain ⟨z1,z2,hB9⟩ := HSet.out w9 (icl (putL rk.sus x)) (.slice a9 (rk.sus.length + 1) c9) f9 q9 o9 p9;have HB9 : Hid (Bcm X (w9.setCell ⟨g,off + i * 8 + 3,none⟩ (.slice a9 (rk.sus.length + 1) c9)) g (off + i * 8) ((rw8 rk).set 3 (icl (putL rk.sus x))) f) := hB9;clear o9 p9 q9 hB9 hIn hu hz)
   go_roundw
   case rel => exact ⟨k + 1,by omega,by go_num,by rw [HE.out];exact HB9.out⟩
   case measure => simp [intOf];omega
  ·have k1 : ¬ ((k : Int) < (S.length : Int)) := by omega
   obtain rfl : k = S.length := by omega
   clear hB
   go_wp2
   first | go_end0 | go_ret
   exact ⟨rfl,HB.out⟩
end Go.Proofs.YthioodpmgifomaaGreat
namespace Go.Proofs.YthioodpmgifomaaGreat
set_option linter.unusedVariables false
set_option linter.unusedSimpArgs false
open Go.RowKit Go.Sort
theorem Iw.own {w X : World} {B : Nat} {m : Mb} {fp : Fp} {g off c : Nat} (h : Iw w X B m fp g off c) {i : Nat} (hi : i < m.rows.length) : ∃ f,Plc X g (off + i * 8) (rw8 (rowN m.rows i)) f ∧ B ≠ g ∧ ¬ f B ∧ (∀ b,f b → b < X.heap.size) ∧ g < X.heap.size ∧ ∀ (X1 Y : World) (r : Rw),Below X.heap.size X X1 → Bcm X1 Y g (off + i * 8) (rw8 r) f → Iw w Y B { m with rows := m.rows.set i r } fp g off c := by
 obtain ⟨fp1,hp,hf1,hgo⟩ := h.bcm.next
 obtain ⟨g',off',c',f,h1,hgB,hfg,hfs,hpl,hput⟩ := hp.el (F := rw8) rw8_len (by omega) (j := 1) (L := m.rows) rfl (rowN_at hi)
 have e := Option.some.inj (h1.symm.trans h.rws)
 cases e
 have hfB : ¬ f B := fun hb => hp.nB (hfs B hb)
 refine ⟨f,hpl,fun e => hgB e.symm,hfB,hpl.flt,hpl.lt,fun X1 Y r hb hB => ?_⟩
 have hB1 := hB.first hb hpl.lt hpl.flt
 refine ⟨hgo Y _ rfl (hput Y r hB1), ?_⟩
 rw [World.cell?_of_block (hB1.wrt.block B hp.lt (fun kk => by rcases kk with kk | kk;exact hfB kk;exact hgB kk.symm)),h.rws]
 simp
theorem oth_doubt {m : Mb} {i n : Nat} (ok : OkM m i n) (who : Int) (hd : m.done = false) : (othB i n (rowN m.rows i).sus who = false → (doubtMb m who).2 = false) ∧ (othB i n (rowN m.rows i).sus who = true → (rowN m.rows i).ver = 1000000 → (doubtMb m who).2 = false) ∧ (othB i n (rowN m.rows i).sus who = true → (rowN m.rows i).ver ≠ 1000000 → doubtMb m who = ({ m with rows := m.rows.set i { wdR i (rowN m.rows i) [who] 1 with ver := (rowN m.rows i).ver + 1 } },true)) := by
 have e : m.i = i := by unfold Mb.i;rw [ok.hid];rfl
 have key : othB i n (rowN m.rows i).sus who = true ↔ ¬ (inB who 0 (m.n - 1) = false ∨ who = m.id ∨ who ∈ (rowN m.rows i).sus) := by
  unfold othB
  rw [ok.hn,ok.hid]
  simp only [Bool.and_eq_true,decide_eq_true_eq,not_or,Bool.not_eq_false]
  exact ⟨fun h => ⟨h.2.1,h.1,h.2.2⟩,fun h => ⟨h.2.1,h.1,h.2.2⟩⟩
 unfold doubtMb
 rw [Mb.own,e]
 refine ⟨fun h => ?_,fun h hv => ?_,fun h hv => ?_⟩
 ·rw [if_pos]
  have : ¬ ¬ (inB who 0 (m.n - 1) = false ∨ who = m.id ∨ who ∈ (rowN m.rows i).sus) := fun hn => by rw [key.2 hn] at h;cases h
  rcases Classical.not_not.1 this with h | h | h
  ·exact .inl h
  ·exact .inr (.inl h)
  ·exact .inr (.inr (.inl h))
 ·rw [if_pos (.inr (.inr (.inr (.inr hv))))]
 ·have hk := key.1 h
  simp only [not_or] at hk
  rw [if_neg (by rintro (h | h | h | h | h);exact hk.1 h;exact hk.2.1 h;exact hk.2.2 h;rw [hd] at h;cases h;exact hv h)]
  have hw : learnS i (rowN m.rows i).sus ([who].take 1) = putL (rowN m.rows i).sus who := by
   show (if who = (i : Int) then _ else putL (rowN m.rows i).sus who) = _
   rw [if_neg (by rw [← ok.hid];exact hk.2.1)]
  rw [wdR,hw,Mb.put,e]
set_option maxRecDepth 100000 in
set_option maxHeartbeats 1600000 in
theorem dbt_any (B : Nat) (m : Mb) (i n : Nat) (who : Int) (fp : Fp) (w : World) (h : Plc w B 0 (mb4 m) fp) (ok : OkM m i n) (hd : m.done = false) :
  Calls Tryz.prog 62 #[.pointer (some ⟨B,0,none⟩),.int .i64 who] w fun e w' => ((doubtMb m who).2 = true ∧ e = .returned (.tuple #[]) ∧ Bcm w w' B 0 (mb4 (doubtMb m who).1) fp) ∨ ((doubtMb m who).2 = false ∧ Gu e ∧ ∃ m1,Bcm w w' B 0 (mb4 m1) fp) := by
 have hil : i < m.rows.length := by rw [ok.len];exact ok.lt
 have hn5 := ok.n5
 obtain ⟨g,off,c,M0⟩ := Iw.start h (by omega)
 obtain ⟨c0,c3⟩ := M0.id'
 have c1 := M0.rws
 rw [ok.hid] at c0
 obtain ⟨Ak,⟨⟨d0,d1,d2,d3⟩,d4,d5,d6,d7⟩,hrs⟩ := M0.row ok.fit hil
 have hO := oth_any B i n g off c Ak.sa Ak.sc (rowN m.rows i).sus who w c0 (by rw [← ok.len];exact c1) ok.lt hn5.2 d3 hrs.sus hrs.ms
 have HM0 : Hid (Iw w w B m fp g off c) := M0
 obtain ⟨p1,p2,p3⟩ := oth_doubt ok who hd
 have HD : Hid ((othB i n (rowN m.rows i).sus who = false → (doubtMb m who).2 = false) ∧ (othB i n (rowN m.rows i).sus who = true → (rowN m.rows i).ver = 1000000 → (doubtMb m who).2 = false) ∧ (othB i n (rowN m.rows i).sus who = true → (rowN m.rows i).ver ≠ 1000000 → doubtMb m who = ({ m with rows := m.rows.set i { wdR i (rowN m.rows i) [who] 1 with ver := (rowN m.rows i).ver + 1 } },true))) := ⟨p1,p2,p3⟩
 clear M0 h c0 c1 c3 d0 d1 d2 d3 d4 d5 d6 d7 hrs p1 p2 p3
 cases e1 : othB i n (rowN m.rows i).sus who with
 | false =>
  have HZ : Hid ((doubtMb m who).2 = false) := HD.out.1 e1
  rw [e1] at hO
  go_enter Tryz.func62,Tryz.ntmps62
  go_wp2_with (first | (go_at_call 120;refine hO.mono ?_;rintro e wA ⟨rfl,hbA⟩;have HG : Hid (∃ m1,Bcm w wA B 0 (mb4 m1) fp) := ⟨m,(HM0.out.step hbA).bcm⟩;clear hbA) | (go_at_call 115;refine (wantF _).mono ?_;rintro e w' ⟨⟨T,v,rfl⟩,hw'⟩;rw [hw'];clear hw'))
  exact ⟨rfl,.inr ⟨HZ.out,⟨_,_,rfl⟩,HG.out⟩⟩
 | true =>
 have HE1 : Hid (othB i n (rowN m.rows i).sus who = true) := e1
 have hwho : 0 ≤ who ∧ who < (n : Int) := by
  unfold othB at e1
  simp only [Bool.and_eq_true] at e1
  have := inB7.1 e1.2.1
  omega
 rw [e1] at hO
 clear e1
 go_enter Tryz.func62,Tryz.ntmps62
 go_upto_region 1 with (first | (go_at_call 120;refine hO.mono ?_;rintro e wA ⟨rfl,hbA⟩;have HM1 : Hid (Iw w wA B m fp g off c) := HM0.out.step hbA;clear hbA) | (go_at_call 115;refine (wantT _).mono ?_;rintro e w' ⟨rfl,hw'⟩;rw [hw'];clear hw'))
 obtain ⟨f,hpl,hBg,hfB,hfl,hgl,hput⟩ := HM1.out.own hil
 have hba := oneA16 wA (.cells #[.int .i64 who] 2)
 have hxv := Bx.new wA 2 #[.int .i64 who]
 obtain ⟨c0,_⟩ := (HM1.out.step hba).id'
 have c1 := (HM1.out.step hba).rws
 rw [ok.hid] at c0
 have hV : Vec (wA.alloc (.cells #[.int .i64 who] 2)) (some ⟨wA.heap.size,0,none⟩) [who].length [who] := ⟨rfl,fun x hx => by rw [List.mem_singleton.1 hx];omega,.inr ⟨wA.heap.size,0,rfl,fun j hj => by
  match j,hj with
  | 0,_ => exact hxv.at 0 rfl⟩⟩
 have hWd := wdg_any B i m.rows.length g off c n (rowN m.rows i) f [who] (some ⟨wA.heap.size,0,none⟩) 1 _ (hpl.below hba) hBg hfB c0 c1 hil hV (fun b o e _ => by cases e;exact ⟨fun k => by have := hfl _ k;omega,by omega⟩) (ok.ok i ok.lt) (fun x hx => by rw [List.mem_singleton.1 hx];exact hwho) (by simp)
 have hWd2 : Calls Tryz.prog 121 #[.pointer (some ⟨B,0,none⟩),.slice (some ⟨wA.heap.size,0,none⟩) 1 1] (wA.alloc (.cells #[.int .i64 who] 2)) fun e w' => e = .returned (.tuple #[]) ∧ Iw w w' B { m with rows := m.rows.set i (wdR i (rowN m.rows i) [who] 1) } fp g off c := hWd.mono (fun e w' h => ⟨h.1,hput _ w' _ hba h.2⟩)
 clear hWd hpl hput hba hxv c0 c1 hV hfl
 go_upto_region 2 with (go_at_call 121;refine hWd2.mono ?_;rintro e wB ⟨rfl,hM2⟩;have HM2 : Hid (Iw w wB B { m with rows := m.rows.set i (wdR i (rowN m.rows i) [who] 1) } fp g off c) := hM2;clear hM2)
 clear hWd2
 have hil2 : i < (m.rows.set i (wdR i (rowN m.rows i) [who] 1)).length := by rw [List.length_set];exact hil
 obtain ⟨c0,_⟩ := HM2.out.id'
 simp only at c0
 rw [ok.hid] at c0
 have c1 := HM2.out.rws
 simp only [List.length_set] at c1
 have hOw := own_any B i m.rows.length g off c wB c0 c1 hil
 have hs2 : rowN (m.rows.set i (wdR i (rowN m.rows i) [who] 1)) i = wdR i (rowN m.rows i) [who] 1 := rowN_self hil
 have hvb := (ok.ok i ok.lt).ver
 have HFin : Hid (∀ wC,Below wB.heap.size wB wC → wC.cell? ⟨g,off + i * 8,none⟩ = some (.int .i64 (rowN m.rows i).ver) ∧ wC.frozen? ⟨g,off + i * 8,none⟩ = false ∧ (∃ m1,Bcm w wC B 0 (mb4 m1) fp) ∧ Bcm w (wC.setCell ⟨g,off + i * 8,none⟩ (.int .i64 ((rowN m.rows i).ver + 1))) B 0 (mb4 { m with rows := m.rows.set i { wdR i (rowN m.rows i) [who] 1 with ver := (rowN m.rows i).ver + 1 } }) fp) := fun wC hb => by
  have M3 := HM2.out.step hb
  obtain ⟨v1,v2,hM5⟩ := M3.put hil2 (j := 0) (x := .int .i64 (rowN m.rows i).ver) (y := .int .i64 ((rowN m.rows i).ver + 1)) (r' := { wdR i (rowN m.rows i) [who] 1 with ver := (rowN m.rows i).ver + 1 }) (by simp only [hs2];rfl) (by simp only [hs2];rfl)
  simp only [Nat.add_zero,List.set_set] at v1 v2 hM5
  exact ⟨v1,v2,⟨_,M3.bcm⟩,hM5.bcm⟩
 clear c0 c1 hs2 hil2
 by_cases hver : (rowN m.rows i).ver = 1000000
 ·have HZ : Hid ((doubtMb m who).2 = false) := HD.out.2.1 HE1.out hver
  go_wp2_with (first | (go_at_call 117;refine hOw.mono ?_;rintro e wC ⟨rfl,hbC⟩;obtain ⟨v1,v2,hG,_⟩ := HFin.out wC hbC;have HG : Hid (∃ m1,Bcm w wC B 0 (mb4 m1) fp) := hG;have hnv := nvF_any g (off + i * 8) (rowN m.rows i).ver wC v1 (by omega);clear hbC hG v1 v2) | (go_at_call 119;refine hnv.mono ?_;rintro e w' ⟨⟨T,v,rfl⟩,hw'⟩;rw [hw'];clear hw'))
  exact ⟨rfl,.inr ⟨HZ.out,⟨_,_,rfl⟩,HG.out⟩⟩
 ·have HZ : Hid (doubtMb m who = ({ m with rows := m.rows.set i { wdR i (rowN m.rows i) [who] 1 with ver := (rowN m.rows i).ver + 1 } },true)) := HD.out.2.2 HE1.out hver
  go_wp2_with (first | (go_at_call 117;refine hOw.mono ?_;rintro e wC ⟨rfl,hbC⟩;obtain ⟨v1,v2,_,hG⟩ := HFin.out wC hbC;have HG : Hid (Bcm w (wC.setCell ⟨g,off + i * 8,none⟩ (.int .i64 ((rowN m.rows i).ver + 1))) B 0 (mb4 { m with rows := m.rows.set i { wdR i (rowN m.rows i) [who] 1 with ver := (rowN m.rows i).ver + 1 } }) fp) := hG;have hnv := nvT_any g (off + i * 8) (rowN m.rows i).ver wC v1 v2 (by omega) (by omega);clear hbC hG v1 v2) | (go_at_call 119;refine hnv.mono ?_;rintro e w' ⟨rfl,hw'⟩;rw [hw'];clear hw'))
  first | go_end0 | go_ret
  rw [HZ.out]
  exact .inl ⟨rfl,rfl,HG.out⟩
end Go.Proofs.YthioodpmgifomaaGreat
namespace Go.Proofs.YthioodpmgifomaaGreat
set_option linter.unusedVariables false
set_option linter.unusedSimpArgs false
open Go.RowKit Go.Sort
theorem doubt_wkd (m : Mb) (who : Int) : dbtM m who = wkdM m (doubtMb m who).1 (doubtMb m who).2 := by
 unfold dbtM wkdM
 split
 ·by_cases hd : m.done = true
  ·rw [if_pos hd,doubtMb,if_pos (.inr (.inr (.inr (.inl hd))))]
  ·rw [if_neg hd]
   cases hf : (doubtMb m who).2 with
   | true => rw [if_pos rfl,← hf]
   | false =>
    rw [if_neg (by decide)]
    unfold doubtMb at hf ⊢
    split at hf
    ·rename_i h;rw [if_pos h]
    ·cases hf
 ·rfl
set_option maxRecDepth 100000 in
set_option maxHeartbeats 800000 in
theorem dbt1_any (B : Nat) (who : Int) (b1 : Nat) (X : World) (R : Ending → World → Prop) (hc : X.cell? ⟨b1,0,none⟩ = some (.int .i64 who)) (hS : Calls Tryz.prog 62 #[.pointer (some ⟨B,0,none⟩),.int .i64 who] X R) (hR : ∀ e w',R e w' → e = .returned (.tuple #[]) ∨ Gu e) :
  Calls Tryz.prog 61 #[.pointer (some ⟨B,0,none⟩),.pointer (some ⟨b1,0,none⟩)] X R := by
 have HR : Hid (∀ e w',R e w' → e = .returned (.tuple #[]) ∨ Gu e) := hR
 clear hR
 go_enter Tryz.func61,Tryz.ntmps61
 go_wp2_with fail
 refine hS.mono ?_
 intro e w1 hRe
 rcases HR.out e w1 hRe with rfl | ⟨T,v,rfl⟩
 ·have HRe : Hid (R (.returned (.tuple #[])) w1) := hRe
  clear hRe hS
  go_wp2
  first | go_end0 | go_ret
  exact HRe.out
 ·exact ⟨rfl,hRe⟩
set_option maxRecDepth 100000 in
set_option maxHeartbeats 1600000 in
theorem implDoubt : ImplDoubt := by
 intro A m who w hv h6
 have hmf : ∀ (fn : Fn) (first cap : Array Value) (w : World),(Instr.makeFunc fn first cap).run Tryz.prog w = .ok (.func fn first cap) w := fun _ _ _ _ => rfl
 have a0 := oneA16 w (.cells #[.int .i64 m.id,.int .i64 m.n,.slice A.ra m.rows.length A.rc,.slice A.sa m.sung.length A.sc,.bool m.done] 27)
 have hb0 : Below w.heap.size w (w.alloc (.cells #[.int .i64 m.id,.int .i64 m.n,.slice A.ra m.rows.length A.rc,.slice A.sa m.sung.length A.sc,.bool m.done] 27)) := a0
 have a1 := oneA16 (w.alloc (.cells #[.int .i64 m.id,.int .i64 m.n,.slice A.ra m.rows.length A.rc,.slice A.sa m.sung.length A.sc,.bool m.done] 27)) (.cells #[.int .i64 who] 2)
 have hb1 : Below w.heap.size w ((w.alloc (.cells #[.int .i64 m.id,.int .i64 m.n,.slice A.ra m.rows.length A.rc,.slice A.sa m.sung.length A.sc,.bool m.done] 27)).alloc (.cells #[.int .i64 who] 2)) := hb0.trans (a1.mono hb0.size)
 have a2 := oneA16 ((w.alloc (.cells #[.int .i64 m.id,.int .i64 m.n,.slice A.ra m.rows.length A.rc,.slice A.sa m.sung.length A.sc,.bool m.done] 27)).alloc (.cells #[.int .i64 who] 2)) (.cells #[.int .i64 0,.int .i64 0,.slice none 0 0,.slice none 0 0,.bool false] 27)
 have hb2 : Below w.heap.size w (((w.alloc (.cells #[.int .i64 m.id,.int .i64 m.n,.slice A.ra m.rows.length A.rc,.slice A.sa m.sung.length A.sc,.bool m.done] 27)).alloc (.cells #[.int .i64 who] 2)).alloc (.cells #[.int .i64 0,.int .i64 0,.slice none 0 0,.slice none 0 0,.bool false] 27)) := hb1.trans (a2.mono hb1.size)
 have hx0 : Bx (((w.alloc (.cells #[.int .i64 m.id,.int .i64 m.n,.slice A.ra m.rows.length A.rc,.slice A.sa m.sung.length A.sc,.bool m.done] 27)).alloc (.cells #[.int .i64 who] 2)).alloc (.cells #[.int .i64 0,.int .i64 0,.slice none 0 0,.slice none 0 0,.bool false] 27)) (w.heap.size) 27 #[.int .i64 m.id,.int .i64 m.n,.slice A.ra m.rows.length A.rc,.slice A.sa m.sung.length A.sc,.bool m.done] := by
  have := ((Bx.new w 27 #[.int .i64 m.id,.int .i64 m.n,.slice A.ra m.rows.length A.rc,.slice A.sa m.sung.length A.sc,.bool m.done]).alloc (.cells #[.int .i64 who] 2)).alloc (.cells #[.int .i64 0,.int .i64 0,.slice none 0 0,.slice none 0 0,.bool false] 27)
  try simp only [World.size_alloc] at this
  exact this
 have hx1 : Bx (((w.alloc (.cells #[.int .i64 m.id,.int .i64 m.n,.slice A.ra m.rows.length A.rc,.slice A.sa m.sung.length A.sc,.bool m.done] 27)).alloc (.cells #[.int .i64 who] 2)).alloc (.cells #[.int .i64 0,.int .i64 0,.slice none 0 0,.slice none 0 0,.bool false] 27)) (w.heap.size + 1) 2 #[.int .i64 who] := by
  have := (Bx.new (w.alloc (.cells #[.int .i64 m.id,.int .i64 m.n,.slice A.ra m.rows.length A.rc,.slice A.sa m.sung.length A.sc,.bool m.done] 27)) 2 #[.int .i64 who]).alloc (.cells #[.int .i64 0,.int .i64 0,.slice none 0 0,.slice none 0 0,.bool false] 27)
  try simp only [World.size_alloc] at this
  exact this
 have hx2 : Bx (((w.alloc (.cells #[.int .i64 m.id,.int .i64 m.n,.slice A.ra m.rows.length A.rc,.slice A.sa m.sung.length A.sc,.bool m.done] 27)).alloc (.cells #[.int .i64 who] 2)).alloc (.cells #[.int .i64 0,.int .i64 0,.slice none 0 0,.slice none 0 0,.bool false] 27)) (w.heap.size + 1 + 1) 27 #[.int .i64 0,.int .i64 0,.slice none 0 0,.slice none 0 0,.bool false] := by
  have := Bx.new ((w.alloc (.cells #[.int .i64 m.id,.int .i64 m.n,.slice A.ra m.rows.length A.rc,.slice A.sa m.sung.length A.sc,.bool m.done] 27)).alloc (.cells #[.int .i64 who] 2)) 27 #[.int .i64 0,.int .i64 0,.slice none 0 0,.slice none 0 0,.bool false]
  try simp only [World.size_alloc] at this
  exact this
 have hP := hv.below hb2
 have hWk := wkd_any 61 #[.pointer (some ⟨w.heap.size + 1,0,none⟩)] A m (doubtMb m who).1 (doubtMb m who).2 (((w.alloc (.cells #[.int .i64 m.id,.int .i64 m.n,.slice A.ra m.rows.length A.rc,.slice A.sa m.sung.length A.sc,.bool m.done] 27)).alloc (.cells #[.int .i64 who] 2)).alloc (.cells #[.int .i64 0,.int .i64 0,.slice none 0 0,.slice none 0 0,.bool false] 27)) hP (fun _ _ => enters_of Tryz.func61 (by kernel_rfl) rfl _ _)
  (fun hok hf => by
   obtain ⟨i,n,ok⟩ := okMb_iff.1 hok
   have := (doubt_loc ok who).1
   rw [this.hn,this.len])
  (fun X B fp i n hX hpl ok hd => dbt1_any B who (w.heap.size + 1) X _ ((hx1.below hX).at 0 rfl) (dbt_any B m i n who fp X hpl ok hd) (fun e w' h => by
   rcases h with ⟨_,h,_⟩ | ⟨_,h,_⟩
   ·exact .inl h
   ·exact .inr h))
 have HZ0 := doubt_wkd m who
 unfold mbV mbC at hWk
 have hWl := hx2.lt
 obtain ⟨c0,c1,c2,c3,c4⟩ := Bx.r5 hx0
 have HR0 : Hid (Bx (((w.alloc (.cells #[.int .i64 m.id,.int .i64 m.n,.slice A.ra m.rows.length A.rc,.slice A.sa m.sung.length A.sc,.bool m.done] 27)).alloc (.cells #[.int .i64 who] 2)).alloc (.cells #[.int .i64 0,.int .i64 0,.slice none 0 0,.slice none 0 0,.bool false] 27)) (w.heap.size + 1 + 1) 27 #[.int .i64 0,.int .i64 0,.slice none 0 0,.slice none 0 0,.bool false]) := hx2
 have HB0 : Hid (Below w.heap.size w (((w.alloc (.cells #[.int .i64 m.id,.int .i64 m.n,.slice A.ra m.rows.length A.rc,.slice A.sa m.sung.length A.sc,.bool m.done] 27)).alloc (.cells #[.int .i64 who] 2)).alloc (.cells #[.int .i64 0,.int .i64 0,.slice none 0 0,.slice none 0 0,.bool false] 27))) := hb2
 have HZ : Hid (dbtM m who = wkdM m (doubtMb m who).1 (doubtMb m who).2) := HZ0
 clear a0 a1 a2 hb0 hb1 hb2 hx0 hx1 hx2 hP hv HZ0
 unfold mbV mbC
 generalize wkdM m (doubtMb m who).1 (doubtMb m who).2 = pm at *
 go_enter Tryz.func13,Tryz.ntmps13
 go_wp2_with fail
 generalize (((w.alloc (.cells #[.int .i64 m.id,.int .i64 m.n,.slice A.ra m.rows.length A.rc,.slice A.sa m.sung.length A.sc,.bool m.done] 27)).alloc (.cells #[.int .i64 who] 2)).alloc (.cells #[.int .i64 0,.int .i64 0,.slice none 0 0,.slice none 0 0,.bool false] 27)) = W0 at *
 refine hWk.mono ?_
 rintro e w1 ⟨A2,rfl,fp,hl,hf,hb⟩
 have hR := HR0.out.below hb
 have hsz := hb.size
 have HN : Hid (∀ {z0 z1 z2 z3 z4 : Value},NewL w (((((w1.setCell ⟨w.heap.size + 1 + 1,0,none⟩ z0).setCell ⟨w.heap.size + 1 + 1,1,none⟩ z1).setCell ⟨w.heap.size + 1 + 1,2,none⟩ z2).setCell ⟨w.heap.size + 1 + 1,3,none⟩ z3).setCell ⟨w.heap.size + 1 + 1,4,none⟩ z4) (mbCels pm.1) (mbVals A2 pm.1)) := fun {z0 z1 z2 z3 z4} => by
  have hB1 : Below w.heap.size w w1 := HB0.out.trans (hb.mono HB0.out.size)
  exact ⟨fp,owL_wrt hl (wrt5 w1 (w.heap.size + 1 + 1)) (fun x hx e => by have := hf x hx;omega),fun x hx => by have := hf x hx;omega,(wrt5 w1 (w.heap.size + 1 + 1)).below hB1 hB1.size (fun x e => by omega)⟩
 obtain ⟨z0,z1,z2,z3,z4⟩ := Bx.r5 hR
 obtain ⟨r0,r1,r2,r3,r4⟩ := hR.f5
 clear hWk hl hf hb hR c0 c1 c2 c3 c4
 unfold mbV mbC
 go_wp2
 refine bodyPost_ret (v := .tuple #[mbV A2 pm.1,.bool pm.2]) (by simp [results,Tryz.results13,go_sem,mbV,mbC, *]) rfl ?_
 rw [HZ.out]
 exact ⟨_,rfl,HN.out⟩
end Go.Proofs.YthioodpmgifomaaGreat
namespace Go.Proofs.YthioodpmgifomaaGreat
set_option linter.unusedVariables false
set_option linter.unusedSimpArgs false
open Go.RowKit Go.Sort
attribute [local irreducible] sv
theorem oth_heard {m : Mb} {i n : Nat} (ok : OkM m i n) (fr : Int) (r : Rw) (hd : m.done = false) : (heardMb m fr r).2 = (othB i n (rowN m.rows i).sus fr && (okRw r m.n && decide ((rowN m.rows fr.toNat).ver < r.ver))) ∧ ((heardMb m fr r).2 = true → (heardMb m fr r).1 = { m with rows := m.rows.set fr.toNat r }) := by
 have e : m.i = i := by unfold Mb.i;rw [ok.hid];rfl
 unfold heardMb othB
 rw [Mb.own,e,hd,ok.hid,ok.hn]
 split
 ·rename_i h
  refine ⟨?_,fun h => by cases h⟩
  rcases h with h | h | h | h | h | h
  ·rw [h];simp
  ·rw [h];simp
  ·rw [decide_eq_false (p := fr ∉ _) (by simpa using h)];simp
  ·cases h
  ·rw [h];simp
  ·rw [decide_eq_false (p := _ < r.ver) (by omega)];simp
 ·rename_i h
  refine ⟨?_,fun _ => rfl⟩
  simp only [not_or,Bool.not_eq_false,Int.not_le] at h
  obtain ⟨h1,h2,h3,_,h5,h6⟩ := h
  rw [h1,h5,decide_eq_true h2,decide_eq_true h3,decide_eq_true h6]
  rfl
set_option maxRecDepth 100000 in
set_option maxHeartbeats 1600000 in
theorem hear_any (B : Nat) (m : Mb) (i n : Nat) (fr : Int) (Ar : Ra) (r : Rw) (fp : Fp) (w : World) (h : Plc w B 0 (mb4 m) fp) (ok : OkM m i n) (hd : m.done = false) (hrp : RwP w Ar r) :
  Calls Tryz.prog 67 #[.pointer (some ⟨B,0,none⟩),.int .i64 fr,rwV Ar r] w fun e w' => ((heardMb m fr r).2 = true ∧ e = .returned (.tuple #[]) ∧ Bcm w w' B 0 (mb4 (heardMb m fr r).1) fp) ∨ ((heardMb m fr r).2 = false ∧ Gu e ∧ ∃ m1,Bcm w w' B 0 (mb4 m1) fp) := by
 have hmix := mixed17
 have hil : i < m.rows.length := by rw [ok.len];exact ok.lt
 have hn5 := ok.n5
 obtain ⟨g,off,c,M0⟩ := Iw.start h (by omega)
 have hba := oneA16 w (.cells #[.int .i64 r.ver,.slice Ar.ta r.txt.length Ar.tc,.slice Ar.ga r.got.length Ar.gc,.slice Ar.sa r.sus.length Ar.sc,.bool r.wed,.bool r.rdy,.int .i64 r.by_,.slice Ar.ma r.trm.length Ar.mc] 37)
 have hxr := Bx.new w 37 #[.int .i64 r.ver,.slice Ar.ta r.txt.length Ar.tc,.slice Ar.ga r.got.length Ar.gc,.slice Ar.sa r.sus.length Ar.sc,.bool r.wed,.bool r.rdy,.int .i64 r.by_,.slice Ar.ma r.trm.length Ar.mc]
 have M1 := M0.step hba
 have hrp1 := hrp.below hba
 obtain ⟨HP1,HP2⟩ := oth_heard ok fr r hd
 have HH1 : Hid ((heardMb m fr r).2 = (othB i n (rowN m.rows i).sus fr && (okRw r m.n && decide ((rowN m.rows fr.toNat).ver < r.ver)))) := HP1
 have HH2 : Hid ((heardMb m fr r).2 = true → (heardMb m fr r).1 = { m with rows := m.rows.set fr.toNat r }) := HP2
 clear HP1 HP2 h M0
 unfold rwV rwC
 generalize hWW : w.alloc (.cells #[.int .i64 r.ver,.slice Ar.ta r.txt.length Ar.tc,.slice Ar.ga r.got.length Ar.gc,.slice Ar.sa r.sus.length Ar.sc,.bool r.wed,.bool r.rdy,.int .i64 r.by_,.slice Ar.ma r.trm.length Ar.mc] 37) = W1 at *
 have HW : Hid (w.heap.size < W1.heap.size) := hxr.lt
 have HM1 : Hid (Iw w W1 B m fp g off c) := M1
 have HXr : Hid (Bx W1 w.heap.size 37 #[.int .i64 r.ver,.slice Ar.ta r.txt.length Ar.tc,.slice Ar.ga r.got.length Ar.gc,.slice Ar.sa r.sus.length Ar.sc,.bool r.wed,.bool r.rdy,.int .i64 r.by_,.slice Ar.ma r.trm.length Ar.mc]) := hxr
 have HRp : Hid (RwP W1 Ar r) := hrp1
 obtain ⟨c0,c3⟩ := M1.id'
 have c1 := M1.rws
 rw [ok.hid] at c0
 obtain ⟨Ak,⟨⟨d0,d1,d2,d3⟩,d4,d5,d6,d7⟩,hrs⟩ := M1.row ok.fit hil
 have T : ∀ {x v},W1.cell? x = some v → ∀ q : Bk W1,q.w.cell? x = some v := fun h q => (q.h.cell (World.block_lt_of_cell? _ _ h)).trans h
 have hO : ∀ q : Bk W1,Calls Tryz.prog 120 #[.pointer (some ⟨B,0,none⟩),.int .i64 fr] q.w fun e w' => e = .returned (.bool (othB i n (rowN m.rows i).sus fr)) ∧ Below q.w.heap.size q.w w' := fun q => oth_any B i n g off c Ak.sa Ak.sc (rowN m.rows i).sus fr q.w (T c0 q) (by rw [← ok.len];exact T c1 q) ok.lt hn5.2 (T d3 q) (hrs.sus.below q.h (Nat.le_refl _)) hrs.ms
 have hC : ∀ q : Bk W1,Calls Tryz.prog 124 #[.pointer (some ⟨B,0,none⟩)] q.w fun e w' => e = .returned (.int .i64 m.n) ∧ Below q.w.heap.size q.w w' := fun q => (cnt_any B (some ⟨g,off,none⟩) m.rows.length c q.w (T c1 q)).mono (fun e w' h => ⟨by rw [h.1,ok.hn,ok.len],by rw [h.2];exact Below.refl _ _⟩)
 have hR : ∀ q : Bk W1,Calls Tryz.prog 87 #[.agg #[.int .i64 r.ver,.slice Ar.ta r.txt.length Ar.tc,.slice Ar.ga r.got.length Ar.gc,.slice Ar.sa r.sus.length Ar.sc,.bool r.wed,.bool r.rdy,.int .i64 r.by_,.slice Ar.ma r.trm.length Ar.mc],.int .i64 m.n] q.w fun e w' => e = .returned (.bool (okRw r m.n)) ∧ Below q.w.heap.size q.w w' := fun q => rowI_any Ar r m.n q.w (hrp1.below q.h)
 have y1 := T c1
 obtain ⟨⟨x0,x1,x2,x3⟩,x4,x5,x6,x7⟩ := Bx.r8 hxr
 have u0 := T x0
 have u1 := T x1
 have u2 := T x2
 have u3 := T x3
 have u4 := T x4
 have u5 := T x5
 have u6 := T x6
 have u7 := T x7
 have HGi : Hid (∀ wE,Below W1.heap.size W1 wE → ∃ m1,Bcm w wE B 0 (mb4 m1) fp) := fun wE hb => ⟨m,(HM1.out.step hb).bcm⟩
 have HFr : Hid (othB i n (rowN m.rows i).sus fr = true → ∃ F : Nat,fr = (F : Int) ∧ F < m.rows.length) := fun h => by
  unfold othB at h
  simp only [Bool.and_eq_true] at h
  have := inB7.1 h.2.1
  exact ⟨fr.toNat,by omega,by rw [ok.len];omega⟩
 have HT : Hid (∀ {x v},W1.cell? x = some v → ∀ q : Bk W1,q.w.cell? x = some v) := @T
 clear hrp hba hxr M1 hrp1 x0 x1 x2 x3 x4 x5 x6 x7 c0 c1 c3 d0 d1 d2 d3 d4 d5 d6 d7 hrs T
 have hw0 : w.alloc (.cells #[.int .i64 r.ver,.slice Ar.ta r.txt.length Ar.tc,.slice Ar.ga r.got.length Ar.gc,.slice Ar.sa r.sus.length Ar.sc,.bool r.wed,.bool r.rdy,.int .i64 r.by_,.slice Ar.ma r.trm.length Ar.mc] 37) = W1 := hWW
 clear hWW
 cases e1 : othB i n (rowN m.rows i).sus fr with
 | false =>
  have HZ : Hid ((heardMb m fr r).2 = false) := by rw [Hid,HH1.out,e1];rfl
  rw [e1] at hO
  clear e1
  go_enter Tryz.func67,Tryz.ntmps67
  go_wp2_with fail
  clear hw0
  refine wp_region_quiet_tail (C := fun w' => ∃ p : Bk W1,w' = p.w) 25 hmix (by kernel_rfl) ⟨⟨W1.drewN 1,belowN (Below.refl _ _)⟩,rfl⟩ ?_
  simp only [List.take_succ_cons,List.take_zero]
  repeat (go_big_quiet_step ((first | (go_at_call 120;exact bk_call _ (hO _)) | rfl)))
  refine wpQuiet_nil ?_
  intro wE hw'
  obtain ⟨⟨w11,hb11⟩,hw''⟩ := hw'
  have hwe : wE = w11 := hw''
  clear hw''
  subst hwe
  simp only [List.drop_succ_cons,List.drop_zero]
  have HG := HGi.out wE hb11
  have HG2 : Hid (∃ m1,Bcm w wE B 0 (mb4 m1) fp) := HG
  clear hO hC hR y1 u0 u1 u2 u3 u4 u5 u6 u7 hb11 HG
  go_wp2_with (go_at_call 115;refine (wantF _).mono ?_;rintro e w' ⟨⟨T,v,rfl⟩,hw'⟩;rw [hw'];clear hw')
  exact ⟨rfl,.inr ⟨HZ.out,⟨_,_,rfl⟩,HG2.out⟩⟩
 | true =>
 obtain ⟨F,rfl,hFl⟩ := HFr.out e1
 rw [e1] at hO
 cases e2 : okRw r m.n with
 | false =>
  have HZ : Hid ((heardMb m (F : Int) r).2 = false) := by rw [Hid,HH1.out,e1,e2];rfl
  rw [e2] at hR
  clear e1 e2
  go_enter Tryz.func67,Tryz.ntmps67
  go_wp2_with fail
  clear hw0
  refine wp_region_quiet_tail (C := fun w' => ∃ p : Bk W1,w' = p.w) 25 hmix (by kernel_rfl) ⟨⟨W1.drewN 1,belowN (Below.refl _ _)⟩,rfl⟩ ?_
  simp only [List.take_succ_cons,List.take_zero]
  repeat (go_big_quiet_step ((first | (go_at_call 120;exact bk_call _ (hO _)) | (go_at_call 124;exact bk_call _ (hC _)) | (go_at_call 87;exact bk_call _ (hR _)) | rfl)))
  refine wpQuiet_nil ?_
  intro wE hw'
  obtain ⟨⟨w11,hb11⟩,hw''⟩ := hw'
  have hwe : wE = w11 := hw''
  clear hw''
  subst hwe
  simp only [List.drop_succ_cons,List.drop_zero]
  have HG := HGi.out wE hb11
  have HG2 : Hid (∃ m1,Bcm w wE B 0 (mb4 m1) fp) := HG
  clear hO hC hR y1 u0 u1 u2 u3 u4 u5 u6 u7 hb11 HG
  go_wp2_with (go_at_call 115;refine (wantF _).mono ?_;rintro e w' ⟨⟨T,v,rfl⟩,hw'⟩;rw [hw'];clear hw')
  exact ⟨rfl,.inr ⟨HZ.out,⟨_,_,rfl⟩,HG2.out⟩⟩
 | true =>
 rw [e2] at hR
 obtain ⟨Af,⟨⟨d0,d1,d2,d3⟩,d4,d5,d6,d7⟩,_⟩ := HM1.out.row ok.fit hFl
 have HLv : Hid ((heardMb m (F : Int) r).2 = decide ((rowN m.rows F).ver < r.ver)) := by rw [Hid,HH1.out,e1,e2];simp
 have v0 := HT.out d0
 have v1 := HT.out d1
 have v2 := HT.out d2
 have v3 := HT.out d3
 have v4 := HT.out d4
 have v5 := HT.out d5
 have v6 := HT.out d6
 have v7 := HT.out d7
 have hL : ∀ q : Bk W1,Calls Tryz.prog 125 #[.agg #[.int .i64 r.ver,.slice Ar.ta r.txt.length Ar.tc,.slice Ar.ga r.got.length Ar.gc,.slice Ar.sa r.sus.length Ar.sc,.bool r.wed,.bool r.rdy,.int .i64 r.by_,.slice Ar.ma r.trm.length Ar.mc],rwV Af (rowN m.rows F)] q.w fun e w' => e = .returned (.bool (decide ((rowN m.rows F).ver < r.ver))) ∧ Below q.w.heap.size q.w w' := fun q => latI_any Ar Af r (rowN m.rows F) q.w
 unfold rwV rwC at hL
 have F0 : (0 : Int) ≤ (F : Int) := by omega
 have F1 : (F : Int) < (m.rows.length : Int) := by omega
 have hokr : OkR r n := okRw_iff.1 (by rw [← ok.hn];exact e2)
 clear e1 e2 d0 d1 d2 d3 d4 d5 d6 d7
 cases e3 : decide ((rowN m.rows F).ver < r.ver) with
 | false =>
  have HZ : Hid ((heardMb m (F : Int) r).2 = false) := by rw [Hid,HLv.out,e3]
  rw [e3] at hL
  clear e3
  go_enter Tryz.func67,Tryz.ntmps67
  go_wp2_with fail
  clear hw0
  refine wp_region_quiet_tail (C := fun w' => ∃ p : Bk W1,w' = p.w) 25 hmix (by kernel_rfl) ⟨⟨W1.drewN 1,belowN (Below.refl _ _)⟩,rfl⟩ ?_
  simp only [List.take_succ_cons,List.take_zero]
  repeat (go_big_quiet_step ((first | (go_at_call 120;exact bk_call _ (hO _)) | (go_at_call 124;exact bk_call _ (hC _)) | (go_at_call 87;exact bk_call _ (hR _)) | (go_at_call 125;exact bk_call _ (hL _)) | rfl)))
  refine wpQuiet_nil ?_
  intro wE hw'
  obtain ⟨⟨w11,hb11⟩,hw''⟩ := hw'
  have hwe : wE = w11 := hw''
  clear hw''
  subst hwe
  simp only [List.drop_succ_cons,List.drop_zero]
  have HG := HGi.out wE hb11
  have HG2 : Hid (∃ m1,Bcm w wE B 0 (mb4 m1) fp) := HG
  clear hO hC hR hL y1 u0 u1 u2 u3 u4 u5 u6 u7 v0 v1 v2 v3 v4 v5 v6 v7 hb11 HG
  go_wp2_with (go_at_call 115;refine (wantF _).mono ?_;rintro e w' ⟨⟨T,v,rfl⟩,hw'⟩;rw [hw'];clear hw')
  exact ⟨rfl,.inr ⟨HZ.out,⟨_,_,rfl⟩,HG2.out⟩⟩
 | true =>
 have HZ : Hid ((heardMb m (F : Int) r).2 = true) := by rw [Hid,HLv.out,e3]
 rw [e3] at hL
 clear e3
 go_enter Tryz.func67,Tryz.ntmps67
 go_wp2_with fail
 clear hw0
 refine wp_region_quiet_tail (C := fun w' => ∃ p : Bk W1,w' = p.w) 25 hmix (by kernel_rfl) ⟨⟨W1.drewN 1,belowN (Below.refl _ _)⟩,rfl⟩ ?_
 simp only [List.take_succ_cons,List.take_zero]
 repeat (go_big_quiet_step ((first | (go_at_call 120;exact bk_call _ (hO _)) | (go_at_call 124;exact bk_call _ (hC _)) | (go_at_call 87;exact bk_call _ (hR _)) | (go_at_call 125;exact bk_call _ (hL _)) | rfl)))
 refine wpQuiet_nil ?_
 intro wE hw'
 obtain ⟨⟨w11,hb11⟩,hw''⟩ := hw'
 have hwe : wE = w11 := hw''
 clear hw''
 subst hwe
 simp only [List.drop_succ_cons,List.drop_zero]
 have M2 := HM1.out.step hb11
 have HM2 : Hid (Iw w wE B m fp g off c) := M2
 have hrp2 := HRp.out.below hb11
 have hxr2 := HXr.out.below hb11
 clear hO hC hR hL y1 u0 u1 u2 u3 u4 u5 u6 u7 v0 v1 v2 v3 v4 v5 v6 v7
 have KS : ∀ X,Below wE.heap.size wE X → X.cell? ⟨B,1,none⟩ = some (.slice (some ⟨g,off,none⟩) m.rows.length c) ∧ X.cell? ⟨w.heap.size,0,none⟩ = some (.int .i64 r.ver) ∧ X.cell? ⟨w.heap.size,1,none⟩ = some (.slice Ar.ta r.txt.length Ar.tc) ∧ X.cell? ⟨w.heap.size,2,none⟩ = some (.slice Ar.ga r.got.length Ar.gc) ∧ X.cell? ⟨w.heap.size,3,none⟩ = some (.slice Ar.sa r.sus.length Ar.sc) ∧ X.cell? ⟨w.heap.size,4,none⟩ = some (.bool r.wed) ∧ X.cell? ⟨w.heap.size,5,none⟩ = some (.bool r.rdy) ∧ X.cell? ⟨w.heap.size,6,none⟩ = some (.int .i64 r.by_) ∧ X.cell? ⟨w.heap.size,7,none⟩ = some (.slice Ar.ma r.trm.length Ar.mc) := fun X hX => by
  obtain ⟨⟨x0,x1,x2,x3⟩,x4,x5,x6,x7⟩ := Bx.r8 (hxr2.below hX)
  exact ⟨(hX.cell (World.block_lt_of_cell? _ _ M2.rws)).trans M2.rws,x0,x1,x2,x3,x4,x5,x6,x7⟩
 have hbd : Below wE.heap.size wE wE.drew := (Same.drewN wE 1).below
 have hAn := anw_any Ar r wE.drew (hrp2.below hbd) (by rw [hokr.gl];omega) (by have := hokr.c8.2;omega)
 unfold rwV rwC at hAn
 clear hrp2 hxr2 hb11 M2
 go_upto_region 2 with (go_at_call 115;refine (wantT _).mono ?_;rintro e w' ⟨rfl,hw'⟩;rw [hw'];clear hw')
 refine gt_begin (S := fun X : World => X.cell? ⟨B,1,none⟩ = some (.slice (some ⟨g,off,none⟩) m.rows.length c) ∧ X.cell? ⟨w.heap.size,0,none⟩ = some (.int .i64 r.ver) ∧ X.cell? ⟨w.heap.size,1,none⟩ = some (.slice Ar.ta r.txt.length Ar.tc) ∧ X.cell? ⟨w.heap.size,2,none⟩ = some (.slice Ar.ga r.got.length Ar.gc) ∧ X.cell? ⟨w.heap.size,3,none⟩ = some (.slice Ar.sa r.sus.length Ar.sc) ∧ X.cell? ⟨w.heap.size,4,none⟩ = some (.bool r.wed) ∧ X.cell? ⟨w.heap.size,5,none⟩ = some (.bool r.rdy) ∧ X.cell? ⟨w.heap.size,6,none⟩ = some (.int .i64 r.by_) ∧ X.cell? ⟨w.heap.size,7,none⟩ = some (.slice Ar.ma r.trm.length Ar.mc)) 9 hmix (by kernel_rfl) ?_
 have hHeld : (fun X : World => X.cell? ⟨B,1,none⟩ = some (.slice (some ⟨g,off,none⟩) m.rows.length c) ∧ X.cell? ⟨w.heap.size,0,none⟩ = some (.int .i64 r.ver) ∧ X.cell? ⟨w.heap.size,1,none⟩ = some (.slice Ar.ta r.txt.length Ar.tc) ∧ X.cell? ⟨w.heap.size,2,none⟩ = some (.slice Ar.ga r.got.length Ar.gc) ∧ X.cell? ⟨w.heap.size,3,none⟩ = some (.slice Ar.sa r.sus.length Ar.sc) ∧ X.cell? ⟨w.heap.size,4,none⟩ = some (.bool r.wed) ∧ X.cell? ⟨w.heap.size,5,none⟩ = some (.bool r.rdy) ∧ X.cell? ⟨w.heap.size,6,none⟩ = some (.int .i64 r.by_) ∧ X.cell? ⟨w.heap.size,7,none⟩ = some (.slice Ar.ma r.trm.length Ar.mc)) wE.drew := (KS _ hbd)
 refine gt_take (i := 0) (v := ?_) rfl (by kernel_rfl) (by kernel_rfl) (by kernel_rfl) (by kernel_rfl) (fun _ _ _ h => h) (Or.inl ⟨by rfl, ?_⟩) hHeld ?_
 rotate_left
 ·(intro X hSX;(try dsimp only at hSX);obtain ⟨g0,g1,g2,g3,g4,g5,g6,g7,g8⟩ := hSX;go_simp;try with_reducible rfl)
 try simp only [Act.put,List.setIfInBounds_toArray,List.set_cons_zero,List.set_cons_succ]
 refine gt_take (i := 1) (v := ?_) rfl (by kernel_rfl) (by kernel_rfl) (by kernel_rfl) (by kernel_rfl) (fun _ _ _ h => h) (Or.inl ⟨by rfl, ?_⟩) hHeld ?_
 rotate_left
 ·(intro X hSX;(try dsimp only at hSX);obtain ⟨g0,g1,g2,g3,g4,g5,g6,g7,g8⟩ := hSX;go_simp;try with_reducible rfl)
 try simp only [Act.put,List.setIfInBounds_toArray,List.set_cons_zero,List.set_cons_succ]
 refine gt_take (i := 2) (v := ?_) rfl (by kernel_rfl) (by kernel_rfl) (by kernel_rfl) (by kernel_rfl) (fun _ _ _ h => h) (Or.inl ⟨by rfl, ?_⟩) hHeld ?_
 rotate_left
 ·(intro X hSX;(try dsimp only at hSX);obtain ⟨g0,g1,g2,g3,g4,g5,g6,g7,g8⟩ := hSX;go_simp;try with_reducible rfl)
 try simp only [Act.put,List.setIfInBounds_toArray,List.set_cons_zero,List.set_cons_succ]
 refine gt_take (i := 3) (v := ?_) rfl (by kernel_rfl) (by kernel_rfl) (by kernel_rfl) (by kernel_rfl) (fun _ _ _ h => h) (Or.inl ⟨by rfl, ?_⟩) hHeld ?_
 rotate_left
 ·(intro X hSX;(try dsimp only at hSX);obtain ⟨g0,g1,g2,g3,g4,g5,g6,g7,g8⟩ := hSX;go_simp;try with_reducible rfl)
 try simp only [Act.put,List.setIfInBounds_toArray,List.set_cons_zero,List.set_cons_succ]
 refine gt_take (i := 4) (v := ?_) rfl (by kernel_rfl) (by kernel_rfl) (by kernel_rfl) (by kernel_rfl) (fun _ _ _ h => h) (Or.inl ⟨by rfl, ?_⟩) hHeld ?_
 rotate_left
 ·(intro X hSX;(try dsimp only at hSX);obtain ⟨g0,g1,g2,g3,g4,g5,g6,g7,g8⟩ := hSX;go_simp;try with_reducible rfl)
 try simp only [Act.put,List.setIfInBounds_toArray,List.set_cons_zero,List.set_cons_succ]
 refine gt_take (i := 5) (v := ?_) rfl (by kernel_rfl) (by kernel_rfl) (by kernel_rfl) (by kernel_rfl) (fun _ _ _ h => h) (Or.inl ⟨by rfl, ?_⟩) hHeld ?_
 rotate_left
 ·(intro X hSX;(try dsimp only at hSX);obtain ⟨g0,g1,g2,g3,g4,g5,g6,g7,g8⟩ := hSX;go_simp;try with_reducible rfl)
 try simp only [Act.put,List.setIfInBounds_toArray,List.set_cons_zero,List.set_cons_succ]
 refine gt_take (i := 6) (v := ?_) rfl (by kernel_rfl) (by kernel_rfl) (by kernel_rfl) (by kernel_rfl) (fun _ _ _ h => h) (Or.inl ⟨by rfl, ?_⟩) hHeld ?_
 rotate_left
 ·(intro X hSX;(try dsimp only at hSX);obtain ⟨g0,g1,g2,g3,g4,g5,g6,g7,g8⟩ := hSX;go_simp;try with_reducible rfl)
 try simp only [Act.put,List.setIfInBounds_toArray,List.set_cons_zero,List.set_cons_succ]
 refine gt_one (i := 7) rfl (by kernel_rfl) (by kernel_rfl) (fun K hK => ?_)
 go_simp
 go_at_call 126
 refine hAn.mono ?_
 rintro e V1 ⟨A2,rfl,f2,hl2,hf2,hb2⟩
 have hbV1 : Below wE.heap.size wE V1 := hbd.trans (hb2.mono hbd.size)
 have hd2 : wE.drew.heap.size = wE.heap.size := rfl
 have M3 := HM2.out.rowAll hFl hbV1 hl2 (fun b hb => by have := hf2 b hb;omega)
 have M4 := HM2.out.step hbV1
 obtain ⟨Ag,⟨⟨k0,k1,k2,k3⟩,k4,k5,k6,k7⟩,_⟩ := M4.row ok.fit hFl
 obtain ⟨⟨j0,j1,j2,j3⟩,j4,j5,j6,j7⟩ := M4.free hFl
 have HM3 : Hid _ := M3
 refine hK.out _ _ (KS _ hbV1) (fun hHeldN => ?_)
 clear hK hHeld
 have hHeld := hHeldN
 try simp only [Act.put,List.setIfInBounds_toArray,List.set_cons_zero,List.set_cons_succ]
 refine gt_one (i := 8) rfl (by kernel_rfl) (by kernel_rfl) (fun K hK => ?_)
 go_simp
 refine hK.out _ _ (KS _ hbV1) (fun hHeldN => ?_)
 clear hK hHeld
 have hHeld := hHeldN
 try simp only [Act.put,List.setIfInBounds_toArray,List.set_cons_zero,List.set_cons_succ]
 unfold rwV rwC
 refine gt_last rfl (by kernel_rfl) (by kernel_rfl) (fun K hK => ?_)
 go_simp
 refine hK.out _ _ ?_
 clear hHeld hK M3 M4 hl2 hf2 hb2 k0 k1 k2 k3 k4 k5 k6 k7 j0 j1 j2 j3 j4 j5 j6 j7 KS hbd hbV1 hAn
 have HF2 : Hid ((heardMb m (F : Int) r).1 = { m with rows := m.rows.set F r }) := by rw [Hid,HH2.out HZ.out];rfl
 go_wp2
 first | go_end0 | go_ret
 exact .inl ⟨HZ.out,rfl,by rw [HF2.out];exact HM3.out.bcm⟩
end Go.Proofs.YthioodpmgifomaaGreat