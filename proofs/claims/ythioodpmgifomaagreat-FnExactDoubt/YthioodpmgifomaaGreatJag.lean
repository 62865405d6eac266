/-
  Texts in one: Nmf Nms Nmt Nmu Nma Nmb Ivk Nmd Nme Nmv Cln Nmg.
-/
import Derived.Test.YthioodpmgifomaaGreatJae
import Derived.Test.YthioodpmgifomaaGreatJab
import Derived.Test.YthioodpmgifomaaGreatJaf
import Derived.Test.YthioodpmgifomaaGreatJaa
import Derived.Test.YthioodpmgifomaaGreatJac
import Derived.Test.YthioodpmgifomaaGreatJad
import Derived.Lib.Overlaps
import Derived.Lib.AppendZerosOnto
import Derived.Lib.SlicesSearch
import Derived.Lib.JoinLaws
import Derived.Lib.SliceRun
import Derived.Laws.IdiomCopy
import Derived.Laws.NewBlocks
import Derived.Laws.Externs
import Derived.Deep.LoopGhost
import Derived.Deep.Draws
import Derived.Lib.Walk
import Derived.Shelf.RegionOpenPlain
import Derived.Defers
import Derived.Recover
import Derived.Shelf.Strconv.Clone
import Derived.Shelf.SlGeneric
namespace Go.Proofs.YthioodpmgifomaaGreat
set_option linter.unusedVariables false
set_option linter.unusedSimpArgs false
open Go.RowKit Go.Sort
set_option maxHeartbeats 400000 in
theorem nan1_any (x : Int) (w : World) : Calls Tryz.prog 222 #[.int .i64 x] w fun e w' => e = .returned (.bool false) ∧ w' = w := by
 go_enter Tryz.func222,Tryz.ntmps222
 go_wp2
 go_ret
 exact ⟨by simp,rfl⟩
set_option maxHeartbeats 400000 in
theorem nan2_any (x : Int) (w : World) : Calls Tryz.prog 204 #[.int .i64 x] w fun e w' => e = .returned (.bool false) ∧ w' = w := by
 go_enter Tryz.func204,Tryz.ntmps204
 go_wp2
 go_ret
 exact ⟨by simp,rfl⟩
set_option maxHeartbeats 400000 in
theorem less_any (x y : Int) (w : World) : Calls Tryz.prog 203 #[.int .i64 x,.int .i64 y] w fun e w' => e = .returned (.bool (decide (x < y))) ∧ w' = w := by
 go_enter Tryz.func203,Tryz.ntmps203
 go_wp2_with (go_at_call 222;refine (nan1_any _ _).mono ?_;rintro e w' ⟨rfl,rfl⟩)
 go_ret
 exact ⟨rfl,rfl⟩
theorem put_at : ∀ {zs : List Int} {k : Nat} {x : Int},k ≤ zs.length → (∀ j,j < k → el zs j < x) → (∀ j,k ≤ j → j < zs.length → x < el zs j) → zs.take k ++ x :: zs.drop k = putL zs x
 | [],0,x,_,_,_ => rfl
 | [],k + 1,x,h,_,_ => by simp at h
 | z :: zs,0,x,_,_,h2 => by
  have := h2 0 (Nat.le_refl _) (by simp)
  simp only [el,List.getD_cons_zero] at this
  rw [putL,if_neg (by omega),if_neg (by omega)]
  rfl
 | z :: zs,k + 1,x,h,h1,h2 => by
  have e := h1 0 (by omega)
  simp only [el,List.getD_cons_zero] at e
  rw [putL,if_pos e,← put_at (zs := zs) (k := k) (x := x) (by simpa using h) (fun j hj => by have := h1 (j + 1) (by omega);simpa [el] using this) (fun j hj hl => by have := h2 (j + 1) (by omega) (by simpa using hl);simpa [el] using this)]
  rfl
set_option maxHeartbeats 4000000 in
set_option maxRecDepth 1000000 in
theorem bs_any (a : Option Addr) (cap : Nat) (zs : List Int) (x : Int) (w : World) (hv : Vec w a zs.length zs) (hm : zs.length ≤ 1000) (hs : zs.Pairwise (· < ·)) :
  Calls Tryz.prog 174 #[.slice a zs.length cap,.int .i64 x] w fun e w' => ∃ k : Nat,k ≤ zs.length ∧ e = .returned (.tuple #[.int .i64 (k : Int),.bool (decide (x ∈ zs))]) ∧ w' = w ∧ (x ∉ zs → zs.take k ++ x :: zs.drop k = putL zs x) := by
 have S : Hid (∀ a b,a < b → b < zs.length → el zs a < el zs b) := fun a b hab hb => by
  have := List.pairwise_iff_getElem.1 hs a b (by omega) hb hab
  simpa [el,hb,show a < zs.length by omega] using this
 have hc := hv.2.2
 clear hs hv
 have HP : Hid (∀ k,k ≤ zs.length → (∀ t,t < k → el zs t < x) → (∀ t,k ≤ t → t < zs.length → x ≤ el zs t) → (x ∉ zs → zs.take k ++ x :: zs.drop k = putL zs x) ∧ (k < zs.length → el zs k = x → x ∈ zs) ∧ ((k < zs.length → el zs k ≠ x) → x ∉ zs)) := fun k hk h1 h2 => by
  refine ⟨fun hx => put_at hk h1 (fun j hj hl => ?_),fun hk' e => ?_,fun hne hx => ?_⟩
  ·have := h2 j hj hl
   have hne : el zs j ≠ x := fun e => hx (e ▸ el_mem hl)
   omega
  ·exact e ▸ el_mem hk'
  ·obtain ⟨j,hj,e⟩ := List.mem_iff_getElem.1 hx
   have ej : el zs j = x := by simpa [el,hj] using e
   rcases Nat.lt_or_ge j k with h | h
   ·have := h1 j h;omega
   ·rcases Nat.eq_or_lt_of_le h with h | h
    ·subst h;exact hne hj ej
    ·have a1 := S.out k j h hj
     have a2 := h2 k (Nat.le_refl _) (by omega)
     omega
 have HT : Hid ((x ∈ zs → decide (x ∈ zs) = true) ∧ (x ∉ zs → decide (x ∈ zs) = false)) := ⟨decide_eq_true,decide_eq_false⟩
 generalize decide (x ∈ zs) = D at *
 go_enter Tryz.func174,Tryz.ntmps174
 go_wp2
 go_loopg [7,8] zs.length (fun g s7 s8 wr => ∃ lo hi : Nat,s7 = .int .i64 (lo : Int) ∧ s8 = .int .i64 (hi : Int) ∧ lo ≤ hi ∧ hi ≤ zs.length ∧ hi - lo ≤ g ∧ wr = w ∧ (∀ t,t < lo → el zs t < x) ∧ (∀ t,hi ≤ t → t < zs.length → x ≤ el zs t))
 case atStart => exact ⟨0,zs.length,rfl,rfl,Nat.zero_le _,Nat.le_refl _,by omega,rfl,fun t ht => absurd ht (Nat.not_lt_zero _),fun t h1 h2 => by omega⟩
 case round =>
  obtain ⟨lo,hi,rfl,rfl,hlh,hin,hg,rfl,h1,h2⟩ := hrel
  have I : Hid ((∀ t,t < lo → el zs t < x) ∧ (∀ t,hi ≤ t → t < zs.length → x ≤ el zs t)) := ⟨h1,h2⟩
  clear h1 h2
  by_cases hlt : lo < hi
  ·rcases hc with h0 | ⟨b,off,rfl,hc⟩
   ·omega
   have cm := hc ((lo + hi) / 2) (by omega)
   clear hc
   generalize hy : el zs ((lo + hi) / 2) = y at cm
   have Y : Hid (el zs ((lo + hi) / 2) = y) := hy
   clear hy
   by_cases hyx : y < x
   ·go_wp2_with (first | (go_at_call 203;refine (less_any _ _ _).mono ?_;rintro e w' ⟨rfl,rfl⟩) | (go_at_call 204;refine (nan2_any _ _).mono ?_;rintro e w' ⟨rfl,rfl⟩))
    go_roundg (hi - ((lo + hi) / 2 + 1))
    case measure => omega
    case rel =>
     refine ⟨(lo + hi) / 2 + 1,hi,by rw [show ((lo : Int) + (hi : Int)) / 2 + 1 = (((lo + hi) / 2 + 1 : Nat) : Int) by omega],rfl,by omega,hin,Nat.le_refl _,rfl,fun t ht => ?_,I.out.2⟩
     rcases Nat.lt_or_ge t ((lo + hi) / 2) with h | h
     ·have := S.out t ((lo + hi) / 2) h (by omega)
      rw [Y.out] at this
      omega
     ·rw [show t = (lo + hi) / 2 by omega,Y.out];exact hyx
   ·go_wp2_with (first | (go_at_call 203;refine (less_any _ _ _).mono ?_;rintro e w' ⟨rfl,rfl⟩) | (go_at_call 204;refine (nan2_any _ _).mono ?_;rintro e w' ⟨rfl,rfl⟩))
    go_roundg ((lo + hi) / 2 - lo)
    case measure => omega
    case rel =>
     refine ⟨lo,(lo + hi) / 2,rfl,by rw [show ((lo : Int) + (hi : Int)) / 2 = (((lo + hi) / 2 : Nat) : Int) by omega],by omega,by omega,Nat.le_refl _,rfl,I.out.1,fun t ht htn => ?_⟩
     rcases Nat.eq_or_lt_of_le ht with h | h
     ·rw [← h,Y.out];omega
     ·have := S.out ((lo + hi) / 2) t h htn
      rw [Y.out] at this
      omega
  ·have : hi = lo := by omega
   subst this
   obtain ⟨p1,p2,p3⟩ := HP.out hi hin I.out.1 I.out.2
   have E1 : Hid (x ∉ zs → zs.take hi ++ x :: zs.drop hi = putL zs x) := p1
   by_cases hn : hi < zs.length
   ·rcases hc with h0 | ⟨b,off,rfl,hc⟩
    ·omega
    have cl := hc hi hn
    by_cases hyx : el zs hi = x
    ·have E2 : Hid (D = true) := HT.out.1 (p2 hn hyx)
     rw [hyx] at cl
     clear hc hyx p1 p2 p3
     go_wp2_with (first | (go_at_call 203;refine (less_any _ _ _).mono ?_;rintro e w' ⟨rfl,rfl⟩) | (go_at_call 204;refine (nan2_any _ _).mono ?_;rintro e w' ⟨rfl,rfl⟩))
     go_ret2
     exact ⟨hi,hin,by rw [E2.out];first | rfl | simp,rfl,E1.out⟩
    ·have E2 : Hid (D = false) := HT.out.2 (p3 (fun _ => hyx))
     have hyx' : ((el zs hi) == x) = false := by simpa using hyx
     clear hc p1 p2 p3
     generalize el zs hi = y at *
     go_wp2_with (first | (go_at_call 203;refine (less_any _ _ _).mono ?_;rintro e w' ⟨rfl,rfl⟩) | (go_at_call 204;refine (nan2_any _ _).mono ?_;rintro e w' ⟨rfl,rfl⟩))
     go_ret2
     exact ⟨hi,hin,by rw [E2.out];first | rfl | simp [hyx],rfl,E1.out⟩
   ·have E2 : Hid (D = false) := HT.out.2 (p3 (fun h => absurd h hn))
    clear hc p1 p2 p3
    go_wp2_with (first | (go_at_call 203;refine (less_any _ _ _).mono ?_;rintro e w' ⟨rfl,rfl⟩) | (go_at_call 204;refine (nan2_any _ _).mono ?_;rintro e w' ⟨rfl,rfl⟩))
    go_ret2
    exact ⟨hi,hin,by rw [E2.out];first | rfl | simp,rfl,E1.out⟩
end Go.Proofs.YthioodpmgifomaaGreat
namespace Go.Proofs.YthioodpmgifomaaGreat
set_option linter.unusedVariables false
set_option linter.unusedSimpArgs false
open Go.RowKit Go.Sort
theorem wp_copy17 {P : Program} (w : World) {o : Oper} {a : Act} {K : Act → World → Prop} {Q : Exit → Act → World → Prop} (d s : Operand) (t t' : TypeId)
  (ho : o.op = .call { callee := .builtin .copy,args := #[d,s],argTypes := #[t,t'] }) (v u : Value) (hd : a.eval d = v) (hs : a.eval s = u) {v' : Value} {w' : World}
  (hr : (Builtin.copy_ #[t,t'] o.type #[v,u]).run P w = .ok v' w') (h : K (a.put o.dst v') w') : o.wp P a w K Q := by
 unfold Oper.wp execOp
 simp only [ho,resolve,invoke,builtin,Sem.run_bind,Sem.run_pure,Result.andThen_ok,List.map_toArray,List.map_cons,List.map_nil,hd,hs,hr]
 exact h
theorem wpList_copy17 {P : Program} (w : World) {ops : Array Oper} {rest : List Oper} {o : Oper} {a : Act} {Q : Exit → Act → World → Prop} (hgd : o.guard = none) (d s : Operand) (t t' : TypeId)
  (ho : o.op = .call { callee := .builtin .copy,args := #[d,s],argTypes := #[t,t'] }) (v u : Value) (hd : a.eval d = v) (hs : a.eval s = u) {v' : Value} {w' : World}
  (hr : (Builtin.copy_ #[t,t'] o.type #[v,u]).run P w = .ok v' w') (h : wpList P ops Q rest (a.put o.dst v') w') : wpList P ops Q (o :: rest) a w :=
 wpList_plain hgd fun _ hK => wp_copy17 w d s t t' ho v u hd hs hr (hK _ _ h)
theorem step_copy17 {P : Program} {ops : Array Oper} {o : Oper} {a : Act} {w : World} {K : Act → World → Prop} {Q : Exit → Act → World → Prop} {E : Prop}
  (hg : o.guard = none) (d x : Operand) (dT sT : TypeId) (hop : o.op = Op.call { callee := Callee.builtin Builtin.copy,args := #[d,x],argTypes := #[dT,sT] })
  (v u : Value) (hd : a.eval d = v) (hx : a.eval x = u) {v' : Value} {w' : World} (hr : (Builtin.copy_ #[dT,sT] o.type #[v,u]).run P w = .ok v' w') (hK : K (a.put o.dst v') w') :
  if Region.wanted o (yielded ops a.tmps) = true then Oper.wp P o a w K Q else E := by
 have hw : Region.wanted o (yielded ops a.tmps) = true := by simp [Region.wanted,hg]
 rw [if_pos hw]
 unfold Oper.wp
 simp [execOp,hop,resolve,invoke,builtin,hd,hx,hr,Result.andThen]
 exact hK
theorem some_set17 (b : Nat) (vs : List Value) (o : Nat) (w : World) (h : ∀ j,j < vs.length → (w.cell? ⟨b,o + j,none⟩).isSome = true) (k : Nat) (hk : (w.cell? ⟨b,k,none⟩).isSome = true) : ((w.setCells b o vs).cell? ⟨b,k,none⟩).isSome = true := by
 by_cases hin : o ≤ k ∧ k < o + vs.length
 ·have := World.cell?_setCells_in b vs o w h (k - o) (by omega)
  rw [show o + (k - o) = k by omega] at this
  rw [this];rfl
 ·rw [World.cell?_setCells_out b vs o w ⟨b,k,none⟩ (fun _ _ => by show k < o ∨ o + vs.length ≤ k;omega)]
  exact hk
theorem ins_get {α : Type} (cs : List α) (k : Nat) (x : α) (hk : k ≤ cs.length) (j : Nat) : (cs.take k ++ x :: cs.drop k)[j]? = if j < k then cs[j]? else if j = k then some x else cs[j - 1]? := by
 have hl : (cs.take k).length = k := by rw [List.length_take];omega
 by_cases h1 : j < k
 ·rw [if_pos h1,List.getElem?_append_left (by omega),List.getElem?_take,if_pos h1]
 ·rw [if_neg h1,List.getElem?_append_right (by omega),hl]
  by_cases h2 : j = k
  ·rw [if_pos h2,h2,Nat.sub_self];rfl
  ·rw [if_neg h2,show j - k = (j - k - 1) + 1 by omega,List.getElem?_cons_succ,List.getElem?_drop]
   congr 1
   omega
theorem ins_down (W : World) (N o k c : Nat) (cs : List Value) (x : Value) (hk : k ≤ cs.length) (h0 : ∀ j,j < k → W.cell? ⟨N,o + j,none⟩ = cs[j]?) (hs : ∀ j,j < c → (W.cell? ⟨N,o + j,none⟩).isSome = true) (hc : cs.length + 1 ≤ c) :
  (∀ j,j < cs.length + 1 → ((W.setCells N (o + (k + 1)) (cs.drop k)).setCells N (o + k) [x]).cell? ⟨N,o + j,none⟩ = (cs.take k ++ x :: cs.drop k)[j]?) ∧ ∀ j,j < c → (((W.setCells N (o + (k + 1)) (cs.drop k)).setCells N (o + k) [x]).cell? ⟨N,o + j,none⟩).isSome = true := by
 have hd : (cs.drop k).length = cs.length - k := List.length_drop
 have s1 : ∀ j,j < (cs.drop k).length → (W.cell? ⟨N,o + (k + 1) + j,none⟩).isSome = true := fun j hj => by rw [Nat.add_assoc];exact hs _ (by omega)
 have s2 : ∀ j,j < c → ((W.setCells N (o + (k + 1)) (cs.drop k)).cell? ⟨N,o + j,none⟩).isSome = true := fun j hj => some_set17 N _ _ W s1 _ (hs j hj)
 have s3 : ∀ j,j < [x].length → ((W.setCells N (o + (k + 1)) (cs.drop k)).cell? ⟨N,o + k + j,none⟩).isSome = true := fun j hj => by rw [Nat.add_assoc];exact s2 _ (by simp at hj;omega)
 refine ⟨fun j hj => ?_,fun j hj => some_set17 N _ _ _ s3 _ (s2 j hj)⟩
 rw [ins_get cs k x hk j]
 by_cases h2 : j = k
 ·subst h2
  rw [if_neg (by omega),if_pos rfl]
  have := World.cell?_setCells_in N [x] (o + j) _ s3 0 (by simp)
  exact this
 ·rw [World.cell?_setCells_out N [x] (o + k) _ ⟨N,o + j,none⟩ (fun _ _ => by show o + j < o + k ∨ o + k + [x].length ≤ o + j;simp;omega),if_neg h2]
  by_cases h1 : j < k
  ·rw [if_pos h1,World.cell?_setCells_out N _ _ W ⟨N,o + j,none⟩ (fun _ _ => by show o + j < o + (k + 1) ∨ _;omega)]
   exact h0 j h1
  ·rw [if_neg h1]
   have := World.cell?_setCells_in N (cs.drop k) (o + (k + 1)) W s1 (j - (k + 1)) (by omega)
   rw [show o + (k + 1) + (j - (k + 1)) = o + j by omega] at this
   rw [this,List.getElem_drop,List.getElem?_eq_getElem (by omega)]
   congr 2
   omega
theorem ins_up (W : World) (N o k c : Nat) (cs : List Value) (x : Value) (hk : k ≤ cs.length) (h0 : ∀ j,j < k → W.cell? ⟨N,o + j,none⟩ = cs[j]?) (hs : ∀ j,j < c → (W.cell? ⟨N,o + j,none⟩).isSome = true) (hc : cs.length + 1 ≤ c) :
  (∀ j,j < cs.length + 1 → ((W.setCells N (o + k) [x]).setCells N (o + (k + 1)) (cs.drop k)).cell? ⟨N,o + j,none⟩ = (cs.take k ++ x :: cs.drop k)[j]?) ∧ ∀ j,j < c → (((W.setCells N (o + k) [x]).setCells N (o + (k + 1)) (cs.drop k)).cell? ⟨N,o + j,none⟩).isSome = true := by
 have hd : (cs.drop k).length = cs.length - k := List.length_drop
 have s3 : ∀ j,j < [x].length → (W.cell? ⟨N,o + k + j,none⟩).isSome = true := fun j hj => by rw [Nat.add_assoc];exact hs _ (by simp at hj;omega)
 have s2 : ∀ j,j < c → ((W.setCells N (o + k) [x]).cell? ⟨N,o + j,none⟩).isSome = true := fun j hj => some_set17 N _ _ W s3 _ (hs j hj)
 have s1 : ∀ j,j < (cs.drop k).length → ((W.setCells N (o + k) [x]).cell? ⟨N,o + (k + 1) + j,none⟩).isSome = true := fun j hj => by rw [Nat.add_assoc];exact s2 _ (by omega)
 refine ⟨fun j hj => ?_,fun j hj => some_set17 N _ _ _ s1 _ (s2 j hj)⟩
 rw [ins_get cs k x hk j]
 by_cases h1 : j < k + 1
 ·rw [World.cell?_setCells_out N _ _ (W.setCells N (o + k) [x]) ⟨N,o + j,none⟩ (fun _ _ => by show o + j < o + (k + 1) ∨ _;omega)]
  by_cases h2 : j = k
  ·subst h2
   rw [if_neg (by omega),if_pos rfl]
   exact World.cell?_setCells_in N [x] (o + j) W s3 0 (by simp)
  ·rw [if_pos (by omega),World.cell?_setCells_out N [x] (o + k) W ⟨N,o + j,none⟩ (fun _ _ => by show o + j < o + k ∨ _;omega)]
   exact h0 j (by omega)
 ·rw [if_neg (by omega),if_neg (by omega)]
  have := World.cell?_setCells_in N (cs.drop k) (o + (k + 1)) (W.setCells N (o + k) [x]) s1 (j - (k + 1)) (by omega)
  rw [show o + (k + 1) + (j - (k + 1)) = o + j by omega] at this
  rw [this,List.getElem_drop,List.getElem?_eq_getElem (by omega)]
  congr 2
  omega
set_option maxHeartbeats 1600000 in
set_option maxRecDepth 100000 in
theorem insS_any (b off n c i vb : Nat) (cs : List Value) (x : Int) (w : World) (hi : i < n) (hroom : n + 1 ≤ c) (hc63 : c ≤ 9223372036854775807) (hvb : vb ≠ b) (hcl : cs.length = n)
  (hcs : ∀ j v,cs[j]? = some v → w.cell? ⟨b,off + j,none⟩ = some v) (hsp : ∀ j,j < n + 1 → (w.cell? ⟨b,off + j,none⟩).isSome = true) (hfz : ∀ j,j < n + 1 → w.frozen? ⟨b,off + j,none⟩ = false)
  (hvs : w.cell? ⟨vb,0,none⟩ = some (.int .i64 x)) (h1c : ∀ v ∈ cs,v.oneCell' = true) (tA tB : TypeId) (kA kB : Nat) (hsa : w.shape? vb = some (tA,kA)) (hsb : w.shape? b = some (tB,kB)) (hkB : kB ≠ 0) (hfa : w.frozen? ⟨vb,0,none⟩ = false) (hfe : w.frozen? ⟨vb,kA,none⟩ = false) :
  Calls Tryz.prog 175 #[.slice (some ⟨b,off,none⟩) n c,.int .i64 (i : Int),.slice (some ⟨vb,0,none⟩) 1 1] w fun e w' =>
   e = .returned (.slice (some ⟨b,off,none⟩) (n + 1) c) ∧ w' = (w.drew.setCells b (off + (i + 1)) (cs.drop i)).setCells b (off + i) [.int .i64 x] := by
 have mixed := mixed17
 have hz2 : ¬ ((i : Int) = (n : Int)) := by omega
 obtain ⟨i0,hi0,hz0,hz1,hzb⟩ := info_parts2n Tryz.info2n
 have hsz : (Tryz.prog.info? 2).map (·.size) = some 1 := by rw [hi0];simp [hz1]
 have hov : ∀ lb cb,(callFunc 205 #[.slice (some ⟨vb,0,none⟩) 1 1,.slice (some ⟨b,off + (i + 1),none⟩) lb cb]).run Tryz.prog w = .ok (.value (.bool false)) w := fun lb cb => by
  rw [run_callFunc_extern Tryz.func205 (by kernel_rfl) (by kernel_rfl) (by kernel_rfl) (e := Extern.SlicesOverlaps.overlaps #[25,25] #[4]) (by kernel_rfl),
   Lib.run_overlaps_apart w 25 4 2 Tryz.underlying25 1 Tryz.sizeOf2 ⟨vb,0,none⟩ ⟨b,off + (i + 1),none⟩ 1 1 lb cb hvb tA tB kA kB hsa hsb hkB hfa hfe]
  rfl
 have hdl : (cs.drop i).length = n - i := by rw [List.length_drop,hcl]
 have hw1 : IntKind.i64.wrap ((i : Int) + 1) = (i : Int) + 1 := by rw [IntKind.wrap_i64];omega
 have hb1 : (0 : Int) ≤ (i : Int) + 1 := by omega
 have hin : i ≤ n := by omega
 have htn : ((i : Int) + 1).toNat = i + 1 := by omega
 have hb2 : ¬ (c = i + 1) := by omega
 have hb3 : (i : Int) ≤ (n : Int) + 1 := by omega
 have hb4 : ¬ (c = i) := by omega
 have hcp1 : ∀ dl sl ty dc sc,dl = n - i → sl = n + 1 - i → (Builtin.copy_ #[25,25] ty #[.slice (some ⟨b,off + (i + 1),none⟩) dl dc,.slice (some ⟨b,off + i,none⟩) sl sc]).run Tryz.prog w.drew = .ok (goInt (cs.drop i).length) (w.drew.setCells b (off + (i + 1)) (cs.drop i)) := fun dl sl ty dc sc e1 e2 =>
  run_copy_cells w.drew _ _ ty 2 b (off + (i + 1)) dl dc ⟨b,off + i,none⟩ sl sc (cs.drop i) Tryz.underlying25 hsz (by rw [hdl];simp only [Nat.min_def];split <;> omega)
   (fun j v hj => by rw [Addr.add_lit,Nat.add_assoc];exact hcs (i + j) v (by rwa [List.getElem?_drop] at hj))
   (fun j hj => by rw [Nat.add_assoc];exact hsp _ (by omega)) (fun j hj => by rw [Nat.add_assoc];exact hfz _ (by omega)) (fun v hv => h1c v (List.mem_of_mem_drop hv))
 obtain ⟨W1,hW1⟩ : ∃ W1,W1 = w.drew.setCells b (off + (i + 1)) (cs.drop i) := ⟨_,rfl⟩
 have hsp1 : ∀ k,k < n + 1 → (W1.cell? ⟨b,off + k,none⟩).isSome = true := fun k hk => by
  rw [hW1]
  exact some_set17 b _ _ _ (fun j hj => by rw [Nat.add_assoc];exact hsp _ (by omega)) _ (hsp k hk)
 have hcp2 : ∀ (W : World),(∀ x,W.cell? x = W1.cell? x) → (∀ x,W.frozen? x = W1.frozen? x) → ∀ dl ty dc,dl = n + 1 - i → (Builtin.copy_ #[25,25] ty #[.slice (some ⟨b,off + i,none⟩) dl dc,.slice (some ⟨vb,0,none⟩) 1 1]).run Tryz.prog W = .ok (goInt [Value.int .i64 x].length) (W.setCells b (off + i) [.int .i64 x]) := fun W hWc hWf dl ty dc e1 =>
  run_copy_cells W _ _ ty 2 b (off + i) dl dc ⟨vb,0,none⟩ 1 1 [.int .i64 x] Tryz.underlying25 hsz (by simp only [Nat.min_def,List.length_cons,List.length_nil];split <;> omega)
   (fun j v hj => by
    rw [Addr.add_lit,hWc,hW1,World.cell?_setCells_out b _ _ _ _ (fun h _ => absurd h hvb)]
    match j,hj with
    | 0,hj => simp at hj;rw [← hj];exact hvs)
   (fun j hj => by rw [hWc,Nat.add_assoc];exact hsp1 _ (by simp at hj;omega)) (fun j hj => by rw [hWf,hW1,World.frozen?_setCells,Nat.add_assoc];exact hfz _ (by simp at hj;omega)) (by intro v hv;simp at hv;rw [hv];rfl)
 rw [← hW1] at hcp1
 clear hcs hsp hfz hvs h1c hsp1 hsa hsb hkB hfa hfe hi0 hz0 hz1 hzb hsz
 go_enter Tryz.func175,Tryz.ntmps175
 go_wp2_with (simp only [hov])
 go_region_law_o (refine step_copy17 rfl _ _ 25 25 rfl _ _ (by simp [Act.eval,Act.put]) (by simp [Act.eval,Act.put]) (hcp1 _ _ _ _ _ (by omega) (by omega)) ?_)
 go_wp2_with (at_builtin;refine wpList_copy17 _ rfl _ _ 25 25 rfl _ _ rfl rfl (hcp2 _ (fun _ => rfl) (fun _ => rfl) _ _ _ (by omega)) ?_)
 go_ret
 first | exact ⟨rfl,rfl⟩ | exact ⟨rfl,by rw [hW1]⟩
end Go.Proofs.YthioodpmgifomaaGreat
namespace Go.Proofs.YthioodpmgifomaaGreat
set_option linter.unusedVariables false
set_option linter.unusedSimpArgs false
open Go.RowKit Go.Sort
set_option maxHeartbeats 1600000 in
set_option maxRecDepth 100000 in
theorem insG_any (b off n c i vb : Nat) (cs : List Value) (x : Int) (w : World) (hi : i < n) (hnc : n ≤ c) (hroom : c < n + 1) (hbig : (n + 1) * 8 ≤ 140737488355328) (hcl : cs.length = n)
  (hcs : ∀ j v,cs[j]? = some v → w.cell? ⟨b,off + j,none⟩ = some v) (hvs : w.cell? ⟨vb,0,none⟩ = some (.int .i64 x)) (h1c : ∀ v ∈ cs,v.oneCell' = true) :
  Calls Tryz.prog 175 #[.slice (some ⟨b,off,none⟩) n c,.int .i64 (i : Int),.slice (some ⟨vb,0,none⟩) 1 1] w fun e w' =>
   e = .returned (.slice (some ⟨w.heap.size,0,none⟩) (n + 1) (grownCap w (n + 1) c 2)) ∧
   w' = (((w.alloc (.cells ((cs.take i).toArray ++ Builtin.zeroCells (Value.int .i64 0).cells (n + 1 - i) ++ Builtin.zeroCells (Value.int .i64 0).cells (grownCap w (n + 1) c 2 - (n + 1))) 2)).drew.setCells w.heap.size i [.int .i64 x]).drew).setCells w.heap.size (i + 1) (cs.drop i) := by
 have mixed := mixed17
 obtain ⟨i0,hi0,hz0,hzs,hzb⟩ := info_parts2n Tryz.info2n
 have hz2 : ¬ ((i : Int) = (n : Int)) := by omega
 have hz3 : (c : Int) < (n : Int) + 1 := by omega
 have hsz : (Tryz.prog.info? 2).map (·.size) = some 1 := by rw [hi0];simp [hzs]
 have hbw : b < w.heap.size := World.block_lt_of_cell? _ _ (hcs 0 _ (List.getElem?_eq_getElem (by omega)))
 have hvw : vb < w.heap.size := World.block_lt_of_cell? _ _ hvs
 have hkk : (n : Int) + 1 - (i : Int) = ((n + 1 - i : Nat) : Int) := by omega
 have hik : i + (n + 1 - i) = n + 1 := by omega
 have hold : (Builtin.firstCells i0.size i (.slice (some ⟨b,off,none⟩) i c)).run Tryz.prog w.drew = .ok (cs.take i).toArray w.drew := by
  rw [hzs]
  exact run_firstCells_some w.drew 1 i ⟨b,off,none⟩ i c (cs.take i) (by rw [List.length_take];omega) (fun j v hj => by
   rw [Addr.add_lit]
   rw [List.getElem?_take] at hj
   split at hj
   ·exact hcs j v hj
   ·cases hj)
 have hrz : ∀ ty,(Builtin.append_ #[25,3] ty #[.slice (some ⟨b,off,none⟩) i c,.int .i64 ((n : Int) + 1 - (i : Int))]).run Tryz.prog w =
   .ok (.slice (some ⟨w.heap.size,0,none⟩) (n + 1) (grownCap w (n + 1) c 2)) (w.drew.alloc (.cells ((cs.take i).toArray ++ Builtin.zeroCells (Value.int .i64 0).cells (n + 1 - i) ++ Builtin.zeroCells (Value.int .i64 0).cells (grownCap w (n + 1) c 2 - (n + 1))) 2)) := fun ty => by
  have h := Lib.run_append_grow_zeros w 25 3 ty 2 i0 _ .i64 .i64 Tryz.underlying25 Tryz.underlying3 hi0 hz0 (some ⟨b,off,none⟩) i c (cs.take i) hold (n + 1 - i) (by omega) (by omega) (by omega) (by omega) (by rw [hzb];omega) (by rw [hzb,hik];exact growslice_fits hroom hbig)
  rw [hik] at h
  rw [hkk]
  exact h
 obtain ⟨G,hG⟩ : ∃ G,G = grownCap w (n + 1) c 2 := ⟨_,rfl⟩
 obtain ⟨ROW,hROW⟩ : ∃ ROW : Array Value,ROW = (cs.take i).toArray ++ Builtin.zeroCells (Value.int .i64 0).cells (n + 1 - i) ++ Builtin.zeroCells (Value.int .i64 0).cells (G - (n + 1)) := ⟨_,rfl⟩
 rw [← hG] at hrz ⊢
 rw [← hROW] at hrz ⊢
 have hRl : n + 1 ≤ ROW.size := by
  rw [hROW]
  simp [Builtin.zeroCells,Value.cells]
  omega
 obtain ⟨W1,hW1⟩ : ∃ W1,W1 = w.drew.alloc (.cells ROW 2) := ⟨_,rfl⟩
 rw [← hW1] at hrz
 have hN : ∀ j,j < n + 1 → (W1.cell? ⟨w.heap.size,j,none⟩).isSome = true := fun j hj => by
  rw [hW1,World.cell?_alloc_at (w := w.drew) ROW _ w.heap.size j rfl,Array.getElem?_eq_getElem (by omega)];rfl
 have hNf : ∀ j,W1.frozen? ⟨w.heap.size,j,none⟩ = false := fun j => by rw [hW1];exact World.frozen?_alloc_at (w := w.drew) ROW _ w.heap.size j rfl
 have hOb : ∀ j v,w.cell? ⟨b,j,none⟩ = some v → W1.cell? ⟨b,j,none⟩ = some v := fun j v h => by rw [hW1,World.cell?_alloc_past (w := w.drew) _ b j hbw];exact h
 have hOv : ∀ j v,w.cell? ⟨vb,j,none⟩ = some v → W1.cell? ⟨vb,j,none⟩ = some v := fun j v h => by rw [hW1,World.cell?_alloc_past (w := w.drew) _ vb j hvw];exact h
 have hcpA : ∀ (W : World),(∀ x,W.cell? x = W1.cell? x) → (∀ x,W.frozen? x = W1.frozen? x) → ∀ dl ty dc,dl = n + 1 - i → (Builtin.copy_ #[25,25] ty #[.slice (some ⟨w.heap.size,i,none⟩) dl dc,.slice (some ⟨vb,0,none⟩) 1 1]).run Tryz.prog W = .ok (goInt [Value.int .i64 x].length) (W.setCells w.heap.size i [.int .i64 x]) := fun W hWc hWf dl ty dc e1 =>
  run_copy_cells W _ _ ty 2 w.heap.size i dl dc ⟨vb,0,none⟩ 1 1 [.int .i64 x] Tryz.underlying25 hsz (by simp only [Nat.min_def,List.length_cons,List.length_nil];split <;> omega)
   (fun j v hj => by
    rw [Addr.add_lit,hWc]
    match j,hj with
    | 0,hj => simp at hj;rw [← hj];exact hOv _ _ hvs)
   (fun j hj => by rw [hWc];exact hN _ (by simp at hj;omega)) (fun j hj => by rw [hWf];exact hNf _) (by intro v hv;simp at hv;rw [hv];rfl)
 have hGn : n + 1 ≤ G := by rw [hG];exact grownCap_ge w _ _ _
 have hG63 : G ≤ 9223372036854775807 := by
  have := grownCap_le_maxLen w (n + 1) c 2 (by unfold maxLen;omega)
  rw [← hG] at this
  unfold maxLen at this
  omega
 have hGi : ¬ (G = i) := by omega
 have hGim : ¬ (G = i + 1) := by omega
 have hci : ¬ (c = i) := by omega
 have hbN : b ≠ w.heap.size := by omega
 have hdl : (cs.drop i).length = n - i := by rw [List.length_drop,hcl]
 have hcpB : ∀ (W : World),(∀ y,W.cell? y = (W1.setCells w.heap.size i [.int .i64 x]).cell? y) → (∀ y,W.frozen? y = (W1.setCells w.heap.size i [.int .i64 x]).frozen? y) → ∀ dl sl ty dc sc,dl = n - i → sl = n - i → (Builtin.copy_ #[25,25] ty #[.slice (some ⟨w.heap.size,i + 1,none⟩) dl dc,.slice (some ⟨b,off + i,none⟩) sl sc]).run Tryz.prog W = .ok (goInt (cs.drop i).length) (W.setCells w.heap.size (i + 1) (cs.drop i)) := fun W hWc hWf dl sl ty dc sc e1 e2 =>
  run_copy_cells W _ _ ty 2 w.heap.size (i + 1) dl dc ⟨b,off + i,none⟩ sl sc (cs.drop i) Tryz.underlying25 hsz (by rw [hdl];simp only [Nat.min_def];split <;> omega)
   (fun j v hj => by
    rw [Addr.add_lit,hWc,World.cell?_setCells_out _ _ _ _ _ (fun h _ => absurd h hbN),Nat.add_assoc]
    exact hOb _ v (hcs (i + j) v (by rwa [List.getElem?_drop] at hj)))
   (fun j hj => by rw [hWc];exact some_set17 _ _ _ _ (fun t ht => hN _ (by simp at ht;omega)) _ (hN _ (by omega)))
   (fun j hj => by rw [hWf,World.frozen?_setCells];exact hNf _) (fun v hv => h1c v (List.mem_of_mem_drop hv))
 subst hW1
 have hE1 : ∀ x,((w.alloc (.cells ROW 2)).drew).cell? x = (w.drew.alloc (.cells ROW 2)).cell? x := fun x => rfl
 have hE2 : ∀ x,((w.alloc (.cells ROW 2)).drew).frozen? x = (w.drew.alloc (.cells ROW 2)).frozen? x := fun x => rfl
 have hF1 : ∀ y,(((w.alloc (.cells ROW 2)).drew.setCells w.heap.size i [.int .i64 x]).drew).cell? y = ((w.drew.alloc (.cells ROW 2)).setCells w.heap.size i [.int .i64 x]).cell? y := fun y => rfl
 have hF2 : ∀ y,(((w.alloc (.cells ROW 2)).drew.setCells w.heap.size i [.int .i64 x]).drew).frozen? y = ((w.drew.alloc (.cells ROW 2)).setCells w.heap.size i [.int .i64 x]).frozen? y := fun y => rfl
 have hw1 : IntKind.i64.wrap ((i : Int) + 1) = (i : Int) + 1 := by rw [IntKind.wrap_i64];omega
 have hb1 : (0 : Int) ≤ (i : Int) + 1 := by omega
 have hin : i ≤ n := by omega
 have htn : ((i : Int) + 1).toNat = i + 1 := by omega
 have hb3 : (i : Int) ≤ (n : Int) := by omega
 clear hkk hik hold hROW hG hRl hcs hvs h1c hN hNf hOb hOv hsz hi0 hz0 hzs hzb
 go_enter Tryz.func175,Tryz.ntmps175
 go_wp2_with (first
  | (at_builtin;refine Lib.wpList_append_run _ rfl _ _ _ _ rfl _ _ rfl rfl _ _ (hrz _) ?_)
  | (at_builtin;refine wpList_copy17 _ rfl _ _ 25 25 rfl _ _ rfl rfl (hcpA _ hE1 hE2 _ _ _ (by omega)) ?_))
 go_region_law_o (refine step_copy17 rfl _ _ 25 25 rfl (.slice (some ⟨w.heap.size,i + 1,none⟩) (n - i) (G - (i + 1))) (.slice (some ⟨b,off + i,none⟩) (n - i) (c - i)) (by simp [Act.eval,Act.put]) (by simp [Act.eval,Act.put]) (hcpB _ hF1 hF2 (n - i) (n - i) 3 (G - (i + 1)) (c - i) rfl rfl) ?_)
 go_wp2
 go_ret
 exact ⟨rfl,rfl⟩
end Go.Proofs.YthioodpmgifomaaGreat
namespace Go.Proofs.YthioodpmgifomaaGreat
set_option linter.unusedVariables false
set_option linter.unusedSimpArgs false
open Go.RowKit Go.Sort
theorem shape_of {w : World} {b j : Nat} {v : Value} (h : w.cell? ⟨b,j,none⟩ = some v) : ∃ t k,w.shape? b = some (t,k) ∧ k ≠ 0 := by
 unfold World.cell? at h
 unfold World.shape?
 split at h
 ·rename_i c t fz hb
  refine ⟨t,c.size,by rw [hb],fun e => ?_⟩
  simp only [Option.isSome_none,Bool.false_eq_true,if_false] at h
  rw [Array.getElem?_eq_none (by omega)] at h
  cases h
 ·cases h
theorem map_ins (T : List Int) (k : Nat) (x : Int) : (T.take k ++ x :: T.drop k).map (Value.int .i64) = (T.map (Value.int .i64)).take k ++ .int .i64 x :: (T.map (Value.int .i64)).drop k := by simp [List.map_take,List.map_drop]
theorem len_ins (T : List Int) (k : Nat) (x : Int) (hk : k ≤ T.length) : (T.take k ++ x :: T.drop k).length = T.length + 1 := by simp;omega
theorem drew_set17 (b : Nat) : ∀ (vs : List Value) (o : Nat) (w : World),(w.setCells b o vs).drew = w.drew.setCells b o vs
 | [],_,_ => rfl
 | v :: r,o,w => by rw [World.setCells,World.setCells,drew_set17 b r];rfl
def InsR (w : World) (f : Fp) (n : Nat) (Tx : List Int) (e : Ending) (w' : World) : Prop := ∃ a' c' f',e = .returned (.slice a' (n + 1) c') ∧ Cel.ow w' (icl Tx) (.slice a' (n + 1) c') f' ∧ (∀ b,f' b → f b ∨ w.heap.size ≤ b) ∧ Wrt f w w'
set_option maxHeartbeats 1600000 in
set_option maxRecDepth 100000 in
theorem ins_any (a : Option Addr) (c k : Nat) (T : List Int) (x : Int) (f : Fp) (w : World) (h : Cel.ow w (icl T) (.slice a T.length c) f) (hk : k ≤ T.length) (hm : T.length ≤ 100) :
  Calls Tryz.prog 175 #[.slice a T.length c,.int .i64 (k : Int),.slice (some ⟨w.heap.size,0,none⟩) 1 1] (w.alloc (.cells #[.int .i64 x] 2)) fun e w' => InsR w f T.length (T.take k ++ x :: T.drop k) e w' := by
 have h' := h
 obtain ⟨a1,c1,G,e,ho,hf⟩ := ow_icl.1 h'
 cases e
 have hba := oneA16 w (.cells #[.int .i64 x] 2)
 have hxv := Bx.new w 2 #[.int .i64 x]
 by_cases hkl : k = T.length
 ·obtain ⟨a2,c2,e2,hA⟩ := ow_int_app x h (Nat.le_trans hm (by decide))
  cases e2
  have hle := ho.le
  have hT : T.take k ++ x :: T.drop k = T ++ [x] := by rw [hkl,List.take_length,List.drop_length]
  rw [hT]
  subst hkl
  have hpl := ho.plain
  have hcm : c ≤ 9223372036854775807 := by have := hle.2;unfold maxLen at this;omega
  clear h h' ho hf hxv hba hT
  generalize T ++ [x] = Tx at *
  generalize T.length = n at *
  generalize hWv : w.alloc (.cells #[.int .i64 x] 2) = Wv at *
  cases a with
  | none =>
   go_enter Tryz.func175,Tryz.ntmps175
   go_wp2_with (at_builtin;refine wpList_append_of (by rfl) _ _ _ _ (by rfl) _ _ (by rfl) (by rfl) hA ⟨rfl,rfl,rfl,rfl⟩ ?_;rintro v1 w1 ⟨a1,e1,f1,rfl,q1,q2,q3⟩;have HQ : Hid (Cel.ow w1 (icl Tx) (.slice a1 (n + 1) e1) f1 ∧ (∀ b,f1 b → f b ∨ w.heap.size ≤ b) ∧ Wrt f w w1) := ⟨q1,q2,q3⟩;clear q1 q2 q3 hA)
   go_ret
   exact ⟨a1,e1,f1,rfl,HQ.out⟩
  | some ad =>
   go_enter Tryz.func175,Tryz.ntmps175
   go_wp2_with (at_builtin;refine wpList_append_of (by rfl) _ _ _ _ (by rfl) _ _ (by rfl) (by rfl) hA ⟨rfl,rfl,rfl,rfl⟩ ?_;rintro v1 w1 ⟨a1,e1,f1,rfl,q1,q2,q3⟩;have HQ : Hid (Cel.ow w1 (icl Tx) (.slice a1 (n + 1) e1) f1 ∧ (∀ b,f1 b → f b ∨ w.heap.size ≤ b) ∧ Wrt f w w1) := ⟨q1,q2,q3⟩;clear q1 q2 q3 hA)
   all_goals (go_ret;exact ⟨a1,e1,f1,rfl,HQ.out⟩)
 have hklt : k < T.length := by omega
 rcases ho with ⟨h0,_⟩ | ⟨g,off,rfl,ho,rfl⟩
 ·omega
 have hcl : (T.map (Value.int .i64)).length = T.length := List.length_map _
 have hgl := ho.blk
 have e1 : (w.alloc (.cells #[.int .i64 x] 2)).heap[g]? = w.heap[g]? := hba.block g hgl
 have ho1 : OSl (w.alloc (.cells #[.int .i64 x] 2)) 1 g off T.length c (T.map (Value.int .i64)) := ho.of_block e1 (Nat.lt_of_lt_of_le hgl hba.size)
 have hcs : ∀ j v,(T.map (Value.int .i64))[j]? = some v → (w.alloc (.cells #[.int .i64 x] 2)).cell? ⟨g,off + j,none⟩ = some v := fun j v hj => by
  have hjl : j < T.length := by
   rcases Nat.lt_or_ge j T.length with h | h
   ·exact h
   ·rw [List.getElem?_eq_none (by omega)] at hj;cases hj
  rw [ho1.cell j (by omega)];exact hj
 have h1c : ∀ v ∈ T.map (Value.int .i64),v.oneCell' = true := fun v hv => by
  obtain ⟨y,_,rfl⟩ := List.mem_map.1 hv
  rfl
 have hvs := hxv.at 0 (v := .int .i64 x) rfl
 have hle := ho.le
 have hmx := ho.max
 have hne : w.heap.size ≠ g := by omega
 have hfg : ∀ b,f b ↔ b = g := fun b => (hf b).trans ⟨fun h => by cases h;rfl,fun h => by rw [h]⟩
 have hli := len_ins T k x hk
 by_cases hroom : T.length + 1 ≤ c
 ·obtain ⟨tB,kB,hsb,hkB⟩ := shape_of (hcs 0 _ (List.getElem?_eq_getElem (by omega)))
  have hsa : (w.alloc (.cells #[.int .i64 x] 2)).shape? w.heap.size = some (2,1) := by unfold World.shape?;rw [show (w.alloc (.cells #[.int .i64 x] 2)).heap[w.heap.size]? = _ from hxv];rfl
  refine (insS_any g off T.length c k w.heap.size (T.map (Value.int .i64)) x _ hklt hroom (by unfold maxLen at hmx;omega) hne hcl hcs (fun j hj => ho1.some j (by omega)) (fun j hj => ho1.free j (by omega)) hvs h1c 2 tB 1 kB hsa hsb hkB (hxv.f 0) (hxv.f 1)).mono ?_
  rintro e w' ⟨rfl,rfl⟩
  obtain ⟨k1,k2⟩ := ins_down (w.alloc (.cells #[.int .i64 x] 2)).drew g off k c (T.map (Value.int .i64)) (.int .i64 x) (by omega) (fun j hj => ho1.cell j (by omega)) (fun j hj => ho1.some j (by omega)) (by omega)
  have hW : Wrt (fun b => b = g) (w.alloc (.cells #[.int .i64 x] 2)).drew (((w.alloc (.cells #[.int .i64 x] 2)).drew.setCells g (off + (k + 1)) ((T.map (Value.int .i64)).drop k)).setCells g (off + k) [.int .i64 x]) := (Wrt.setCells g _ _ _).trans (Wrt.setCells g _ _ _) (fun _ _ h => h)
  have hbd : Below w.heap.size w (w.alloc (.cells #[.int .i64 x] 2)).drew := hba.trans ((Same.drewN _ 1).below.mono hba.size)
  refine ⟨some ⟨g,off,none⟩,c,f,rfl, ?_,fun b hb => .inl hb,((Wrt.of_below hbd).trans hW (fun b _ hb => (hfg b).2 hb))⟩
  rw [← hli]
  refine ow_icl.2 ⟨some ⟨g,off,none⟩,c,some g,rfl,.inr ⟨g,off,rfl, ?_,rfl⟩,hf⟩
  rw [hli]
  refine ⟨by rw [List.length_map,hli];omega,hroom,hmx,Nat.lt_of_lt_of_le (Nat.lt_of_lt_of_le hgl hbd.size) hW.size,fun j hj => ?_,fun j hj => k2 j (by omega),fun j hj => ?_⟩
  ·rw [map_ins];exact k1 j (by omega)
  ·rw [frz_setCells,frz_setCells];exact ho1.free j (by omega)
 ·refine (insG_any g off T.length c k w.heap.size (T.map (Value.int .i64)) x _ hklt hle (by omega) (by omega) hcl hcs hvs h1c).mono ?_
  rintro e w' ⟨rfl,rfl⟩
  have hGn : T.length + 1 ≤ grownCap (w.alloc (.cells #[.int .i64 x] 2)) (T.length + 1) c 2 := grownCap_ge _ _ _ _
  have hGm : grownCap (w.alloc (.cells #[.int .i64 x] 2)) (T.length + 1) c 2 ≤ maxLen := grownCap_le_maxLen _ _ _ _ (by unfold maxLen;omega)
  generalize grownCap (w.alloc (.cells #[.int .i64 x] 2)) (T.length + 1) c 2 = GG at *
  generalize hWv : w.alloc (.cells #[.int .i64 x] 2) = Wv at *
  generalize hROW : ((T.map (Value.int .i64)).take k).toArray ++ Builtin.zeroCells (Value.int .i64 0).cells (T.length + 1 - k) ++ Builtin.zeroCells (Value.int .i64 0).cells (GG - (T.length + 1)) = ROW at *
  have hRs : ROW.size = GG := by
   rw [← hROW]
   simp [Builtin.zeroCells,Value.cells]
   omega
  have hR0 : ∀ j,j < k → ROW[j]? = (T.map (Value.int .i64))[j]? := fun j hj => by
   rw [← hROW,Array.getElem?_append_left (by simp [Builtin.zeroCells,Value.cells];omega),Array.getElem?_append_left (by simp;omega)]
   simp [List.getElem?_take,hj]
  have hxN : Bx (Wv.alloc (.cells ROW 2)).drew Wv.heap.size 2 ROW := Bx.new Wv 2 ROW
  obtain ⟨k1,k2⟩ := ins_up (Wv.alloc (.cells ROW 2)).drew Wv.heap.size 0 k GG (T.map (Value.int .i64)) (.int .i64 x) (by omega) (fun j hj => by rw [Nat.zero_add,hxN.cell j];exact hR0 j hj) (fun j hj => by rw [Nat.zero_add,hxN.cell j,Array.getElem?_eq_getElem (by omega)];rfl) (by omega)
  simp only [Nat.zero_add] at k1 k2
  have hW : Wrt (fun b => b = Wv.heap.size) (Wv.alloc (.cells ROW 2)).drew ((((Wv.alloc (.cells ROW 2)).drew.setCells Wv.heap.size k [.int .i64 x]).drew).setCells Wv.heap.size (k + 1) ((T.map (Value.int .i64)).drop k)) := ((Wrt.setCells _ _ _ _).trans (Wrt.of_below (Same.drewN _ 1).below) (fun _ _ h => h)).trans (Wrt.setCells _ _ _ _) (fun _ _ h => h)
  have hb2 : Below Wv.heap.size Wv (Wv.alloc (.cells ROW 2)).drew := (oneA16 Wv _).trans ((Same.drewN _ 1).below.mono (oneA16 Wv _).size)
  have hbd : Below w.heap.size w (Wv.alloc (.cells ROW 2)).drew := hba.trans (hb2.mono hba.size)
  have hB9 := hW.below hbd hbd.size (fun b hb => by rw [hb];exact hba.size)
  refine ⟨some ⟨Wv.heap.size,0,none⟩,GG,fun b => b = Wv.heap.size,rfl, ?_,fun b hb => .inr (by rw [hb];exact hba.size),Wrt.of_below hB9⟩
  rw [← hli]
  refine ow_icl.2 ⟨some ⟨Wv.heap.size,0,none⟩,GG,some Wv.heap.size,rfl,.inr ⟨Wv.heap.size,0,rfl, ?_,rfl⟩,fun b => ⟨fun h => by rw [h],fun h => by cases h;rfl⟩⟩
  rw [hli]
  refine ⟨by rw [List.length_map,hli];omega,hGn,hGm,Nat.lt_of_lt_of_le hxN.lt hW.size,fun j hj => ?_,fun j hj => ?_,fun j hj => ?_⟩
  ·rw [map_ins,Nat.zero_add,← drew_set17];exact k1 j (by omega)
  ·rw [Nat.zero_add,← drew_set17];exact k2 j (by omega)
  ·rw [frz_setCells]
   show (((Wv.alloc (.cells ROW 2)).drew.setCells Wv.heap.size k [.int .i64 x]).frozen? _) = false
   rw [frz_setCells]
   exact hxN.f _
end Go.Proofs.YthioodpmgifomaaGreat
namespace Go.Proofs.YthioodpmgifomaaGreat
set_option linter.unusedVariables false
set_option linter.unusedSimpArgs false
open Go.RowKit Go.Sort
def mb4 (m : Mb) : List Cel := [.v (.int .i64 m.id),lcl 8 rw8 m.rows,icl m.sung,.v (.bool m.done)]
def C4 (w : World) (B : Nat) (x0 x1 x2 x3 : Value) : Prop := w.cell? ⟨B,0,none⟩ = some x0 ∧ w.cell? ⟨B,1,none⟩ = some x1 ∧ w.cell? ⟨B,2,none⟩ = some x2 ∧ w.cell? ⟨B,3,none⟩ = some x3
structure Iw (w X : World) (B : Nat) (m : Mb) (fp : Fp) (g off c : Nat) : Prop where
 bcm : Bcm w X B 0 (mb4 m) fp
 rws : X.cell? ⟨B,1,none⟩ = some (.slice (some ⟨g,off,none⟩) m.rows.length c)
theorem Iw.start {w : World} {B : Nat} {m : Mb} {fp : Fp} (h : Plc w B 0 (mb4 m) fp) (hn : 0 < m.rows.length) : ∃ g off c,Iw w w B m fp g off c := by
 obtain ⟨g,off,c,f,h1,_⟩ := h.el (F := rw8) rw8_len (by omega) (j := 1) (L := m.rows) rfl (rowN_at hn)
 exact ⟨g,off,c,Bcm.refl h,h1⟩
theorem Iw.step {w X X' : World} {B : Nat} {m : Mb} {fp : Fp} {g off c : Nat} (h : Iw w X B m fp g off c) (hb : Below X.heap.size X X') : Iw w X' B m fp g off c := ⟨h.bcm.below hb,(hb.cell (World.block_lt_of_cell? _ _ h.rws)).trans h.rws⟩
theorem Iw.box {w X : World} {B : Nat} {m : Mb} {fp : Fp} {g off c : Nat} (h : Iw w X B m fp g off c) (hf : FitM m) : ∃ sa sc,C4 X B (.int .i64 m.id) (.slice (some ⟨g,off,none⟩) m.rows.length c) (.slice sa m.sung.length sc) (.bool m.done) ∧ MbS X ⟨some ⟨g,off,none⟩,c,sa,sc⟩ m := by
 obtain ⟨fp1,hp,_⟩ := h.bcm.next
 have hv := hp.pv
 obtain ⟨u0,c0,rfl⟩ := hv.at (j := 0) rfl
 obtain ⟨u2,c2,v2⟩ := hv.at (j := 1) rfl
 obtain ⟨u3,c3,v3⟩ := hv.at (j := 2) rfl
 obtain ⟨u4,c4,rfl⟩ := hv.at (j := 3) rfl
 have e2 : u2 = .slice (some ⟨g,off,none⟩) m.rows.length c := Option.some.inj (c2.symm.trans h.rws)
 subst e2
 obtain ⟨sa,sc,rfl,s1,s2,s3⟩ := vw_icl v3 hf.2
 have k := v2
 obtain ⟨_,_,_,e,k1,k2,_⟩ := k
 cases e
 exact ⟨sa,sc,⟨c0,c2,c3,c4⟩,v2,s1,by omega,by omega,hf.1⟩
theorem Iw.id' {w X : World} {B : Nat} {m : Mb} {fp : Fp} {g off c : Nat} (h : Iw w X B m fp g off c) : X.cell? ⟨B,0,none⟩ = some (.int .i64 m.id) ∧ X.cell? ⟨B,3,none⟩ = some (.bool m.done) := by
 obtain ⟨fp1,hp,_⟩ := h.bcm.next
 have hv := hp.pv
 obtain ⟨u0,c0,rfl⟩ := hv.at (j := 0) rfl
 obtain ⟨u4,c4,rfl⟩ := hv.at (j := 3) rfl
 exact ⟨c0,c4⟩
theorem Iw.row {w X : World} {B : Nat} {m : Mb} {fp : Fp} {g off c : Nat} (h : Iw w X B m fp g off c) (hf : FitM m) {k : Nat} (hk : k < m.rows.length) : ∃ Ak : Ra,C8 X g (off + k * 8) (.int .i64 (rowN m.rows k).ver) (.slice Ak.ta (rowN m.rows k).txt.length Ak.tc) (.slice Ak.ga (rowN m.rows k).got.length Ak.gc) (.slice Ak.sa (rowN m.rows k).sus.length Ak.sc) (.bool (rowN m.rows k).wed) (.bool (rowN m.rows k).rdy) (.int .i64 (rowN m.rows k).by_) (.slice Ak.ma (rowN m.rows k).trm.length Ak.mc) ∧ RwS X Ak (rowN m.rows k) := by
 obtain ⟨sa,sc,_,h2⟩ := h.box hf
 obtain ⟨g',off',Ak,e,h3,h4⟩ := h2.row hk
 cases e
 exact ⟨Ak,h3,h4⟩
theorem Iw.at {w X : World} {B : Nat} {m : Mb} {fp : Fp} {g off c : Nat} (h : Iw w X B m fp g off c) {k : Nat} (hk : k < m.rows.length) {j : Nat} {cl : Cel} (hj : (rw8 (rowN m.rows k))[j]? = some cl) : ∃ u f,X.cell? ⟨g,off + k * 8 + j,none⟩ = some u ∧ X.frozen? ⟨g,off + k * 8 + j,none⟩ = false ∧ Cel.ow X cl u f ∧ (∀ b,f b → b < X.heap.size) ∧
  ∀ (X1 : World) (c' : Cel) (u' : Value) (f' : Fp) (r' : Rw),(rw8 (rowN m.rows k)).set j c' = rw8 r' → Wrt f X X1 → Cel.ow X1 c' u' f' → (∀ b,f' b → f b ∨ X.heap.size ≤ b) → X1.cell? ⟨g,off + k * 8 + j,none⟩ = some u ∧ X1.frozen? ⟨g,off + k * 8 + j,none⟩ = false ∧ Iw w (X1.setCell ⟨g,off + k * 8 + j,none⟩ u') B { m with rows := m.rows.set k r' } fp g off c ∧ (u' = u → Iw w X1 B { m with rows := m.rows.set k r' } fp g off c) := by
 obtain ⟨fp1,hp,hf1,hgo⟩ := h.bcm.next
 obtain ⟨g',off',c',f,h1,hgB,hfg,hfs,hpl,hput⟩ := hp.el (F := rw8) rw8_len (by omega) (j := 1) (L := m.rows) rfl (rowN_at hk)
 have e := Option.some.inj (h1.symm.trans h.rws)
 cases e
 obtain ⟨u,fj,hu,hfz,hc,hsub,hnB,hset⟩ := hpl.at hj
 have hBX := hp.lt
 refine ⟨u,fj,hu,hfz,hc,Cel.ow_lt hc,fun X1 c' u' f' r' er hw hc' hf' => ?_⟩
 obtain ⟨k1,k2,k3,k4⟩ := hset X1 c' u' f' hw hc' hf'
 rw [er] at k3 k4
 have hBf : ¬ fj B := fun hb => hp.nB (hfs B (hsub B hb))
 have hr1 : X1.cell? ⟨B,1,none⟩ = some (.slice (some ⟨g,off,none⟩) m.rows.length c) := (World.cell?_of_block (hw.block B hBX hBf)).trans h.rws
 have key : ∀ Z,Bcm X Z g (off + k * 8) (rw8 r') f → Bcm w Z B 0 (mb4 { m with rows := m.rows.set k r' }) fp := fun Z hZ => hgo Z _ rfl (hput Z r' hZ)
 refine ⟨k1,k2,⟨key _ k3, ?_⟩,fun e => ⟨key _ (k4 e), ?_⟩⟩
 ·rw [World.cell?_setCell_other _ _ _ _ (by simp only [ne_eq,Addr.mk.injEq,not_and];intro e;exact absurd e hgB),hr1]
  simp
 ·rw [hr1];simp
theorem Iw.put {w X : World} {B : Nat} {m : Mb} {fp : Fp} {g off c : Nat} (h : Iw w X B m fp g off c) {k : Nat} (hk : k < m.rows.length) {j : Nat} {x y : Value} (hj : (rw8 (rowN m.rows k))[j]? = some (.v x)) {r' : Rw} (er : (rw8 (rowN m.rows k)).set j (.v y) = rw8 r') :
  X.cell? ⟨g,off + k * 8 + j,none⟩ = some x ∧ X.frozen? ⟨g,off + k * 8 + j,none⟩ = false ∧ Iw w (X.setCell ⟨g,off + k * 8 + j,none⟩ y) B { m with rows := m.rows.set k r' } fp g off c := by
 obtain ⟨u,f,h1,h2,⟨rfl,h3⟩,_,h4⟩ := h.at hk hj
 exact ⟨h1,h2,(h4 X (.v y) y (fun _ => False) r' er (Wrt.refl _ _) ⟨rfl,fun _ h => h⟩ (fun b hb => hb.elim)).2.2.1⟩
end Go.Proofs.YthioodpmgifomaaGreat
namespace Go.Proofs.YthioodpmgifomaaGreat
set_option linter.unusedVariables false
set_option linter.unusedSimpArgs false
open Go.RowKit Go.Sort
def Gu (e : Ending) : Prop := ∃ T v,e = .panicked [{ v := .iface T v,recovered := false }]
set_option maxHeartbeats 400000 in
theorem wantT (w : World) : Calls Tryz.prog 115 #[.bool true] w fun e w' => e = .returned (.tuple #[]) ∧ w' = w := by
 have hnot : ∀ (x : Bool) (w : World),(Op.unary .not (.bool x)).run Tryz.prog w = .ok (.bool (!x)) w := fun _ _ => rfl
 go_enter Tryz.func115,Tryz.ntmps115
 go_wp2
 first | go_end0 | go_ret
 exact ⟨rfl,rfl⟩
set_option maxHeartbeats 400000 in
theorem wantF (w : World) : Calls Tryz.prog 115 #[.bool false] w fun e w' => Gu e ∧ w' = w := by
 go_enter Tryz.func115,Tryz.ntmps115
 go_wp2
 exact ⟨rfl,⟨_,_,rfl⟩,rfl⟩
theorem tellP (p : Addr) (x : Value) (u : TypeId) (pv : Value) (older : List PanicEntry) (w : World) (hc : w.cell? p = some x) (hz : w.frozen? p = false) :
  CallsD Tryz.prog 128 #[.pointer (some p)] (.panicking ({ v := .iface u pv,recovered := false } :: older)) w fun e u' w' =>
   e = .returned (.tuple #[]) ∧ u' = .panicking ({ v := .iface u pv,recovered := true } :: older) ∧ w' = w.setCell p (.bool false) := by
 refine callsD_of_wpS Tryz.func128 rfl fun c₀ cs hu => ?_
 apply wpS_region
 simp [wpOpsS,go_sem,recoverD,hu,Tryz.ntmps128,hc,hz,bodyPostS,results,Tryz.results128]
theorem tellR (p : Addr) (x : Value) (w : World) (hc : w.cell? p = some x) (hz : w.frozen? p = false) :
  CallsD Tryz.prog 128 #[.pointer (some p)] .returning w fun e u' w' => e = .returned (.tuple #[]) ∧ u' = .returning ∧ w' = w.setCell p (.bool true) := by
 refine callsD_of_wpS Tryz.func128 rfl fun c₀ cs hu => ?_
 apply wpS_region
 simp [wpOpsS,go_sem,recoverD,hu,Tryz.ntmps128,hc,hz,bodyPostS,results,Tryz.results128]
 cases c₀
 simp_all
set_option maxRecDepth 100000 in
set_option maxHeartbeats 800000 in
theorem told_any (F : Nat) (C D : Array Value) (w : World) (Q : Bool → World → Prop) (hE : ∀ (args : Array Value) (w : World),(callFunc F args).run Tryz.prog w = .ok (.enter F args) w)
  (h : Calls Tryz.prog F (C ++ D) (w.alloc (.cells #[.bool false] 4)) fun e w' => (e = .returned (.tuple #[]) ∧ Q true w') ∨ (Gu e ∧ Q false w')) (hq : ∀ b w',Q b w' → Bx w' w.heap.size 4 #[.bool false]) :
  Calls Tryz.prog 71 #[.func (.func F) C D] w fun e w' => ∃ b X,e = .returned (.bool b) ∧ Q b X ∧ Wrt (fun x => x = w.heap.size) X w' := by
 have hmf : ∀ (fn : Fn) (first cap : Array Value) (w : World),(Instr.makeFunc fn first cap).run Tryz.prog w = .ok (.func fn first cap) w := fun _ _ _ _ => rfl
 have HQ : Hid (∀ b w',Q b w' → Bx w' w.heap.size 4 #[.bool false]) := hq
 clear hq
 go_enter_defers Tryz.func71,Tryz.ntmps71
 go_wp2_with fail
 refine h.mono ?_
 rintro e w1 (⟨rfl,hQ⟩ | ⟨⟨T,v,rfl⟩,hQ⟩)
 ·have hx := HQ.out _ _ hQ
  have c0 := hx.at 0 (v := .bool false) rfl
  have f0 := hx.f 0
  have HQ1 : Hid (Q true w1) := hQ
  clear hQ h hx
  go_wp2
  refine leaves_cons (f := 128) (args := #[.pointer (some ⟨w.heap.size,0,none⟩)]) (by simp) (by simp [go_sem]) ?_
  refine (tellR ⟨w.heap.size,0,none⟩ (.bool true) _ (World.cell?_setCell_same _ _ _ c0) (by rw [World.frozen?_setCell];exact f0)).mono ?_
  rintro e u' w'' ⟨rfl,rfl,rfl⟩
  have hc : ((w1.setCell ⟨w.heap.size,0,none⟩ (.bool true)).setCell ⟨w.heap.size,0,none⟩ (.bool true)).cell? ⟨w.heap.size,0,none⟩ = some (.bool true) := World.cell?_setCell_same _ _ _ (World.cell?_setCell_same _ _ _ c0)
  have hW := (Wrt.set w1 w.heap.size 0 (.bool true)).trans (Wrt.set (w1.setCell ⟨w.heap.size,0,none⟩ (.bool true)) w.heap.size 0 (.bool true)) (fun _ _ h => h)
  generalize (w1.setCell ⟨w.heap.size,0,none⟩ (.bool true)).setCell ⟨w.heap.size,0,none⟩ (.bool true) = W2 at *
  refine ⟨.bool true,by simp [results,Tryz.results71,go_sem,hc],true,w1,rfl,HQ1.out,hW⟩
 ·have hx := HQ.out _ _ hQ
  have c0 := hx.at 0 (v := .bool false) rfl
  have f0 := hx.f 0
  have HQ1 : Hid (Q false w1) := hQ
  clear hQ h hx
  simp only
  refine leaves_cons (f := 128) (args := #[.pointer (some ⟨w.heap.size,0,none⟩)]) (by simp) (by simp [go_sem]) ?_
  refine (tellP ⟨w.heap.size,0,none⟩ (.bool false) T v [] _ c0 f0).mono ?_
  rintro e u' w'' ⟨rfl,rfl,rfl⟩
  have hc : (w1.setCell ⟨w.heap.size,0,none⟩ (.bool false)).cell? ⟨w.heap.size,0,none⟩ = some (.bool false) := World.cell?_setCell_same _ _ _ c0
  have hW := Wrt.set w1 w.heap.size 0 (.bool false)
  generalize w1.setCell ⟨w.heap.size,0,none⟩ (.bool false) = W2 at *
  refine ⟨.bool false,by simp [results,Tryz.results71,go_sem,hc],false,w1,rfl,HQ1.out,hW⟩
end Go.Proofs.YthioodpmgifomaaGreat
namespace Go.Proofs.YthioodpmgifomaaGreat
set_option linter.unusedVariables false
set_option linter.unusedSimpArgs false
open Go.RowKit Go.Sort
set_option maxHeartbeats 400000 in
theorem isW14_any (n last : Int) (w : World) : Calls Tryz.prog 129 #[.int .i64 n,.int .i64 last] w fun e w' => e = .returned (.bool (inB n 0 last)) ∧ w' = w := by
 by_cases h0 : (0 : Int) ≤ n
 ·have H : Hid (inB n 0 last = decide (n ≤ last)) := by rw [Hid,inB];simp [h0]
  go_enter Tryz.func129,Tryz.ntmps129
  go_wp2
  go_ret
  exact ⟨ret_bool (by rw [H.out]),rfl⟩
 ·have H : Hid (inB n 0 last = false) := by rw [Hid,inB];simp [h0]
  go_enter Tryz.func129,Tryz.ntmps129
  go_wp2
  go_ret
  exact ⟨ret_bool (by rw [H.out]),rfl⟩
set_option maxHeartbeats 800000 in
theorem rw14_any (a : Option Addr) (len cap : Nat) (B : Int) (xs : List Int) (w : World) (hv : Vec w a len xs) (hm : len ≤ maxLen) :
  Calls Tryz.prog 131 #[.slice a len cap,.int .i64 (B - 1)] w fun e w' => e = .returned (.bool (decide (okRow B xs))) ∧ w' = w := by
 unfold maxLen at hm
 have HL : Hid (xs.length = len) := hv.1
 have hc := hv.2.2
 clear hv
 go_enter Tryz.func131,Tryz.ntmps131
 go_wp2
 go_loop [9] (fun i => ∃ k : Nat,k ≤ len ∧ i = .int .i64 k ∧ (∀ j,j < k → 0 ≤ el xs j ∧ el xs j ≤ B - 1) ∧ ∀ j,j + 1 < k → el xs j < el xs (j + 1)) (fun i => len - (intOf i).toNat)
 case atStart => exact ⟨0,Nat.zero_le _,rfl,fun j hj => by omega,fun j hj => by omega⟩
 case round =>
  obtain ⟨k,hk,rfl,hin,hri⟩ := hrel
  have HI : Hid (∀ j,j < k → 0 ≤ el xs j ∧ el xs j ≤ B - 1) := hin
  have HR : Hid (∀ j,j + 1 < k → el xs j < el xs (j + 1)) := hri
  clear hin hri
  by_cases hlt : k < len
  ·rcases hc with h0 | ⟨b,off,rfl,hc⟩
   ·omega
   have hck := hc k hlt
   have k0 : (0 : Int) ≤ (k : Int) := by omega
   have k1 : (k : Int) < (len : Int) := by omega
   cases e4 : inB (el xs k) 0 (B - 1) with
   | false =>
    have HF : Hid (decide (okRow B xs) = false) := decide_eq_false (fun h => by
     have := h.1 k (by rw [HL.out];exact hlt)
     rw [inB7.2 this] at e4
     cases e4)
    go_wp2_with (go_at_call 129;refine (isW14_any _ _ _).mono ?_;rintro e w' ⟨rfl,hw'⟩;rw [hw'];clear hw')
    go_ret
    exact ⟨ret_bool (by rw [HF.out]),rfl⟩
   | true =>
    have HX : Hid (0 ≤ el xs k ∧ el xs k ≤ B - 1) := inB7.1 e4
    by_cases hk0 : 0 < k
    ·obtain ⟨q,rfl⟩ : ∃ q,k = q + 1 := ⟨k - 1,by omega⟩
     have hcq := hc q (by omega)
     have hg : decide (((q + 1 : Nat) : Int) > 0) = true := decide_eq_true (by omega)
     have g0 : (0 : Int) < ((q + 1 : Nat) : Int) := by omega
     have hq : wrap64 (((q + 1 : Nat) : Int) - 1) = (q : Int) := by unfold wrap64;omega
     have q0 : (0 : Int) ≤ (q : Int) := by omega
     have q1 : (q : Int) < (len : Int) := by omega
     by_cases hx : el xs q < el xs (q + 1)
     ·have hd : decide (el xs (q + 1) ≤ el xs q) = false := by simp;omega
      have HY : Hid (el xs q < el xs (q + 1)) := hx
      clear hx
      go_wp2_with (go_at_call 129;refine (isW14_any _ _ _).mono ?_;rintro e w' ⟨rfl,hw'⟩;rw [hw'];clear hw')
      go_round
      case rel => exact ⟨q + 1 + 1,by omega,by go_num,fun j hj => by
       rcases Nat.lt_succ_iff_lt_or_eq.1 hj with h | h
       ·exact HI.out j h
       ·rw [h];exact HX.out,fun j hj => by
       rcases Nat.lt_succ_iff_lt_or_eq.1 hj with h | h
       ·exact HR.out j h
       ·have : j = q := by omega
        rw [this];exact HY.out⟩
      case measure => simp [intOf];omega
     ·have hd : decide (el xs (q + 1) ≤ el xs q) = true := by simp;omega
      have HF : Hid (decide (okRow B xs) = false) := decide_eq_false (fun h => hx (h.2 q (by rw [HL.out];omega)))
      clear hx
      go_wp2_with (go_at_call 129;refine (isW14_any _ _ _).mono ?_;rintro e w' ⟨rfl,hw'⟩;rw [hw'];clear hw')
      go_ret
      exact ⟨ret_bool (by rw [HF.out]),rfl⟩
    ·obtain rfl : k = 0 := by omega
     rw [Nat.add_zero] at hck
     go_wp2_with (go_at_call 129;refine (isW14_any _ _ _).mono ?_;rintro e w' ⟨rfl,hw'⟩;rw [hw'];clear hw')
     go_round
     case rel => exact ⟨1,by omega,by go_num,fun j hj => by
      obtain rfl : j = 0 := by omega
      exact HX.out,fun j hj => by omega⟩
     case measure => simp [intOf];omega
  ·have hkl : k = len := by omega
   have HF : Hid (decide (okRow B xs) = true) := decide_eq_true ⟨fun j hj => HI.out j (by rw [HL.out] at hj;omega),fun j hj => HR.out j (by rw [HL.out] at hj;omega)⟩
   subst hkl
   clear hc
   go_wp2
   go_ret
   exact ⟨ret_bool (by rw [HF.out]),rfl⟩
def IsIdx (xs : List Int) (x z : Int) : Prop := (∃ k : Nat,k < xs.length ∧ z = (k : Int) ∧ el xs k = x ∧ ∀ j,j < k → el xs j ≠ x) ∨ (z = -1 ∧ ∀ j,j < xs.length → el xs j ≠ x)
theorem IsIdx.mem {xs : List Int} {x z : Int} (h : IsIdx xs x z) : decide (0 ≤ z) = decide (x ∈ xs) := by
 rcases h with ⟨k,hk,rfl,rfl,_⟩ | ⟨rfl,h⟩
 ·rw [decide_eq_true (el_in hk),decide_eq_true (by omega)]
 ·rw [decide_eq_false (by omega),decide_eq_false (fun hx => by obtain ⟨i,hi,e⟩ := el_of hx;exact h i hi e)]
set_option maxHeartbeats 800000 in
theorem idx14_any (a : Option Addr) (cap : Nat) (xs : List Int) (x : Int) (w : World) (hv : Vec w a xs.length xs) (hm : xs.length ≤ maxLen) :
  Calls Tryz.prog 177 #[.slice a xs.length cap,.int .i64 x] w fun e w' => (∃ z : Int,e = .returned (.int .i64 z) ∧ IsIdx xs x z) ∧ w' = w := by
 unfold maxLen at hm
 have hc := hv.2.2
 clear hv
 go_enter Tryz.func177,Tryz.ntmps177
 go_wp2
 go_loop [8] (fun i => ∃ k : Nat,k ≤ xs.length ∧ i = .int .i64 k ∧ ∀ j,j < k → el xs j ≠ x) (fun i => xs.length - (intOf i).toNat)
 case atStart => exact ⟨0,Nat.zero_le _,rfl,fun j hj => by omega⟩
 case round =>
  obtain ⟨k,hk,rfl,hall⟩ := hrel
  have HA : Hid (∀ j,j < k → el xs j ≠ x) := hall
  clear hall
  by_cases hlt : k < xs.length
  ·rcases hc with h0 | ⟨b,off,rfl,hc⟩
   ·omega
   have hck := hc k hlt
   clear hc
   have k0 : (0 : Int) ≤ (k : Int) := by omega
   have k1 : (k : Int) < (xs.length : Int) := by omega
   by_cases hx : el xs k = x
   ·have HX : Hid (IsIdx xs x (k : Int)) := .inl ⟨k,hlt,rfl,hx,HA.out⟩
    have hq : (x == el xs k) = true := by simp [hx]
    clear hx
    generalize el xs k = E at *
    go_wp2
    go_ret
    exact ⟨⟨_,rfl,HX.out⟩,rfl⟩
   ·have HX : Hid (∀ j,j < k + 1 → el xs j ≠ x) := fun j hj => by
     by_cases e : j = k
     ·rw [e];exact hx
     ·exact HA.out j (by omega)
    have hq : (x == el xs k) = false := by simp [Ne.symm hx]
    clear hx
    generalize el xs k = E at *
    go_wp2
    go_round
    case rel => exact ⟨k + 1,by omega,by go_num,HX.out⟩
    case measure => simp [intOf];omega
  ·have k1 : ¬ ((k : Int) < (xs.length : Int)) := by omega
   obtain rfl : k = xs.length := by omega
   clear hc
   go_wp2
   go_ret
   exact ⟨⟨_,rfl,.inr ⟨rfl,HA.out⟩⟩,rfl⟩
set_option maxHeartbeats 400000 in
theorem con14_any (a : Option Addr) (cap : Nat) (xs : List Int) (x : Int) (w : World) (hv : Vec w a xs.length xs) (hm : xs.length ≤ maxLen) :
  Calls Tryz.prog 130 #[.slice a xs.length cap,.int .i64 x] w fun e w' => e = .returned (.bool (decide (x ∈ xs))) ∧ w' = w := by
 have hI := idx14_any a cap xs x w hv hm
 clear hv
 go_enter Tryz.func130,Tryz.ntmps130
 go_wp2_with (go_at_call 177;refine hI.mono ?_;rintro e w' ⟨⟨z,rfl,hz⟩,hw'⟩;rw [hw'];clear hw';have HZ : Hid (IsIdx xs x z) := hz;clear hz)
 go_ret
 exact ⟨ret_bool (by rw [← HZ.out.mem]),rfl⟩
end Go.Proofs.YthioodpmgifomaaGreat
namespace Go.Proofs.YthioodpmgifomaaGreat
set_option linter.unusedVariables false
set_option linter.unusedSimpArgs false
open Go.RowKit Go.Sort
set_option maxHeartbeats 400000 in
theorem cnt_any (B : Nat) (a : Option Addr) (n c : Nat) (X : World) (h1 : X.cell? ⟨B,1,none⟩ = some (.slice a n c)) :
  Calls Tryz.prog 124 #[.pointer (some ⟨B,0,none⟩)] X fun e w' => e = .returned (.int .i64 (n : Int)) ∧ w' = X := by
 go_enter Tryz.func124,Tryz.ntmps124
 go_wp2
 go_ret
 exact ⟨rfl,rfl⟩
set_option maxRecDepth 100000 in
set_option maxHeartbeats 800000 in
theorem own_any (B i n g off c : Nat) (X : World) (h0 : X.cell? ⟨B,0,none⟩ = some (.int .i64 (i : Int))) (h1 : X.cell? ⟨B,1,none⟩ = some (.slice (some ⟨g,off,none⟩) n c)) (hi : i < n) :
  Calls Tryz.prog 117 #[.pointer (some ⟨B,0,none⟩)] X fun e w' => e = .returned (.pointer (some ⟨g,off + i * 8,none⟩)) ∧ Below X.heap.size X w' := by
 have hmix := mixed17
 have i0 : (0 : Int) ≤ (i : Int) := by omega
 have i1 : (i : Int) < (n : Int) := by omega
 have T : ∀ {x v},X.cell? x = some v → ∀ q : Bk X,q.w.cell? x = some v := fun h q => (q.h.cell (World.block_lt_of_cell? _ _ h)).trans h
 have p0 := T h0
 have p1 := T h1
 clear T h0 h1
 go_enter Tryz.func117,Tryz.ntmps117
 go_wp2_with fail
 refine wp_region_bk (by kernel_rfl) (by kernel_rfl) ?_
 repeat (go_big_quiet_step ((first | rfl)))
 refine wpQuiet_nil ?_
 intro wE hw'
 obtain ⟨⟨w11,hb11⟩,hw''⟩ := hw'
 have hwe : wE = w11 := hw''
 clear hw''
 subst hwe
 have HB : Hid (Below X.heap.size X wE) := hb11
 clear p0 p1 hb11
 go_wp2
 go_ret
 exact ⟨rfl,HB.out⟩
def othB (i n : Nat) (sus : List Int) (who : Int) : Bool := decide (who ≠ (i : Int)) && (inB who 0 ((n : Int) - 1) && decide (who ∉ sus))
set_option maxRecDepth 100000 in
set_option maxHeartbeats 1600000 in
theorem oth_any (B i n g off c : Nat) (sa : Option Addr) (sc : Nat) (sus : List Int) (who : Int) (X : World) (h0 : X.cell? ⟨B,0,none⟩ = some (.int .i64 (i : Int))) (h1 : X.cell? ⟨B,1,none⟩ = some (.slice (some ⟨g,off,none⟩) n c)) (hi : i < n) (hn : n ≤ 5) (h3 : X.cell? ⟨g,off + i * 8 + 3,none⟩ = some (.slice sa sus.length sc)) (hv : Vec X sa sus.length sus) (hm : sus.length ≤ maxLen) :
  Calls Tryz.prog 120 #[.pointer (some ⟨B,0,none⟩),.int .i64 who] X fun e w' => e = .returned (.bool (othB i n sus who)) ∧ Below X.heap.size X w' := by
 have HR : Hid (Below X.heap.size X X) := Below.refl _ _
 by_cases e1 : who = (i : Int)
 ·have HZ : Hid (othB i n sus who = false) := by rw [Hid,othB,e1];simp
  have e1' : (who != (i : Int)) = false := by simp [e1]
  clear e1
  go_enter Tryz.func120,Tryz.ntmps120
  go_wp2_with fail
  go_ret
  exact ⟨ret_bool (by rw [HZ.out]),HR.out⟩
 have e1' : (who != (i : Int)) = true := by simp [e1]
 have hC := fun X h => cnt_any B (some ⟨g,off,none⟩) n c X h
 have hwn : wrap64 ((n : Int) - 1) = (n : Int) - 1 := by unfold wrap64;omega
 cases e2 : inB who 0 ((n : Int) - 1) with
 | false =>
  have HZ : Hid (othB i n sus who = false) := by rw [Hid,othB,e2];simp
  clear e1
  go_enter Tryz.func120,Tryz.ntmps120
  go_wp2_with (first | (go_at_call 124;refine (hC _ h1).mono ?_;rintro e w' ⟨rfl,hw'⟩;rw [hw'];clear hw') | (go_at_call 129;refine (isW14_any _ _ _).mono ?_;rintro e w' ⟨rfl,hw'⟩;rw [hw',e2];clear hw'))
  go_ret
  exact ⟨ret_bool (by rw [HZ.out]),HR.out⟩
 | true =>
  have HZ : Hid (othB i n sus who = !decide (who ∈ sus)) := by rw [Hid,othB,e2,decide_eq_true e1];simp
  have hO := own_any B i n g off c X h0 h1 hi
  have HCon : Hid (∀ Y,Below X.heap.size X Y → Y.cell? ⟨g,off + i * 8 + 3,none⟩ = some (.slice sa sus.length sc) ∧ Calls Tryz.prog 130 #[.slice sa sus.length sc,.int .i64 who] Y fun e w' => e = .returned (.bool (decide (who ∈ sus))) ∧ w' = Y) := fun Y hY => ⟨(hY.cell (World.block_lt_of_cell? _ _ h3)).trans h3,con14_any sa sc sus who Y (hv.below hY (Nat.le_refl _)) hm⟩
  clear e1 hv hm HR
  generalize decide (who ∈ sus) = b at *
  go_enter Tryz.func120,Tryz.ntmps120
  go_wp2_with (first | (go_at_call 124;refine (hC _ h1).mono ?_;rintro e w' ⟨rfl,hw'⟩;rw [hw'];clear hw') | (go_at_call 129;refine (isW14_any _ _ _).mono ?_;rintro e w' ⟨rfl,hw'⟩;rw [hw',e2];clear hw') | (go_at_call 117;refine hO.mono ?_;rintro e w1 ⟨rfl,hb1⟩;obtain ⟨g3,hCn⟩ := HCon.out w1 hb1;have HB1 : Hid (Below X.heap.size X w1) := hb1;clear hb1 h0 h1 h3) | (go_at_call 130;refine hCn.mono ?_;rintro e w' ⟨rfl,hw'⟩;rw [hw'];clear hw'))
  go_ret
  exact ⟨ret_bool (by rw [HZ.out]),HB1.out⟩
end Go.Proofs.YthioodpmgifomaaGreat
namespace Go.Proofs.YthioodpmgifomaaGreat
set_option linter.unusedVariables false
set_option linter.unusedSimpArgs false
open Go.RowKit Go.Sort
end Go.Proofs.YthioodpmgifomaaGreat
namespace Go.Proofs.YthioodpmgifomaaGreat
set_option linter.unusedVariables false
set_option linter.unusedSimpArgs false
open Go.RowKit Go.Sort
theorem putL_self : ∀ {l : List Int} {x : Int},l.Pairwise (· < ·) → x ∈ l → putL l x = l
 | y :: l,x,h,hx => by
  obtain ⟨h1,h2⟩ := List.pairwise_cons.1 h
  rw [putL]
  rcases List.mem_cons.1 hx with e | hx
  ·rw [if_neg (by omega),if_pos e.symm]
  ·rw [if_pos (h1 x hx),putL_self h2 hx]
def wdR (i : Nat) (r : Rw) (S : List Int) (k : Nat) : Rw := { r with wed := true,sus := learnS i r.sus (S.take k) }
theorem wdR_sus {i nn : Nat} {r : Rw} {S : List Int} (hr : OkR r nn) (hS : ∀ x ∈ S,0 ≤ x ∧ x < (nn : Int)) (k : Nat) : (wdR i r S k).sus.Pairwise (· < ·) ∧ (∀ x ∈ (wdR i r S k).sus,0 ≤ x ∧ x < (nn : Int)) ∧ (wdR i r S k).sus.length ≤ 5 := by
 have h1 : (wdR i r S k).sus.Pairwise (· < ·) := learnS_ris (ris_iff.1 hr.ris)
 have h2 : ∀ x ∈ (wdR i r S k).sus,0 ≤ x ∧ x < (nn : Int) := fun x hx => by
  rcases mem_learnS.1 hx with h | ⟨h,_⟩
  ·exact hr.sus x h
  ·exact hS x (List.mem_of_mem_take h)
 have h5 := hr.n5
 exact ⟨h1,h2,Nat.le_trans (ris_short (k := nn) h1 h2) h5.2⟩
theorem vec_block {X Y : World} {a : Option Addr} {S : List Int} (h : Vec X a S.length S) (hb : ∀ b o,a = some ⟨b,o,none⟩ → S ≠ [] → Y.heap[b]? = X.heap[b]?) : Vec Y a S.length S := by
 obtain ⟨h1,h2,h3⟩ := h
 refine ⟨h1,h2, ?_⟩
 rcases h3 with h3 | ⟨b,o,e,h3⟩
 ·exact .inl h3
 ·by_cases hn : S = []
  ·exact .inl (by rw [hn];rfl)
  ·exact .inr ⟨b,o,e,fun j hj => (World.cell?_of_block (hb b o e hn)).trans (h3 j hj)⟩
set_option maxRecDepth 100000 in
set_option maxHeartbeats 1600000 in
theorem wdg_any (B i n g off c nn : Nat) (r : Rw) (f : Fp) (S : List Int) (a : Option Addr) (sc : Nat) (X : World) (h : Plc X g (off + i * 8) (rw8 r) f) (hBg : B ≠ g) (hfB : ¬ f B) (c0 : X.cell? ⟨B,0,none⟩ = some (.int .i64 (i : Int))) (c1 : X.cell? ⟨B,1,none⟩ = some (.slice (some ⟨g,off,none⟩) n c)) (hi : i < n)
  (hv : Vec X a S.length S) (hvb : ∀ b o,a = some ⟨b,o,none⟩ → S ≠ [] → ¬ f b ∧ b ≠ g) (hr : OkR r nn) (hS : ∀ x ∈ S,0 ≤ x ∧ x < (nn : Int)) (hSl : S.length ≤ 100) :
  Calls Tryz.prog 121 #[.pointer (some ⟨B,0,none⟩),.slice a S.length sc] X fun e w' => e = .returned (.tuple #[]) ∧ Bcm X w' g (off + i * 8) (rw8 (wdR i r S S.length)) f := by
 have hOw := own_any B i n g off c X c0 c1 hi
 have HP : Hid (Plc X g (off + i * 8) (rw8 r) f) := h
 have HV : Hid (Vec X a S.length S) := hv
 have HVB : Hid (∀ b o,a = some ⟨b,o,none⟩ → S ≠ [] → ¬ f b ∧ b ≠ g) := hvb
 have HC0 : Hid (X.cell? ⟨B,0,none⟩ = some (.int .i64 (i : Int))) := c0
 have HW : Hid (∀ k,(wdR i r S k).sus.Pairwise (· < ·) ∧ (∀ x ∈ (wdR i r S k).sus,0 ≤ x ∧ x < (nn : Int)) ∧ (wdR i r S k).sus.length ≤ 5) := fun k => wdR_sus hr hS k
 have H5 : Hid (1 ≤ nn ∧ nn ≤ 5) := hr.n5
 have HSx : Hid (∀ x ∈ S,0 ≤ x ∧ x < (nn : Int)) := hS
 have hBlt := World.block_lt_of_cell? _ _ c0
 clear h hv hvb c0 c1 hr hS
 go_enter Tryz.func121,Tryz.ntmps121
 go_wp2_with fail
 refine hOw.mono ?_
 rintro e XA ⟨rfl,hbA⟩
 obtain ⟨u4,f4,hu4,hz4,⟨rfl,hf4⟩,hs4,hn4,hset4⟩ := (HP.out.below hbA).at (j := 4) rfl
 obtain ⟨_,_,B4,_⟩ := hset4 XA (.v (.bool true)) (.bool true) (fun _ => False) (Wrt.refl _ _) ⟨rfl,fun _ h => h⟩ (fun b hb => hb.elim)
 have HB4 : Hid (Bcm X (XA.setCell ⟨g,off + i * 8 + 4,none⟩ (.bool true)) g (off + i * 8) (rw8 (wdR i r S 0)) f) := B4.first hbA HP.out.lt HP.out.flt
 clear hset4 B4 hs4 hn4 hf4 hOw
 go_upto_region 3 with fail
 generalize XA.setCell ⟨g,off + i * 8 + 4,none⟩ (.bool true) = W4 at *
 clear hu4 hz4 hbA
 go_loopw [16] (fun v wr => ∃ k : Nat,k ≤ S.length ∧ v = .int .i64 (k : Int) ∧ Bcm X wr g (off + i * 8) (rw8 (wdR i r S k)) f) (fun v _ => S.length - (intOf v).toNat)
 case atStart => exact ⟨0,Nat.zero_le _,rfl,HB4.out⟩
 case round =>
  obtain ⟨k,hk,rfl,hB⟩ := hrel
  have HB : Hid (Bcm X wr g (off + i * 8) (rw8 (wdR i r S k)) f) := hB
  clear HB4
  by_cases hlt : k < S.length
  ·have hne : S ≠ [] := fun e => by rw [e] at hlt;simp at hlt
   have hvw := vec_block HV.out (fun b o e hn => hB.wrt.block b (by
    rcases HV.out.2.2 with h | ⟨b',o',e',h⟩
    ·omega
    ·rw [e'] at e;cases e;exact World.block_lt_of_cell? _ _ (h k hlt)) (fun kk => by have := HVB.out b o e hn;rcases kk with kk | kk;exact this.1 kk;exact this.2 kk))
   rcases hvw.2.2 with h0 | ⟨sb,so,rfl,hsc⟩
   ·omega
   have hck := hsc k hlt
   have b0 : wr.cell? ⟨B,0,none⟩ = some (.int .i64 (i : Int)) := (World.cell?_of_block (hB.wrt.block B hBlt (fun kk => by rcases kk with kk | kk;exact hfB kk;exact hBg kk))).trans HC0.out
   obtain ⟨fp1,hp1,hf1,hgo⟩ := hB.next
   obtain ⟨u,f3,hu,hz,how,hsub,hn3,hset⟩ := hp1.at (j := 3) rfl
   have how' : Cel.ow wr (icl (wdR i r S k).sus) u f3 := how
   obtain ⟨sa,sac,_,rfl,_⟩ := ow_icl.1 how'
   obtain ⟨w1,w2,w3⟩ := HW.out k
   have h5 := H5.out
   have hfit : Fits (wdR i r S k).sus := fun x hx => by have := w2 x hx;omega
   have hBs := bs_any sa sac (wdR i r S k).sus (el S k) wr (vec_of_ow how' hfit) (by omega) w1
   have hT := learnS_take (id := i) (s := r.sus) hlt
   have k0 : (0 : Int) ≤ (k : Int) := by omega
   have k1 : (k : Int) < (S.length : Int) := by omega
   have HN1 : Hid (el S k = (i : Int) → wdR i r S (k + 1) = wdR i r S k) := fun e => by rw [wdR,hT,if_pos e];rfl
   have HN2 : Hid (el S k ≠ (i : Int) → el S k ∈ (wdR i r S k).sus → wdR i r S (k + 1) = wdR i r S k) := fun e hm => by
    rw [wdR,hT,if_neg e,show putL (learnS i r.sus (S.take k)) (el S k) = learnS i r.sus (S.take k) from putL_self w1 hm]
    rfl
   have HN3 : Hid (el S k ≠ (i : Int) → wdR i r S (k + 1) = { wdR i r S k with sus := putL (wdR i r S k).sus (el S k) }) := fun e => by rw [wdR,hT,if_neg e];rfl
   have hx0 : 0 ≤ el S k ∧ el S k < 5 := by have := HSx.out _ (el_mem hlt);omega
   have HSet : Hid (∀ (w1 : World) (c' : Cel) (u' : Value) (f' : Fp),Wrt f3 wr w1 → Cel.ow w1 c' u' f' → (∀ b,f' b → f3 b ∨ wr.heap.size ≤ b) → w1.cell? ⟨g,off + i * 8 + 3,none⟩ = some (.slice sa (wdR i r S k).sus.length sac) ∧ w1.frozen? ⟨g,off + i * 8 + 3,none⟩ = false ∧ Bcm X (w1.setCell ⟨g,off + i * 8 + 3,none⟩ u') g (off + i * 8) ((rw8 (wdR i r S k)).set 3 c') f) := fun w1 c' u' f' q1 q2 q3 => by
    obtain ⟨p1,p2,p3,_⟩ := hset w1 c' u' f' q1 q2 q3
    exact ⟨p1,p2,hgo _ _ (by simp) p3⟩
   have HOw : Hid (Cel.ow wr (icl (wdR i r S k).sus) (.slice sa (wdR i r S k).sus.length sac) f3) := how'
   clear hvw hsc hB hp1 hf1 hgo hset how how' hsub hn3 hfit hT w1 w2
   generalize hwd : wdR i r S k = rk at *
   generalize el S k = x at *
   by_cases hin : x ∈ rk.sus
   ·have HE : Hid (wdR i r S (k + 1) = rk) := by
     by_cases e : x = (i : Int)
     ·exact HN1.out e
     ·exact HN2.out e hin
    rw [decide_eq_true hin] at hBs
    clear hin
    go_wp2_with (go_at_call 174;refine hBs.mono ?_;rintro e w' ⟨kk,hkk,rfl,hw',_⟩;rw [hw'];clear hw')
    go_roundw
    case rel => exact ⟨k + 1,by omega,by go_num,by rw [HE.out];exact HB.out⟩
    case measure => simp [intOf];omega
   rw [decide_eq_false hin] at hBs
   by_cases e : x = (i : Int)
   ·have HE : Hid (wdR i r S (k + 1) = rk) := HN1.out e
    have e' : (x != (i : Int)) = false := by simp [e]
    clear hin e
    go_wp2_with (go_at_call 174;refine hBs.mono ?_;rintro e w' ⟨kk,hkk,rfl,hw',_⟩;rw [hw'];clear hw')
    go_roundw
    case rel => exact ⟨k + 1,by omega,by go_num,by rw [HE.out];exact HB.out⟩
    case measure => simp [intOf];omega
   have HE : Hid (wdR i r S (k + 1) = { rk with sus := putL rk.sus x }) := HN3.out e
   have e' : (x != (i : Int)) = true := by simp [e]
   have HIn : Hid (x ∉ rk.sus) := hin
   have HM : Hid (rk.sus.length ≤ 100) := by rw [Hid];omega
   clear hin e
   go_upto_region 7 with (go_at_call 174;refine hBs.mono ?_;rintro e w' ⟨kk,hkk,rfl,hw',hput⟩;rw [hw'];clear hw')
   have hpt := hput HIn.out
   have hIn := ins_any sa sac kk rk.sus x f3 wr HOw.out hkk HM.out
   rw [hpt] at hIn
   clear hput hpt hBs
   go_wp2_with (go_at_call 175;refine hIn.mono ?_;rintro e w9 ⟨a9,c9,f9,rfl,o9,p9,q9⟩;obtain ⟨z1,z2,hB9⟩ := HSet.out w9 (icl (putL rk.sus x)) (.slice a9 (rk.sus.length + 1) c9) f9 q9 o9 p9;have HB9 : Hid (Bcm X (w9.setCell ⟨g,off + i * 8 + 3,none⟩ (.slice a9 (rk.sus.length + 1) c9)) g (off + i * 8) ((rw8 rk).set 3 (icl (putL rk.sus x))) f) := hB9;clear o9 p9 q9 hB9 hIn hu hz)
   go_roundw
   case rel => exact ⟨k + 1,by omega,by go_num,by rw [HE.out];exact HB9.out⟩
   case measure => simp [intOf];omega
  ·have k1 : ¬ ((k : Int) < (S.length : Int)) := by omega
   obtain rfl : k = S.length := by omega
   clear hB
   go_wp2
   first | go_end0 | go_ret
   exact ⟨rfl,HB.out⟩
end Go.Proofs.YthioodpmgifomaaGreat
namespace Go.Proofs.YthioodpmgifomaaGreat
set_option linter.unusedSimpArgs false
set_option linter.unusedVariables false
open Go.RowKit Go.Sort Go.Shelf
def Tryz.cloneL_ren : Go.Shelf.Ren := ⟨fun | 316 => 173 | n => n,fun | 9 => 9 | 3 => 3 | 4 => 4 | 37 => 22 | 0 => 0 | 127 => 215 | 5 => 5 | n => n,fun | n => n⟩
theorem Tryz.cloneL : Go.Proofs.LaysM.n316 Tryz.prog Tryz.cloneL_ren := {
 mixed := by kernel_rfl
 f316 := Tryz.func173.trans (congrArg some (by kernel_rfl))
 t0 := Tryz.underlying0
 a0 := Tryz.isAgg0
 z0 := Tryz.sizeOf0
 v0 := Tryz.zeroValue0
 t3 := Tryz.underlying3
 a3 := Tryz.isAgg3
 z3 := Tryz.sizeOf3
 v3 := Tryz.zeroValue3
 t4 := Tryz.underlying4
 a4 := Tryz.isAgg4
 z4 := Tryz.sizeOf4
 v4 := Tryz.zeroValue4
 t9 := Tryz.underlying9
 a9 := Tryz.isAgg9
 z9 := Tryz.sizeOf9
 v9 := Tryz.zeroValue9
 t37 := Tryz.underlying22
 a37 := Tryz.isAgg22
 z37 := Tryz.sizeOf22
 v37 := Tryz.zeroValue22
 t127 := Tryz.underlying215
 a127 := Tryz.isAgg215
 z127 := Tryz.sizeOf215
 v127 := Tryz.zeroValue215
 t5 := Tryz.underlying5
 a5 := Tryz.isAgg5
 z5 := Tryz.sizeOf5
 v5 := Tryz.zeroValue5
 i0 := by kernel_rfl
 i3 := by kernel_rfl
 i4 := by kernel_rfl
 i5 := by kernel_rfl
 i9 := by kernel_rfl
 i37 := by kernel_rfl
 i127 := by kernel_rfl }
set_option maxHeartbeats 400000 in
theorem clone_any (l : List UInt8) (w : World) (hl : l.length ≤ 1048576) :
  Calls Tryz.prog 118 #[.string (sv l)] w fun e w' => e = .returned (.string (sv l)) ∧ Below w.heap.size w w' := by
 have h := Any.stringslite_Clone Tryz.cloneL (sv l) w (by rw [sv_size];omega)
 go_enter Tryz.func118,Tryz.ntmps118
 go_wp2_with fail
 refine h.mono ?_
 rintro e w1 ⟨rfl,hb⟩
 have HB : Hid (Below w.heap.size w w1) := hb
 clear hb h
 go_wp2
 go_ret
 exact ⟨rfl,HB.out⟩
end Go.Proofs.YthioodpmgifomaaGreat
namespace Go.Proofs.YthioodpmgifomaaGreat
set_option linter.unusedVariables false
set_option linter.unusedSimpArgs false
open Go.RowKit Go.Sort
section
variable {P : Program} {l : List Oper} {Q : Exit → Act → World → Prop} {S : World → Prop}
theorem gt_oneN {i z : Nat} {o : Oper} {fuel : Nat} {listed : Array Bool} {a : Act} {w : World} (hn : ¬ S w) (hi : l[i]? = some o) (hr : Region.ready .any l.toArray listed = [i])
  (h : ∀ K' : Act → World → Prop,Shut (∀ a w,GT P l Q S z fuel (listed.setIfInBounds i true) a w → K' a w) → if Region.wanted o (yielded l.toArray a.tmps) = true then Oper.wp P o a w K' Q else K' (a.put o.dst undef) w) : GT P l Q S z (fuel + 1) listed a w := by
 have hi' : l.toArray[i]? = some o := by simpa using hi
 refine ⟨fun h0 => (by rw [hr] at h0;cases h0),fun j hj => ?_⟩
 rw [hr] at hj
 simp at hj
 subst hj
 exact wpOp_step hi' (fun K' hK => h K' (fun a w hW => hK a w ⟨fun _ hS => absurd hS hn,hW⟩))
theorem gt_oneZ {z : Nat} {o : Oper} {fuel : Nat} {listed : Array Bool} {a : Act} {w : World} (hi : l[z]? = some o) (hr : Region.ready .any l.toArray listed = [z])
  (h : ∀ K' : Act → World → Prop,Shut (∀ a w,GT P l Q S z fuel (listed.setIfInBounds z true) a w → K' a w) → if Region.wanted o (yielded l.toArray a.tmps) = true then Oper.wp P o a w K' Q else K' (a.put o.dst undef) w) : GT P l Q S z (fuel + 1) listed a w := by
 have hi' : l.toArray[z]? = some o := by simpa using hi
 refine ⟨fun h0 => (by rw [hr] at h0;cases h0),fun j hj => ?_⟩
 rw [hr] at hj
 simp at hj
 subst hj
 exact wpOp_step hi' (fun K' hK => h K' (fun a w hW => hK a w ⟨fun e _ => absurd rfl e,hW⟩))
end
set_option maxRecDepth 100000 in
set_option maxHeartbeats 800000 in
theorem cln_any (a : Option Addr) (c : Nat) (xs : List Int) (w : World) (hv : Vec w a xs.length xs) (hl : xs.length ≤ 1000000) :
  Calls Tryz.prog 176 #[.slice a xs.length c] w fun e w' => AnsL w w' e xs := by
 have q25 : ∀ (w : World) (a : Option Addr) (n c n' c' : Nat),(binOp .eql 25 (.slice a n c) (.slice none n' c')).run Tryz.prog w = .ok (.bool a.isNone) w := fun w a n c n' c' => Lib.run_eql_slice_nil w _ _ a n c n' c' Tryz.underlying25
 cases a with
 | none =>
  have hx : xs = [] := by
   rcases hv.2.2 with h | ⟨b,o,e,_⟩
   ·exact List.eq_nil_of_length_eq_zero h
   ·cases e
  subst hx
  clear hv
  go_enter Tryz.func176,Tryz.ntmps176
  go_wp2
  go_ret
  exact ⟨none,0,rfl,fun _ => False,ow_icl.2 ⟨none,0,none,rfl,OSo.nil _ _ (fun _ h => by cases h),fun b => by simp⟩,fun _ h => h.elim,Below.refl _ _⟩
 | some ad =>
  have hA := vec_copied (c := c) hv hl
  clear hv
  go_enter Tryz.func176,Tryz.ntmps176
  go_wp2_with (at_builtin;refine wpList_append_of (by rfl) _ _ _ _ (by rfl) _ _ (by rfl) (by rfl) hA ⟨rfl,rfl,rfl,rfl⟩ ?_;rintro v1 w1 ⟨a1,e1,f1,rfl,q1,q2,q3⟩;have HQ : Hid (NewO w w1 (icl xs) (.slice a1 xs.length e1)) := ⟨f1,q1,q2,q3⟩;clear q1 q2 q3 hA)
  go_ret
  exact ⟨a1,e1,rfl,HQ.out⟩
end Go.Proofs.YthioodpmgifomaaGreat