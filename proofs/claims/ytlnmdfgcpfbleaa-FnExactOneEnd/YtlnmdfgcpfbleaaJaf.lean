/-
  Texts in one: Omb Ogr Nmb Ivk Rzi Rzj Rzk Rzu Rzv.
-/
import Derived.Test.YtlnmdfgcpfbleaaJae
import Derived.Test.YtlnmdfgcpfbleaaJaa
import Derived.Test.YtlnmdfgcpfbleaaJab
import Derived.Test.YtlnmdfgcpfbleaaJac
import Derived.Lib.SmallJoins
import Derived.OpenShut
import Derived.ChangeOld
import Derived.ShutString
import Derived.Deep.Matrix
import Derived.Deep.Slices
import Derived.Deep.Strs
import Derived.Deep.Grids
import Derived.Defers
import Derived.Recover
import Derived.BigQuiet
import Derived.Stop.Asserts
namespace Go.Proofs.Ytlnmdfgcpfbleaa
set_option linter.unusedVariables false
set_option linter.unusedSimpArgs false
open Go.ChangeShapes Go.WideShapes Go.ChangeAt Go.RowKit Go.Deep
theorem vw_of_txs {w : World} {a : Option Addr} {c : Nat} {T : List (List UInt8)} (h : TxS w a T) (h1 : T.length ≤ c) (h2 : c ≤ maxLen) : Cel.vw w (scl T) (.slice a T.length c) := by
 refine ⟨a,c,_,rfl,h1,h2,by rw [svs_len];omega, ?_,vwL_pl.2 rfl⟩
 rcases h with h0 | ⟨b,off,ha,hc⟩
 ·exact .inl h0
 ·refine .inr ⟨b,off,ha,fun i hi => ?_⟩
  rw [svs_get (by omega)]
  exact hc i (by omega)
theorem vw_lcl_of {α : Type} {F : α → List Cel} {s : Nat} {w : World} {b off : Nat} (R : Nat → α) (V : Nat → List Value) : ∀ n,(∀ i,i < n → (V i).length = s ∧ (∀ j,j < s → w.cell? ⟨b,off + i * s + j,none⟩ = (V i)[j]?) ∧ vwL w (F (R i)) (V i)) →
  ∃ us : List Value,us.length = n * s ∧ (∀ j,j < n * s → w.cell? ⟨b,off + j,none⟩ = us[j]?) ∧ vwL w (((List.range n).map R).flatMap F) us
 | 0,_ => ⟨[],by simp,fun j hj => by omega,rfl⟩
 | n + 1,h => by
  obtain ⟨us,h1,h2,h3⟩ := vw_lcl_of R V n (fun i hi => h i (by omega))
  obtain ⟨k1,k2,k3⟩ := h n (by omega)
  have hm : (n + 1) * s = n * s + s := by rw [Nat.add_mul,Nat.one_mul]
  refine ⟨us ++ V n,by rw [List.length_append,h1,k1,hm],fun j hj => ?_, ?_⟩
  ·rcases Nat.lt_or_ge j (n * s) with hj2 | hj2
   ·rw [List.getElem?_append_left (by omega)];exact h2 j hj2
   ·rw [List.getElem?_append_right (by omega),h1]
    have := k2 (j - n * s) (by omega)
    rw [show off + n * s + (j - n * s) = off + j by omega] at this
    exact this
  ·rw [List.range_succ,List.map_append,List.flatMap_append]
   refine vwL_append h3 ?_
   simpa using k3
section
variable {H : Type} {enc : TypeId × Value → H} {P : Program} {W : World} {base : Nat} {held : Bool}
theorem ints_ofC {t e : TypeId} {fuel : Nat} {c : Value} {y : DataW H × List MemPlace} (ht : P.underlying t = some (.slice e)) (he : P.underlying e = some (.int .i64)) (hc : P.cellsOf e = 1) (h : DataW.trod enc P W base (fun _ => true) held fuel t [c] = some y) :
  ∃ a cap M,c = .slice a (List.length M) cap ∧ Cel.vw W (icl M) (.slice a (List.length M) cap) ∧ Fits M ∧ List.length M ≤ maxLen := by
 obtain ⟨a,len,cap,z,rfl,hw⟩ : ∃ a len cap zs,c = .slice a len cap ∧ IsRow .i64 W a len cap zs := by
  rcases open_ints ht he hc h with ⟨hcs,_⟩ | ⟨x,l,c,zs,hcs,_,hl,hm,hz,_,hcell,hwz⟩
  ·simp at hcs
   exact ⟨none,0,0,[],hcs,.inl ⟨rfl,rfl,rfl,rfl⟩⟩
  ·simp at hcs
   exact ⟨some x,l,c,zs,hcs,.inr ⟨_,rfl,hl,hm,by simpa using hz,hcell,hwz⟩⟩
 rcases hw with ⟨rfl,rfl,rfl,rfl⟩ | ⟨ad,rfl,hl,hm,hz,hcell,hwz⟩
 ·exact ⟨none,0,[],rfl,vw_of_vec ⟨rfl,fun x hx => absurd hx List.not_mem_nil,.inl rfl⟩ (Nat.le_refl _) (Nat.zero_le _),fun x hx => absurd hx List.not_mem_nil,Nat.zero_le _⟩
 ·have hz' : z.length = cap := by simpa using hz
  have hlen : (z.take len).length = len := by rw [List.length_take];omega
  have hfit : Fits (z.take len) := fun n hn => bounds_i64 (hwz n (List.mem_of_mem_take hn))
  refine ⟨some ad,cap,z.take len,by rw [hlen],vw_of_vec ⟨rfl,hfit, ?_⟩ (by rw [hlen];exact hl) hm,hfit,by rw [hlen];exact Nat.le_trans hl hm⟩
  rcases Nat.eq_zero_or_pos len with e | e
  ·exact .inl (by omega)
  ·obtain ⟨b,off,spot⟩ := ad
   have hs : spot = none := by
    have := hcell 0 (by omega)
    simpa [Addr.add] using World.cell?_spot this
   subst hs
   refine .inr ⟨b,off,rfl,fun i hi => ?_⟩
   have h1 := hcell i (by omega)
   rw [add_lit0] at h1
   rw [h1]
   simp [el,List.getD,List.getElem?_take_of_lt (show i < len by omega)]
theorem txts_ofC {t e : TypeId} {fuel : Nat} {c : Value} {y : DataW H × List MemPlace} (ht : P.underlying t = some (.slice e)) (he : P.underlying e = some .string) (hc : P.cellsOf e = 1) (h : DataW.trod enc P W base (fun _ => true) held fuel t [c] = some y) :
  ∃ a cap T,c = .slice a (List.length T) cap ∧ Cel.vw W (scl T) (.slice a (List.length T) cap) ∧ LongT T ∧ List.length T ≤ maxLen := by
 rcases open_strs ht he hc h with ⟨hcs,_⟩ | ⟨ad,len,cap,m,S,hcs,_,hl,hm,hmm,_,hx⟩
 ·simp at hcs
  subst hcs
  exact ⟨none,0,[],rfl,vw_of_txs (.inl rfl) (Nat.le_refl _) (Nat.zero_le _),fun i hi => absurd hi (Nat.not_lt_zero _),Nat.zero_le _⟩
 ·simp at hcs
  subst hcs
  have hlm : len ≤ m := by rw [hmm];split <;> omega
  have hlen : ((List.range len).map fun r => (S r).data.toList).length = len := by simp
  have hget : ∀ i,i < len → ((List.range len).map fun r => (S r).data.toList).getD i [] = (S i).data.toList := fun i hi => by simp [List.getD,hi]
  refine ⟨some ad,cap,(List.range len).map fun r => (S r).data.toList,by rw [hlen],vw_of_txs ?_ (by rw [hlen];exact hl) hm,fun i hi => ?_,by rw [hlen];exact Nat.le_trans hl hm⟩
  ·by_cases h0 : len = 0
   ·exact .inl (by rw [hlen];exact h0)
   ·obtain ⟨b,off,spot⟩ := ad
    have hs : spot = none := by
     have := (hx 0 (by omega)).1
     simpa [Addr.add] using World.cell?_spot this
    subst hs
    refine .inr ⟨b,off,rfl,fun i hi => ?_⟩
    rw [hlen] at hi
    rw [hget i hi]
    have hc := (hx i (by omega)).1
    rw [add_lit0] at hc
    rw [hc,← sv_of]
  ·rw [hlen] at hi
   rw [hget i hi]
   exact str_short16 (hx i (by omega)).2
end
set_option maxRecDepth 100000 in
theorem row_ofC {H : Type} {enc : TypeId × Value → H} {W : World} {base fuel : Nat} {held : Bool} {cs : List Value} {x : DataW H × List MemPlace} (h : DataW.trod enc Try.prog W base (fun _ => true) held fuel 47 cs = some x) :
  ∃ r,cs.length = 8 ∧ vwL W (rw8 r) cs ∧ FitR r ∧ LongT r.txt ∧ Rw64 r := by
 obtain ⟨hl,n,hf⟩ := field_of Try.underlying47 (by kernel_rfl) h
 rw [show Try.prog.cellsOf 47 = 8 by kernel_rfl] at hl
 obtain ⟨c0,c1,c2,c3,c4,c5,c6,c7,rfl⟩ := list8 hl
 obtain ⟨y0,g0⟩ := hf 0 _ c0 rfl rfl
 obtain ⟨y1,g1⟩ := hf 1 _ c1 rfl rfl
 obtain ⟨y2,g2⟩ := hf 2 _ c2 rfl rfl
 obtain ⟨y3,g3⟩ := hf 3 _ c3 rfl rfl
 obtain ⟨y4,g4⟩ := hf 4 _ c4 rfl rfl
 obtain ⟨y5,g5⟩ := hf 5 _ c5 rfl rfl
 obtain ⟨y6,g6⟩ := hf 6 _ c6 rfl rfl
 obtain ⟨y7,g7⟩ := hf 7 _ c7 rfl rfl
 obtain ⟨i0,e0,_,b0⟩ := DataW.trod_int Try.underlying2 g0
 obtain ⟨a1,d1,T,rfl,t1,t2,t3⟩ := txts_ofC Try.underlying33 Try.underlying9 (by kernel_rfl) g1
 obtain ⟨a2,d2,M2,rfl,u2,v2,_⟩ := ints_ofC Try.underlying24 Try.underlying2 (by kernel_rfl) g2
 obtain ⟨a3,d3,M3,rfl,u3,v3,_⟩ := ints_ofC Try.underlying24 Try.underlying2 (by kernel_rfl) g3
 obtain ⟨z4,e4,_⟩ := DataW.trod_bool Try.underlying4 g4
 obtain ⟨z5,e5,_⟩ := DataW.trod_bool Try.underlying4 g5
 obtain ⟨i6,e6,_,b6⟩ := DataW.trod_int Try.underlying2 g6
 obtain ⟨a7,d7,M7,rfl,u7,v7,_⟩ := ints_ofC Try.underlying24 Try.underlying2 (by kernel_rfl) g7
 simp at e0 e4 e5 e6
 subst e0 e4 e5 e6
 exact ⟨⟨i0,T,M2,M3,z4,z5,i6,M7⟩,rfl,⟨_,_,rfl,rfl,_,_,rfl,t1,_,_,rfl,u2,_,_,rfl,u3,_,_,rfl,rfl,_,_,rfl,rfl,_,_,rfl,rfl,_,_,rfl,u7,rfl⟩,⟨v2,v3,v7⟩,t2,⟨bounds_i64 b0,bounds_i64 b6⟩⟩
set_option maxRecDepth 100000 in
theorem rows_of {H : Type} {enc : TypeId × Value → H} {W : World} {base fuel : Nat} {held : Bool} {c : Value} {y : DataW H × List MemPlace} (h : DataW.trod enc Try.prog W base (fun _ => true) held fuel 132 [c] = some y) :
  ∃ a cap R,c = .slice a (List.length R) cap ∧ Cel.vw W (lcl 8 rw8 R) (.slice a (List.length R) cap) ∧ (∀ r ∈ R,FitR r ∧ LongT r.txt ∧ Rw64 r) ∧ List.length R ≤ maxLen := by
 rcases open_slice Try.underlying132 h with ⟨h0,_⟩ | ⟨ad,len,cap,m,n,D,Pl,hcs,_,hl,hm,hmm,_,hx⟩
 ·simp at h0
  subst h0
  exact ⟨none,0,[],rfl,⟨none,0,[],rfl,Nat.le_refl _,Nat.zero_le _,rfl,.inl rfl,rfl⟩,fun r hr => absurd hr List.not_mem_nil,Nat.zero_le _⟩
 ·simp at hcs
  subst hcs
  have hlm : len ≤ m := by rw [hmm];split <;> omega
  have ce : Try.prog.cellsOf 47 = 8 := by kernel_rfl
  by_cases h0 : len = 0
  ·subst h0
   exact ⟨some ad,cap,[],rfl,⟨some ad,cap,[],rfl,hl,hm,rfl,.inl rfl,rfl⟩,fun r hr => absurd hr List.not_mem_nil,Nat.zero_le _⟩
  obtain ⟨b,off,spot⟩ := ad
  have each : ∀ i,i < len → ∃ q : List Value × Rw,(q.1.length = 8 ∧ (∀ j,j < 8 → W.cell? ((⟨b,off,spot⟩ : Addr).add (i * 8 + j)) = q.1[j]?) ∧ vwL W (rw8 q.2) q.1) ∧ FitR q.2 ∧ LongT q.2.txt ∧ Rw64 q.2 := by
   intro i hi
   obtain ⟨cs',h1,h2⟩ := hx i (by omega)
   rw [ce] at h1
   obtain ⟨_,hlen,hcell⟩ := World.cells?_some h1
   obtain ⟨r,e8,hv,hf,hg,h6⟩ := row_ofC h2
   refine ⟨(cs',r),⟨e8,fun j hj => ?_,hv⟩,hf,hg,h6⟩
   have := hcell j hj
   rw [add_add] at this
   exact this
  have hs : spot = none := by
   obtain ⟨q,⟨h1,h2,_⟩,_⟩ := each 0 (by omega)
   have := h2 0 (by omega)
   rw [List.getElem?_eq_getElem (by omega)] at this
   simpa [Addr.add] using World.cell?_spot this
  subst hs
  haveI : Inhabited (List Value × Rw) := ⟨([],zeroRw)⟩
  obtain ⟨q,hq⟩ := choose_lt each
  obtain ⟨us,u1,u2,u3⟩ := vw_lcl_of (F := rw8) (s := 8) (w := W) (b := b) (off := off) (fun i => (q i).2) (fun i => (q i).1) len (fun i hi => ⟨(hq i hi).1.1,fun j hj => by have := (hq i hi).1.2.1 j hj;rw [add_lit0,← Nat.add_assoc] at this;exact this,(hq i hi).1.2.2⟩)
  have hlen : ((List.range len).map (fun i => (q i).2)).length = len := by simp
  refine ⟨some ⟨b,off,none⟩,cap,(List.range len).map (fun i => (q i).2),by rw [hlen], ?_,fun r hr => ?_,by rw [hlen];exact Nat.le_trans hl hm⟩
  ·unfold lcl
   rw [hlen]
   exact ⟨_,cap,us,rfl,hl,hm,u1,.inr ⟨b,off,rfl,u2⟩,u3⟩
  ·obtain ⟨i,hi,rfl⟩ := List.mem_map.1 hr
   exact (hq i (List.mem_range.1 hi)).2
theorem list5 {α : Type} {l : List α} (h : l.length = 5) : ∃ c0 c1 c2 c3 c4,l = [c0,c1,c2,c3,c4] := by
 match l,h with
 | [c0,c1,c2,c3,c4],_ => exact ⟨c0,c1,c2,c3,c4,rfl⟩
end Go.Proofs.Ytlnmdfgcpfbleaa
namespace Go.Proofs.Ytlnmdfgcpfbleaa
set_option linter.unusedVariables false
set_option linter.unusedSimpArgs false
open Go.ChangeShapes Go.WideShapes Go.ChangeAt Go.RowKit Go.Deep
set_option maxRecDepth 100000 in
theorem list_of {α : Type} [Inhabited α] {F : α → List Cel} {s : Nat} (hs0 : 0 < s) {el sl : TypeId} (hu : Try.prog.underlying sl = some (.slice el)) (ce : Try.prog.cellsOf el = s) {Q : α → Prop} {H : Type} {enc : TypeId × Value → H} {W : World} {base fuel : Nat} {held : Bool}
  (one : ∀ {base fuel : Nat} {held : Bool} {cs : List Value} {x : DataW H × List MemPlace},DataW.trod enc Try.prog W base (fun _ => true) held fuel el cs = some x → ∃ r : α,cs.length = s ∧ vwL W (F r) cs ∧ Q r)
  {c : Value} {y : DataW H × List MemPlace} (h : DataW.trod enc Try.prog W base (fun _ => true) held fuel sl [c] = some y) :
  ∃ a cap R,c = .slice a (List.length R) cap ∧ Cel.vw W (lcl s F R) (.slice a (List.length R) cap) ∧ (∀ r ∈ R,Q r) ∧ List.length R ≤ maxLen := by
 rcases open_slice hu h with ⟨h0,_⟩ | ⟨ad,len,cap,m,n,D,Pl,hcs,_,hl,hm,hmm,_,hx⟩
 ·simp at h0
  subst h0
  exact ⟨none,0,[],rfl,⟨none,0,[],rfl,Nat.le_refl _,Nat.zero_le _,by simp,.inl rfl,rfl⟩,fun r hr => absurd hr List.not_mem_nil,Nat.zero_le _⟩
 ·simp at hcs
  subst hcs
  have hlm : len ≤ m := by rw [hmm];split <;> omega
  by_cases h0 : len = 0
  ·subst h0
   exact ⟨some ad,cap,[],rfl,⟨some ad,cap,[],rfl,hl,hm,by simp,.inl rfl,rfl⟩,fun r hr => absurd hr List.not_mem_nil,Nat.zero_le _⟩
  obtain ⟨b,off,spot⟩ := ad
  have each : ∀ i,i < len → ∃ q : List Value × α,(q.1.length = s ∧ (∀ j,j < s → W.cell? ((⟨b,off,spot⟩ : Addr).add (i * s + j)) = q.1[j]?) ∧ vwL W (F q.2) q.1) ∧ Q q.2 := by
   intro i hi
   obtain ⟨cs',h1,h2⟩ := hx i (by omega)
   rw [ce] at h1
   obtain ⟨_,hlen,hcell⟩ := World.cells?_some h1
   obtain ⟨r,e8,hv,hf⟩ := one h2
   refine ⟨(cs',r),⟨e8,fun j hj => ?_,hv⟩,hf⟩
   have := hcell j hj
   rw [add_add] at this
   exact this
  have hs : spot = none := by
   obtain ⟨q,⟨h1,h2,_⟩,_⟩ := each 0 (by omega)
   have := h2 0 (by omega)
   rw [List.getElem?_eq_getElem (by omega)] at this
   simpa [Addr.add] using World.cell?_spot this
  subst hs
  haveI : Inhabited (List Value × α) := ⟨([],default)⟩
  obtain ⟨q,hq⟩ := choose_lt each
  obtain ⟨us,u1,u2,u3⟩ := vw_lcl_of (F := F) (s := s) (w := W) (b := b) (off := off) (fun i => (q i).2) (fun i => (q i).1) len (fun i hi => ⟨(hq i hi).1.1,fun j hj => by have := (hq i hi).1.2.1 j hj;rw [add_lit0,← Nat.add_assoc] at this;exact this,(hq i hi).1.2.2⟩)
  have hlen : ((List.range len).map (fun i => (q i).2)).length = len := by simp
  refine ⟨some ⟨b,off,none⟩,cap,(List.range len).map (fun i => (q i).2),by rw [hlen], ?_,fun r hr => ?_,by rw [hlen];exact Nat.le_trans hl hm⟩
  ·unfold lcl
   rw [hlen]
   exact ⟨_,cap,us,rfl,hl,hm,u1,.inr ⟨b,off,rfl,u2⟩,u3⟩
  ·obtain ⟨i,hi,rfl⟩ := List.mem_map.1 hr
   exact (hq i (List.mem_range.1 hi)).2
set_option maxRecDepth 100000 in
theorem mb_ofC {H : Type} {enc : TypeId × Value → H} {W : World} {base fuel : Nat} {held : Bool} {cs : List Value} {x : DataW H × List MemPlace} (h : DataW.trod enc Try.prog W base (fun _ => true) held fuel 134 cs = some x) :
  ∃ m,cs.length = 5 ∧ vwL W (mb5 m) cs ∧ FitM m ∧ LongM m ∧ Mb64 m := by
 obtain ⟨hl,n,hf⟩ := field_of Try.underlying134 (by kernel_rfl) h
 rw [show Try.prog.cellsOf 134 = 5 by kernel_rfl] at hl
 obtain ⟨c0,c1,c2,c3,c4,rfl⟩ := list5 hl
 obtain ⟨y0,g0⟩ := hf 0 _ c0 rfl rfl
 obtain ⟨y1,g1⟩ := hf 1 _ c1 rfl rfl
 obtain ⟨y2,g2⟩ := hf 2 _ c2 rfl rfl
 obtain ⟨y3,g3⟩ := hf 3 _ c3 rfl rfl
 obtain ⟨y4,g4⟩ := hf 4 _ c4 rfl rfl
 obtain ⟨i0,e0,_,b0⟩ := DataW.trod_int Try.underlying2 g0
 obtain ⟨i1,e1,_,b1⟩ := DataW.trod_int Try.underlying2 g1
 obtain ⟨a2,d2,R,rfl,t1,t2,t3⟩ := rows_of g2
 obtain ⟨a3,d3,M3,rfl,u3,v3,_⟩ := ints_ofC Try.underlying24 Try.underlying2 (by kernel_rfl) g3
 obtain ⟨z4,e4,_⟩ := DataW.trod_bool Try.underlying4 g4
 simp at e0 e1 e4
 subst e0 e1 e4
 exact ⟨⟨i0,i1,R,M3,z4⟩,rfl,⟨_,_,rfl,rfl,_,_,rfl,rfl,_,_,rfl,t1,_,_,rfl,u3,_,_,rfl,rfl,rfl⟩,⟨fun r hr => (t2 r hr).1,v3⟩,fun r hr => (t2 r hr).2.1,bounds_i64 b0,bounds_i64 b1,fun r hr => (t2 r hr).2.2⟩
def MlQ (x : Ml) : Prop := FitR x.row ∧ LongT x.row.txt ∧ I64v x.fr ∧ I64v x.to ∧ Rw64 x.row
set_option maxRecDepth 100000 in
theorem ml_ofC {H : Type} {enc : TypeId × Value → H} {W : World} {base fuel : Nat} {held : Bool} {cs : List Value} {x : DataW H × List MemPlace} (h : DataW.trod enc Try.prog W base (fun _ => true) held fuel 137 cs = some x) :
  ∃ m,cs.length = 10 ∧ vwL W (ml10 m) cs ∧ MlQ m := by
 obtain ⟨xs,n,_,rfl,hl,hlen,hf⟩ := DataW.trod_struct Try.underlying137 h
 rw [show Try.prog.cellsOf 137 = 10 by kernel_rfl] at hl
 match xs,hlen with
 | [y0,y1,y2],_ =>
 have k1 : Try.prog.cellsOf 2 = 1 := by kernel_rfl
 have k8 : Try.prog.cellsOf 47 = 8 := by kernel_rfl
 match cs,hl,hf with
 | c0 :: c1 :: r,hl,hf =>
 have hr : r.length = 8 := by simpa using hl
 have g0 : DataW.trod enc Try.prog W base (fun _ => true) held n 2 (((c0 :: c1 :: r).drop 0).take (Try.prog.cellsOf 2)) = some y0 := hf 0 _ rfl
 have g1 : DataW.trod enc Try.prog W base (fun _ => true) held n 2 (((c0 :: c1 :: r).drop 1).take (Try.prog.cellsOf 2)) = some y1 := hf 1 _ rfl
 have g2 : DataW.trod enc Try.prog W base (fun _ => true) held n 47 (((c0 :: c1 :: r).drop 2).take (Try.prog.cellsOf 47)) = some y2 := hf 2 _ rfl
 rw [k1] at g0 g1
 rw [k8] at g2
 simp only [List.drop_zero,List.drop_succ_cons,List.take_succ_cons,List.take_zero,List.take_of_length_le (Nat.le_of_eq hr)] at g0 g1 g2
 obtain ⟨i0,e0,_,b0⟩ := DataW.trod_int Try.underlying2 g0
 obtain ⟨i1,e1,_,b1⟩ := DataW.trod_int Try.underlying2 g1
 obtain ⟨rw,_,v2,f2,l2,s2⟩ := row_ofC g2
 simp at e0 e1
 subst e0 e1
 exact ⟨⟨i0,i1,rw⟩,by simp [hr],⟨_,_,rfl,rfl,_,_,rfl,rfl,v2⟩,f2,l2,bounds_i64 b0,bounds_i64 b1,s2⟩
theorem bo_ofC {H : Type} {enc : TypeId × Value → H} {W : World} {base fuel : Nat} {held : Bool} {cs : List Value} {x : DataW H × List MemPlace} (h : DataW.trod enc Try.prog W base (fun _ => true) held fuel 4 cs = some x) :
  ∃ b,cs.length = 1 ∧ vwL W (bo1 b) cs ∧ True := by
 obtain ⟨z,e,_⟩ := DataW.trod_bool Try.underlying4 h
 subst e
 exact ⟨z,rfl,⟨_,_,rfl,rfl,rfl⟩,trivial⟩
theorem list3 {α : Type} {l : List α} (h : l.length = 3) : ∃ c0 c1 c2,l = [c0,c1,c2] := by
 match l,h with
 | [c0,c1,c2],_ => exact ⟨c0,c1,c2,rfl⟩
set_option maxRecDepth 100000 in
theorem gr_of {H : Type} {enc : TypeId × Value → H} {W : World} {base fuel : Nat} {held : Bool} {cs : List Value} {x : DataW H × List MemPlace} (h : DataW.trod enc Try.prog W base (fun _ => true) held fuel 55 cs = some x) :
  ∃ A g,cs = (grC A g).toList ∧ GrS W A g ∧ LongG g ∧ Gr64 g := by
 obtain ⟨hl,n,hf⟩ := field_of Try.underlying55 (by kernel_rfl) h
 rw [show Try.prog.cellsOf 55 = 3 by kernel_rfl] at hl
 obtain ⟨c0,c1,c2,rfl⟩ := list3 hl
 obtain ⟨y0,g0⟩ := hf 0 _ c0 rfl rfl
 obtain ⟨y1,g1⟩ := hf 1 _ c1 rfl rfl
 obtain ⟨y2,g2⟩ := hf 2 _ c2 rfl rfl
 haveI : Inhabited Mb := ⟨zeroMb⟩
 haveI : Inhabited Ml := ⟨zeroMl⟩
 obtain ⟨a0,d0,M,rfl,t1,t2,t3⟩ := list_of (F := mb5) (s := 5) (by omega) Try.underlying51 (by kernel_rfl) (Q := fun m => FitM m ∧ LongM m ∧ Mb64 m) (fun h => mb_ofC h) g0
 obtain ⟨a1,d1,U,rfl,u1,_,u3⟩ := list_of (F := bo1) (s := 1) (by omega) Try.underlying52 (by kernel_rfl) (Q := fun _ => True) (fun h => bo_ofC h) g1
 obtain ⟨a2,d2,L,rfl,l1,l2,l3⟩ := list_of (F := ml10) (s := 10) (by omega) Try.underlying53 (by kernel_rfl) (Q := MlQ) (fun h => ml_ofC h) g2
 rw [← ocl_lcl] at u1
 have hv : vwL W (gr3 ⟨M,U,L⟩) (grVals ⟨a0,d0,a1,d1,a2,d2⟩ ⟨M,U,L⟩) := ⟨_,_,rfl,t1,_,_,rfl,u1,_,_,rfl,l1,rfl⟩
 exact ⟨⟨a0,d0,a1,d1,a2,d2⟩,⟨M,U,L⟩,rfl,grs_of hv ⟨fun m hm => (t2 m hm).1,fun x hx => (l2 x hx).1⟩,⟨fun m hm => (t2 m hm).2.1,fun x hx => (l2 x hx).2.1⟩,⟨fun m hm => (t2 m hm).2.2,fun x hx => (l2 x hx).2.2⟩⟩
set_option maxRecDepth 100000 in
theorem open_grp {H : Type} {enc : TypeId × Value → H} {W : World} {base : Nat} {v : Value} {d : DataW H} {p : List MemPlace} (hv : Value.okWide Try.prog W .any base 55 v) (h : DataW.Trod enc Try.prog W 0 (fun _ => true) true 55 v d p) :
  ∃ A g,v = grV A g ∧ GrS W A g ∧ LongG g ∧ Gr64 g := by
 obtain ⟨cs,rfl,hsz⟩ := okWide_struct Try.underlying55 hv
 obtain ⟨fuel,hf⟩ := h
 obtain ⟨A,g,e,h1,h2,h3⟩ := gr_of hf
 have e' : cs.toList = (grC A g).toList := by simpa [Value.cells] using e
 exact ⟨A,g,by rw [grV,Array.toList_inj.1 e'],h1,h2,h3⟩
end Go.Proofs.Ytlnmdfgcpfbleaa
namespace Go.Proofs.Ytlnmdfgcpfbleaa
set_option linter.unusedVariables false
set_option linter.unusedSimpArgs false
open Go.RowKit Go.Sort
def Gu (e : Ending) : Prop := ∃ T v,e = .panicked [{ v := .iface T v,recovered := false }]
set_option maxHeartbeats 400000 in
theorem wantT (w : World) : Calls Try.prog 144 #[.bool true] w fun e w' => e = .returned (.tuple #[]) ∧ w' = w := by
 have hnot : ∀ (x : Bool) (w : World),(Op.unary .not (.bool x)).run Try.prog w = .ok (.bool (!x)) w := fun _ _ => rfl
 go_enter Try.func144,Try.ntmps144
 go_wp2
 first | go_end0 | go_ret
 exact ⟨rfl,rfl⟩
set_option maxHeartbeats 400000 in
theorem wantF (w : World) : Calls Try.prog 144 #[.bool false] w fun e w' => Gu e ∧ w' = w := by
 go_enter Try.func144,Try.ntmps144
 go_wp2
 exact ⟨rfl,⟨_,_,rfl⟩,rfl⟩
theorem tellP (p : Addr) (x : Value) (u : TypeId) (pv : Value) (older : List PanicEntry) (w : World) (hc : w.cell? p = some x) (hz : w.frozen? p = false) :
  CallsD Try.prog 143 #[.pointer (some p)] (.panicking ({ v := .iface u pv,recovered := false } :: older)) w fun e u' w' =>
   e = .returned (.tuple #[]) ∧ u' = .panicking ({ v := .iface u pv,recovered := true } :: older) ∧ w' = w.setCell p (.bool false) := by
 refine callsD_of_wpS Try.func143 rfl fun c₀ cs hu => ?_
 apply wpS_region
 simp [wpOpsS,go_sem,recoverD,hu,Try.ntmps143,hc,hz,bodyPostS,results,Try.results143]
theorem tellR (p : Addr) (x : Value) (w : World) (hc : w.cell? p = some x) (hz : w.frozen? p = false) :
  CallsD Try.prog 143 #[.pointer (some p)] .returning w fun e u' w' => e = .returned (.tuple #[]) ∧ u' = .returning ∧ w' = w.setCell p (.bool true) := by
 refine callsD_of_wpS Try.func143 rfl fun c₀ cs hu => ?_
 apply wpS_region
 simp [wpOpsS,go_sem,recoverD,hu,Try.ntmps143,hc,hz,bodyPostS,results,Try.results143]
 cases c₀
 simp_all
set_option maxRecDepth 100000 in
set_option maxHeartbeats 800000 in
theorem told_any (F : Nat) (C D : Array Value) (w : World) (Q : Bool → World → Prop) (hE : ∀ (args : Array Value) (w : World),(callFunc F args).run Try.prog w = .ok (.enter F args) w)
  (h : Calls Try.prog F (C ++ D) (w.alloc (.cells #[.bool false] 4)) fun e w' => (e = .returned (.tuple #[]) ∧ Q true w') ∨ (Gu e ∧ Q false w')) (hq : ∀ b w',Q b w' → Bx w' w.heap.size 4 #[.bool false]) :
  Calls Try.prog 136 #[.func (.func F) C D] w fun e w' => ∃ b X,e = .returned (.bool b) ∧ Q b X ∧ Wrt (fun x => x = w.heap.size) X w' := by
 have hmf : ∀ (fn : Fn) (first cap : Array Value) (w : World),(Instr.makeFunc fn first cap).run Try.prog w = .ok (.func fn first cap) w := fun _ _ _ _ => rfl
 have HQ : Hid (∀ b w',Q b w' → Bx w' w.heap.size 4 #[.bool false]) := hq
 clear hq
 go_enter_defers Try.func136,Try.ntmps136
 go_wp2_with fail
 refine h.mono ?_
 rintro e w1 (⟨rfl,hQ⟩ | ⟨⟨T,v,rfl⟩,hQ⟩)
 ·have hx := HQ.out _ _ hQ
  have c0 := hx.at 0 (v := .bool false) rfl
  have f0 := hx.f 0
  have HQ1 : Hid (Q true w1) := hQ
  clear hQ h hx
  go_wp2
  refine leaves_cons (f := 143) (args := #[.pointer (some ⟨w.heap.size,0,none⟩)]) (by simp) (by simp [go_sem]) ?_
  refine (tellR ⟨w.heap.size,0,none⟩ (.bool true) _ (World.cell?_setCell_same _ _ _ c0) (by rw [World.frozen?_setCell];exact f0)).mono ?_
  rintro e u' w'' ⟨rfl,rfl,rfl⟩
  have hc : ((w1.setCell ⟨w.heap.size,0,none⟩ (.bool true)).setCell ⟨w.heap.size,0,none⟩ (.bool true)).cell? ⟨w.heap.size,0,none⟩ = some (.bool true) := World.cell?_setCell_same _ _ _ (World.cell?_setCell_same _ _ _ c0)
  have hW := (Wrt.set w1 w.heap.size 0 (.bool true)).trans (Wrt.set (w1.setCell ⟨w.heap.size,0,none⟩ (.bool true)) w.heap.size 0 (.bool true)) (fun _ _ h => h)
  generalize (w1.setCell ⟨w.heap.size,0,none⟩ (.bool true)).setCell ⟨w.heap.size,0,none⟩ (.bool true) = W2 at *
  refine ⟨.bool true,by simp [results,Try.results136,go_sem,hc],true,w1,rfl,HQ1.out,hW⟩
 ·have hx := HQ.out _ _ hQ
  have c0 := hx.at 0 (v := .bool false) rfl
  have f0 := hx.f 0
  have HQ1 : Hid (Q false w1) := hQ
  clear hQ h hx
  simp only
  refine leaves_cons (f := 143) (args := #[.pointer (some ⟨w.heap.size,0,none⟩)]) (by simp) (by simp [go_sem]) ?_
  refine (tellP ⟨w.heap.size,0,none⟩ (.bool false) T v [] _ c0 f0).mono ?_
  rintro e u' w'' ⟨rfl,rfl,rfl⟩
  have hc : (w1.setCell ⟨w.heap.size,0,none⟩ (.bool false)).cell? ⟨w.heap.size,0,none⟩ = some (.bool false) := World.cell?_setCell_same _ _ _ c0
  have hW := Wrt.set w1 w.heap.size 0 (.bool false)
  generalize w1.setCell ⟨w.heap.size,0,none⟩ (.bool false) = W2 at *
  refine ⟨.bool false,by simp [results,Try.results136,go_sem,hc],false,w1,rfl,HQ1.out,hW⟩
end Go.Proofs.Ytlnmdfgcpfbleaa
namespace Go.Proofs.Ytlnmdfgcpfbleaa
set_option linter.unusedVariables false
set_option linter.unusedSimpArgs false
open Go.RowKit Go.Sort
set_option maxHeartbeats 400000 in
theorem isW14_any (n last : Int) (w : World) : Calls Try.prog 114 #[.int .i64 n,.int .i64 last] w fun e w' => e = .returned (.bool (inB n 0 last)) ∧ w' = w := by
 by_cases h0 : (0 : Int) ≤ n
 ·have H : Hid (inB n 0 last = decide (n ≤ last)) := by rw [Hid,inB];simp [h0]
  go_enter Try.func114,Try.ntmps114
  go_wp2
  go_ret
  exact ⟨ret_bool (by rw [H.out]),rfl⟩
 ·have H : Hid (inB n 0 last = false) := by rw [Hid,inB];simp [h0]
  go_enter Try.func114,Try.ntmps114
  go_wp2
  go_ret
  exact ⟨ret_bool (by rw [H.out]),rfl⟩
set_option maxHeartbeats 800000 in
theorem rw14_any (a : Option Addr) (len cap : Nat) (B : Int) (xs : List Int) (w : World) (hv : Vec w a len xs) (hm : len ≤ maxLen) :
  Calls Try.prog 117 #[.slice a len cap,.int .i64 (B - 1)] w fun e w' => e = .returned (.bool (decide (okRow B xs))) ∧ w' = w := by
 unfold maxLen at hm
 have HL : Hid (xs.length = len) := hv.1
 have hc := hv.2.2
 clear hv
 go_enter Try.func117,Try.ntmps117
 go_wp2
 go_loop [9] (fun i => ∃ k : Nat,k ≤ len ∧ i = .int .i64 k ∧ (∀ j,j < k → 0 ≤ el xs j ∧ el xs j ≤ B - 1) ∧ ∀ j,j + 1 < k → el xs j < el xs (j + 1)) (fun i => len - (intOf i).toNat)
 case atStart => exact ⟨0,Nat.zero_le _,rfl,fun j hj => by omega,fun j hj => by omega⟩
 case round =>
  obtain ⟨k,hk,rfl,hin,hri⟩ := hrel
  have HI : Hid (∀ j,j < k → 0 ≤ el xs j ∧ el xs j ≤ B - 1) := hin
  have HR : Hid (∀ j,j + 1 < k → el xs j < el xs (j + 1)) := hri
  clear hin hri
  by_cases hlt : k < len
  ·rcases hc with h0 | ⟨b,off,rfl,hc⟩
   ·omega
   have hck := hc k hlt
   have k0 : (0 : Int) ≤ (k : Int) := by omega
   have k1 : (k : Int) < (len : Int) := by omega
   cases e4 : inB (el xs k) 0 (B - 1) with
   | false =>
    have HF : Hid (decide (okRow B xs) = false) := decide_eq_false (fun h => by
     have := h.1 k (by rw [HL.out];exact hlt)
     rw [inB7.2 this] at e4
     cases e4)
    go_wp2_with (go_at_call 114;refine (isW14_any _ _ _).mono ?_;rintro e w' ⟨rfl,hw'⟩;rw [hw'];clear hw')
    go_ret
    exact ⟨ret_bool (by rw [HF.out]),rfl⟩
   | true =>
    have HX : Hid (0 ≤ el xs k ∧ el xs k ≤ B - 1) := inB7.1 e4
    by_cases hk0 : 0 < k
    ·obtain ⟨q,rfl⟩ : ∃ q,k = q + 1 := ⟨k - 1,by omega⟩
     have hcq := hc q (by omega)
     have hg : decide (((q + 1 : Nat) : Int) > 0) = true := decide_eq_true (by omega)
     have g0 : (0 : Int) < ((q + 1 : Nat) : Int) := by omega
     have hq : wrap64 (((q + 1 : Nat) : Int) - 1) = (q : Int) := by unfold wrap64;omega
     have q0 : (0 : Int) ≤ (q : Int) := by omega
     have q1 : (q : Int) < (len : Int) := by omega
     by_cases hx : el xs q < el xs (q + 1)
     ·have hd : decide (el xs (q + 1) ≤ el xs q) = false := by simp;omega
      have HY : Hid (el xs q < el xs (q + 1)) := hx
      clear hx
      go_wp2_with (go_at_call 114;refine (isW14_any _ _ _).mono ?_;rintro e w' ⟨rfl,hw'⟩;rw [hw'];clear hw')
      go_round
      case rel => exact ⟨q + 1 + 1,by omega,by go_num,fun j hj => by
       rcases Nat.lt_succ_iff_lt_or_eq.1 hj with h | h
       ·exact HI.out j h
       ·rw [h];exact HX.out,fun j hj => by
       rcases Nat.lt_succ_iff_lt_or_eq.1 hj with h | h
       ·exact HR.out j h
       ·have : j = q := by omega
        rw [this];exact HY.out⟩
      case measure => simp [intOf];omega
     ·have hd : decide (el xs (q + 1) ≤ el xs q) = true := by simp;omega
      have HF : Hid (decide (okRow B xs) = false) := decide_eq_false (fun h => hx (h.2 q (by rw [HL.out];omega)))
      clear hx
      go_wp2_with (go_at_call 114;refine (isW14_any _ _ _).mono ?_;rintro e w' ⟨rfl,hw'⟩;rw [hw'];clear hw')
      go_ret
      exact ⟨ret_bool (by rw [HF.out]),rfl⟩
    ·obtain rfl : k = 0 := by omega
     rw [Nat.add_zero] at hck
     go_wp2_with (go_at_call 114;refine (isW14_any _ _ _).mono ?_;rintro e w' ⟨rfl,hw'⟩;rw [hw'];clear hw')
     go_round
     case rel => exact ⟨1,by omega,by go_num,fun j hj => by
      obtain rfl : j = 0 := by omega
      exact HX.out,fun j hj => by omega⟩
     case measure => simp [intOf];omega
  ·have hkl : k = len := by omega
   have HF : Hid (decide (okRow B xs) = true) := decide_eq_true ⟨fun j hj => HI.out j (by rw [HL.out] at hj;omega),fun j hj => HR.out j (by rw [HL.out] at hj;omega)⟩
   subst hkl
   clear hc
   go_wp2
   go_ret
   exact ⟨ret_bool (by rw [HF.out]),rfl⟩
def IsIdx (xs : List Int) (x z : Int) : Prop := (∃ k : Nat,k < xs.length ∧ z = (k : Int) ∧ el xs k = x ∧ ∀ j,j < k → el xs j ≠ x) ∨ (z = -1 ∧ ∀ j,j < xs.length → el xs j ≠ x)
theorem IsIdx.mem {xs : List Int} {x z : Int} (h : IsIdx xs x z) : decide (0 ≤ z) = decide (x ∈ xs) := by
 rcases h with ⟨k,hk,rfl,rfl,_⟩ | ⟨rfl,h⟩
 ·rw [decide_eq_true (el_in hk),decide_eq_true (by omega)]
 ·rw [decide_eq_false (by omega),decide_eq_false (fun hx => by obtain ⟨i,hi,e⟩ := el_of hx;exact h i hi e)]
set_option maxHeartbeats 800000 in
theorem idx14_any (a : Option Addr) (cap : Nat) (xs : List Int) (x : Int) (w : World) (hv : Vec w a xs.length xs) (hm : xs.length ≤ maxLen) :
  Calls Try.prog 146 #[.slice a xs.length cap,.int .i64 x] w fun e w' => (∃ z : Int,e = .returned (.int .i64 z) ∧ IsIdx xs x z) ∧ w' = w := by
 unfold maxLen at hm
 have hc := hv.2.2
 clear hv
 go_enter Try.func146,Try.ntmps146
 go_wp2
 go_loop [8] (fun i => ∃ k : Nat,k ≤ xs.length ∧ i = .int .i64 k ∧ ∀ j,j < k → el xs j ≠ x) (fun i => xs.length - (intOf i).toNat)
 case atStart => exact ⟨0,Nat.zero_le _,rfl,fun j hj => by omega⟩
 case round =>
  obtain ⟨k,hk,rfl,hall⟩ := hrel
  have HA : Hid (∀ j,j < k → el xs j ≠ x) := hall
  clear hall
  by_cases hlt : k < xs.length
  ·rcases hc with h0 | ⟨b,off,rfl,hc⟩
   ·omega
   have hck := hc k hlt
   clear hc
   have k0 : (0 : Int) ≤ (k : Int) := by omega
   have k1 : (k : Int) < (xs.length : Int) := by omega
   by_cases hx : el xs k = x
   ·have HX : Hid (IsIdx xs x (k : Int)) := .inl ⟨k,hlt,rfl,hx,HA.out⟩
    have hq : (x == el xs k) = true := by simp [hx]
    clear hx
    generalize el xs k = E at *
    go_wp2
    go_ret
    exact ⟨⟨_,rfl,HX.out⟩,rfl⟩
   ·have HX : Hid (∀ j,j < k + 1 → el xs j ≠ x) := fun j hj => by
     by_cases e : j = k
     ·rw [e];exact hx
     ·exact HA.out j (by omega)
    have hq : (x == el xs k) = false := by simp [Ne.symm hx]
    clear hx
    generalize el xs k = E at *
    go_wp2
    go_round
    case rel => exact ⟨k + 1,by omega,by go_num,HX.out⟩
    case measure => simp [intOf];omega
  ·have k1 : ¬ ((k : Int) < (xs.length : Int)) := by omega
   obtain rfl : k = xs.length := by omega
   clear hc
   go_wp2
   go_ret
   exact ⟨⟨_,rfl,.inr ⟨rfl,HA.out⟩⟩,rfl⟩
set_option maxHeartbeats 400000 in
theorem con14_any (a : Option Addr) (cap : Nat) (xs : List Int) (x : Int) (w : World) (hv : Vec w a xs.length xs) (hm : xs.length ≤ maxLen) :
  Calls Try.prog 138 #[.slice a xs.length cap,.int .i64 x] w fun e w' => e = .returned (.bool (decide (x ∈ xs))) ∧ w' = w := by
 have hI := idx14_any a cap xs x w hv hm
 clear hv
 go_enter Try.func138,Try.ntmps138
 go_wp2_with (go_at_call 146;refine hI.mono ?_;rintro e w' ⟨⟨z,rfl,hz⟩,hw'⟩;rw [hw'];clear hw';have HZ : Hid (IsIdx xs x z) := hz;clear hz)
 go_ret
 exact ⟨ret_bool (by rw [← HZ.out.mem]),rfl⟩
end Go.Proofs.Ytlnmdfgcpfbleaa
namespace Go.Proofs.Ytlnmdfgcpfbleaa
set_option linter.unusedVariables false
set_option linter.unusedSimpArgs false
open Go.RowKit Go.Sort
set_option maxHeartbeats 400000 in
theorem isRl_any (n : Int) (w : World) : Calls Try.prog 84 #[.int .i64 n] w fun e w' => e = .returned (.bool (inB n 1 5)) ∧ w' = w := by
 by_cases h0 : (1 : Int) ≤ n
 ·have H : Hid (inB n 1 5 = decide (n ≤ 5)) := by rw [Hid,inB];simp [h0]
  go_enter Try.func84,Try.ntmps84
  go_wp2
  go_ret
  exact ⟨ret_bool (by rw [H.out]),rfl⟩
 ·have H : Hid (inB n 1 5 = false) := by rw [Hid,inB];simp [h0]
  go_enter Try.func84,Try.ntmps84
  go_wp2
  go_ret
  exact ⟨ret_bool (by rw [H.out]),rfl⟩
def txB (T : List (List UInt8)) : Bool := decide (T.length ≤ 12) && T.all (fun t => decide (t.length ≤ 20))
theorem txB_long {T : List (List UInt8)} {k : Nat} (hk : k < T.length) (h : ¬ (T.getD k []).length ≤ 20) : txB T = false := by
 have : T.all (fun t => decide (t.length ≤ 20)) = false := by
  rw [List.all_eq_false]
  refine ⟨T[k],List.getElem_mem hk, ?_⟩
  rw [List.getD_eq_getElem?_getD,List.getElem?_eq_getElem hk] at h
  simpa using h
 rw [txB,this]
 simp
theorem txB_all {T : List (List UInt8)} (h0 : T.length ≤ 12) (h : ∀ k,k < T.length → (T.getD k []).length ≤ 20) : txB T = true := by
 have : T.all (fun t => decide (t.length ≤ 20)) = true := by
  rw [List.all_eq_true]
  intro t ht
  obtain ⟨j,hj,rfl⟩ := List.mem_iff_getElem.1 ht
  have := h j hj
  rw [List.getD_eq_getElem?_getD,List.getElem?_eq_getElem hj] at this
  simpa using this
 rw [txB,decide_eq_true h0,this]
 rfl
attribute [local irreducible] sv
set_option maxHeartbeats 800000 in
theorem areTx_any (a : Option Addr) (cap : Nat) (T : List (List UInt8)) (w : World) (hv : TxS w a T) (hm : T.length ≤ maxLen) :
  Calls Try.prog 115 #[.slice a T.length cap] w fun e w' => e = .returned (.bool (txB T)) ∧ w' = w := by
 unfold maxLen at hm
 by_cases h12 : T.length ≤ 12
 ·have g12 : ¬ ((12 : Int) < (T.length : Int)) := by omega
  have H12 : Hid (T.length ≤ 12) := h12
  have HV : Hid (TxS w a T) := hv
  clear hv h12
  go_enter Try.func115,Try.ntmps115
  go_wp2
  go_loop [10] (fun i => ∃ k : Nat,k ≤ T.length ∧ i = .int .i64 k ∧ ∀ j,j < k → (T.getD j []).length ≤ 20) (fun i => T.length - (intOf i).toNat)
  case atStart => exact ⟨0,Nat.zero_le _,rfl,fun j hj => by omega⟩
  case round =>
   obtain ⟨k,hk,rfl,hall⟩ := hrel
   have HA : Hid (∀ j,j < k → (T.getD j []).length ≤ 20) := hall
   clear hall
   by_cases hlt : k < T.length
   ·rcases HV.out with h0 | ⟨b,off,rfl,hc⟩
    ·omega
    have hck := hc k hlt
    have k1 : (k : Int) < (T.length : Int) := by omega
    have k0 : (0 : Int) ≤ (k : Int) := by omega
    clear hc
    by_cases h20 : (T.getD k []).length ≤ 20
    ·have g20 : ¬ ((20 : Int) < ((T.getD k []).length : Int)) := by omega
     have HN : Hid (∀ j,j < k + 1 → (T.getD j []).length ≤ 20) := fun j hj => by
      rcases Nat.lt_succ_iff_lt_or_eq.1 hj with h1 | h1
      ·exact HA.out j h1
      ·rw [h1];exact h20
     generalize T.getD k [] = t at *
     have hz : (sv t).size = t.length := sv_size t
     clear h20
     go_wp2
     go_round
     case rel => exact ⟨k + 1,by omega,by go_num,HN.out⟩
     case measure => simp [intOf];omega
    ·have g20 : (20 : Int) < ((T.getD k []).length : Int) := by omega
     have HZ : Hid (txB T = false) := txB_long (k := k) hlt h20
     generalize T.getD k [] = t at *
     have hz : (sv t).size = t.length := sv_size t
     clear h20
     go_wp2
     go_ret
     exact ⟨ret_bool (by rw [HZ.out]),rfl⟩
   ·have k1 : ¬ ((k : Int) < (T.length : Int)) := by omega
    have HZ : Hid (txB T = true) := txB_all H12.out (fun j hj => HA.out j (by omega))
    go_wp2
    go_ret
    exact ⟨ret_bool (by rw [HZ.out]),rfl⟩
 ·have g12 : (12 : Int) < (T.length : Int) := by omega
  have HZ : Hid (txB T = false) := by rw [Hid,txB,decide_eq_false h12];rfl
  clear hv h12
  go_enter Try.func115,Try.ntmps115
  go_wp2
  go_ret
  exact ⟨ret_bool (by rw [HZ.out]),rfl⟩
theorem hi16 {x m : Int} : ∀ {xs : List Int},hiL x xs ≤ m ↔ x ≤ m ∧ ∀ y ∈ xs,y ≤ m := by
 intro xs
 induction xs generalizing x with
 | nil => simp [hiL]
 | cons y ys ih =>
  show hiL (max x y) ys ≤ m ↔ _
  rw [ih]
  simp only [List.mem_cons]
  constructor
  ·rintro ⟨h1,h2⟩
   exact ⟨by omega,fun z hz => by rcases hz with rfl | hz;omega;exact h2 z hz⟩
  ·rintro ⟨h1,h2⟩
   exact ⟨by have := h2 y (.inl rfl);omega,fun z hz => h2 z (.inr hz)⟩
theorem sm_gr {v : List Int} {n : Int} (h1 : (v.length : Int) = n) (h2 : okB v = true) : smB v n = decide (hiL (el v 0) v.tail ≤ 12) := by
 have hl := (okB_len h2).1
 rw [smB,h2,decide_eq_true h1,Bool.true_and,Bool.true_and,Bool.eq_iff_iff,decide_eq_true_eq,hi16,List.all_eq_true]
 cases v with
 | nil => simp at hl
 | cons x xs =>
  simp only [decide_eq_true_eq,List.mem_cons,List.tail_cons]
  constructor
  ·intro h
   exact ⟨h _ (.inl rfl),fun y hy => h y (.inr hy)⟩
  ·rintro ⟨h,h'⟩ y hy
   rcases hy with rfl | hy
   ·exact h
   ·exact h' y hy
set_option maxRecDepth 100000 in
set_option maxHeartbeats 800000 in
theorem areCt_any (a : Option Addr) (cap : Nat) (v : List Int) (n : Int) (w : World) (hv : Vec w a v.length v) (hcap : v.length ≤ cap) (hm : cap ≤ maxLen) :
  Calls Try.prog 116 #[.slice a v.length cap,.int .i64 n] w fun e w' => e = .returned (.bool (smB v n)) ∧ ∃ m,w' = w.drewN m := by
 have hV := vok_any a v.length cap v w hv hcap hm
 have hml : v.length ≤ maxLen := Nat.le_trans hcap hm
 unfold maxLen at hml
 by_cases hl : (v.length : Int) = n
 ·have e1 : ((v.length : Int) == n) = true := by simpa using hl
  cases hb : okB v with
  | false =>
   rw [hb] at hV
   have HZ : Hid (smB v n = false) := by rw [Hid,smB,hb];rfl
   clear hb hl hv
   go_enter Try.func116,Try.ntmps116
   go_wp2_with (go_at_call 72;refine hV.mono ?_;rintro e w' ⟨rfl,n1,rfl⟩)
   go_ret
   exact ⟨ret_bool (by rw [HZ.out]),_,rfl⟩
  | true =>
   rw [hb] at hV
   have HZ : Hid (smB v n = decide (hiL (el v 0) v.tail ≤ 12)) := sm_gr hl hb
   have h18 := okB_len hb
   clear hb hl
   obtain ⟨_,hf,hcs⟩ := hv
   have hG : Hid (∀ n,Calls Try.prog 111 #[.slice a v.length cap] (w.drewN n) fun e w' => e = .returned (.int .i64 (hiL (el v 0) v.tail)) ∧ ∃ m,w' = (w.drewN n).drewN m) := by
    intro n
    rcases hcs with h0 | ⟨b,off,rfl,hc⟩
    ·omega
    ·exact vgreatest_any b off v.length cap v _ rfl hf (fun k hk => by rw [World.cell?_drewN];exact hc k hk) (by omega) hcap hm
   clear hcs hf h18
   generalize hiL (el v 0) v.tail = G at *
   go_enter Try.func116,Try.ntmps116
   go_wp2_with (first | (go_at_call 72;refine hV.mono ?_;rintro e w' ⟨rfl,n1,rfl⟩) | (go_at_call 111;refine (hG.out _).mono ?_;rintro e w' ⟨rfl,n2,rfl⟩))
   go_ret
   exact ⟨ret_bool (by rw [HZ.out]),_,rfl⟩
 ·have e1 : ((v.length : Int) == n) = false := by simpa using hl
  have HZ : Hid (smB v n = false) := by rw [Hid,smB,decide_eq_false hl];simp
  clear hl hv hV
  go_enter Try.func116,Try.ntmps116
  go_wp2
  go_ret
  exact ⟨ret_bool (by rw [HZ.out]),0,rfl⟩
theorem sus_row (n : Int) (l : List Int) : decide (okRow n l) = susB l n := by
 rw [Bool.eq_iff_iff,decide_eq_true_eq,susB,Bool.and_eq_true,List.all_eq_true,okRow,risB,decide_eq_true_eq]
 constructor
 ·rintro ⟨h1,h2⟩
  refine ⟨fun x hx => ?_,h2⟩
  obtain ⟨j,hj,rfl⟩ := List.mem_iff_getElem.1 hx
  have := h1 j hj
  rw [el_eq hj] at this
  exact inB7.2 this
 ·rintro ⟨h1,h2⟩
  exact ⟨fun i hi => inB7.1 (h1 _ (el_mem hi)),h2⟩
end Go.Proofs.Ytlnmdfgcpfbleaa
namespace Go.Proofs.Ytlnmdfgcpfbleaa
set_option linter.unusedVariables false
set_option linter.unusedSimpArgs false
open Go.RowKit Go.Sort
def stV (A : Ra) (r : Rw) : Value := if r.rdy then .iface 150 (rwV A r) else if r.wed then .iface 151 (rwV A r) else .iface 152 (rwV A r)
def flB (r : Rw) : Bool := if r.rdy then r.wed else decide (r.by_ = 0) && decide (r.trm = [])
def lsB (r : Rw) (n : Int) : Bool := !r.rdy || (inB r.by_ 0 (n - 1) && smB r.trm n)
theorem endB_fl (r : Rw) (n : Int) : endB r n = (flB r && lsB r n) := by
 unfold endB flB lsB
 cases r.rdy <;> simp
set_option maxRecDepth 100000 in
set_option maxHeartbeats 1600000 in
theorem flag_any (A : Ra) (r : Rw) (w : World) (hm : r.trm.length ≤ maxLen) :
  Calls Try.prog 118 #[rwV A r] w fun e w' => ∃ s,e = .returned (.tuple #[s,.bool (flB r)]) ∧ (flB r = true → s = stV A r) ∧ Below w.heap.size w w' := by
 have hB0 := oneA16 w (.cells (rwC A r) 35)
 have hx := Bx.new w 35 (rwC A r)
 generalize hW : w.alloc (.cells (rwC A r) 35) = W at *
 obtain ⟨ver,txt,got,sus,wed,rdy,by_,trm⟩ := r
 obtain ⟨ta,tc,ga,gc,sa,sc,ma,mc⟩ := A
 have hw0 : w.alloc (.cells #[.int .i64 ver,.slice ta txt.length tc,.slice ga got.length gc,.slice sa sus.length sc,.bool wed,.bool rdy,.int .i64 by_,.slice ma trm.length mc] 35) = W := hW
 obtain ⟨⟨c0,c1,c2,c3⟩,c4,c5,c6,c7⟩ := Bx.r8 hx
 simp only at c0 c1 c2 c3 c4 c5 c6 c7 hm
 have HB0 : Hid (Below w.heap.size w W) := hB0
 unfold maxLen at hm
 unfold rwV rwC
 clear hx hW hB0
 simp only
 cases rdy with
 | true =>
  have HZ : Hid (flB ⟨ver,txt,got,sus,wed,true,by_,trm⟩ = wed) := by rw [Hid,flB];rfl
  go_enter Try.func118,Try.ntmps118
  go_wp2_with fail
  go_quiet (fail)
  go_wp2
  refine bodyPost_ret (v := .tuple #[.iface 150 (.agg #[.int .i64 ver,.slice ta txt.length tc,.slice ga got.length gc,.slice sa sus.length sc,.bool wed,.bool true,.int .i64 by_,.slice ma trm.length mc]),.bool wed]) (by simp [results,Try.results118,go_sem, *]) rfl ?_
  exact ⟨stV ⟨ta,tc,ga,gc,sa,sc,ma,mc⟩ ⟨ver,txt,got,sus,wed,true,by_,trm⟩,by rw [HZ.out];rfl,fun _ => rfl,belowN HB0.out⟩
 | false =>
  by_cases hy : by_ = 0
  ·have e1 : (by_ != 0) = false := by simpa using hy
   by_cases ht : trm = []
   ·have g1 : ¬ ((0 : Int) < (trm.length : Int)) := by rw [ht];simp
    have HZ : Hid (flB ⟨ver,txt,got,sus,wed,false,by_,trm⟩ = true) := by rw [Hid,flB];simp [hy,ht]
    clear hy ht
    cases wed with
    | true =>
     go_enter Try.func118,Try.ntmps118
     go_wp2
     refine bodyPost_ret (v := .tuple #[.iface 151 (.agg #[.int .i64 ver,.slice ta txt.length tc,.slice ga got.length gc,.slice sa sus.length sc,.bool true,.bool false,.int .i64 by_,.slice ma trm.length mc]),.bool true]) (by simp [results,Try.results118,go_sem, *]) rfl ?_
     exact ⟨stV ⟨ta,tc,ga,gc,sa,sc,ma,mc⟩ ⟨ver,txt,got,sus,true,false,by_,trm⟩,by rw [HZ.out];rfl,fun _ => rfl,HB0.out⟩
    | false =>
     go_enter Try.func118,Try.ntmps118
     go_wp2
     refine bodyPost_ret (v := .tuple #[.iface 152 (.agg #[.int .i64 ver,.slice ta txt.length tc,.slice ga got.length gc,.slice sa sus.length sc,.bool false,.bool false,.int .i64 by_,.slice ma trm.length mc]),.bool true]) (by simp [results,Try.results118,go_sem, *]) rfl ?_
     exact ⟨stV ⟨ta,tc,ga,gc,sa,sc,ma,mc⟩ ⟨ver,txt,got,sus,false,false,by_,trm⟩,by rw [HZ.out];rfl,fun _ => rfl,HB0.out⟩
   ·have g1 : (0 : Int) < (trm.length : Int) := by
     cases trm with
     | nil => exact absurd rfl ht
     | cons x xs => simp only [List.length_cons];omega
    have HZ : Hid (flB ⟨ver,txt,got,sus,wed,false,by_,trm⟩ = false) := by rw [Hid,flB];simp [ht]
    clear hy ht
    go_enter Try.func118,Try.ntmps118
    go_wp2
    refine bodyPost_ret (v := .tuple #[.nilIface,.bool false]) (by simp [results,Try.results118,go_sem, *]) rfl ?_
    exact ⟨.nilIface,by rw [HZ.out],fun h => (by rw [HZ.out] at h;cases h),HB0.out⟩
  ·have e1 : (by_ != 0) = true := by simpa using hy
   have HZ : Hid (flB ⟨ver,txt,got,sus,wed,false,by_,trm⟩ = false) := by rw [Hid,flB];simp [hy]
   clear hy
   go_enter Try.func118,Try.ntmps118
   go_wp2
   refine bodyPost_ret (v := .tuple #[.nilIface,.bool false]) (by simp [results,Try.results118,go_sem, *]) rfl ?_
   exact ⟨.nilIface,by rw [HZ.out],fun h => (by rw [HZ.out] at h;cases h),HB0.out⟩
theorem asE_any (v : Value) (w : World) : (Instr.typeAssert (.iface 150 v) 88 154 true).run Try.prog w = .ok (.tuple #[.iface 150 v,.bool true]) w := by kernel_rfl
theorem asW_any (v : Value) (w : World) : (Instr.typeAssert (.iface 151 v) 88 154 true).run Try.prog w = .ok (.tuple #[.nilIface,.bool false]) w := run_typeAssert_lacksB Try.underlying154 (by kernel_rfl) (by kernel_rfl) v 88 w
theorem asS_any (v : Value) (w : World) : (Instr.typeAssert (.iface 152 v) 88 154 true).run Try.prog w = .ok (.tuple #[.nilIface,.bool false]) w := run_typeAssert_lacksB Try.underlying154 (by kernel_rfl) (by kernel_rfl) v 88 w
theorem mtE_any (v : Value) (w : World) : (Go.method 287 150 v "loop.example/g00266/impl.end").run Try.prog w = .ok (171, v) w := by kernel_rfl
set_option maxRecDepth 100000 in
set_option maxHeartbeats 800000 in
theorem endI_any (A : Ra) (r : Rw) (w : World) :
  Calls Try.prog 171 #[rwV A r] w fun e w' => e = .returned (.tuple #[.int .i64 r.by_,.slice A.ma r.trm.length A.mc]) ∧ Below w.heap.size w w' := by
 have hB0 := oneA16 w (.cells (rwC A r) 150)
 have hx := Bx.new w 150 (rwC A r)
 generalize hW : w.alloc (.cells (rwC A r) 150) = W at *
 obtain ⟨ver,txt,got,sus,wed,rdy,by_,trm⟩ := r
 obtain ⟨ta,tc,ga,gc,sa,sc,ma,mc⟩ := A
 have hw0 : w.alloc (.cells #[.int .i64 ver,.slice ta txt.length tc,.slice ga got.length gc,.slice sa sus.length sc,.bool wed,.bool rdy,.int .i64 by_,.slice ma trm.length mc] 150) = W := hW
 obtain ⟨⟨c0,c1,c2,c3⟩,c4,c5,c6,c7⟩ := Bx.r8 hx
 simp only at c0 c1 c2 c3 c4 c5 c6 c7
 have HB0 : Hid (Below w.heap.size w W) := hB0
 unfold rwV rwC
 clear hx hW hB0
 simp only
 go_enter Try.func171,Try.ntmps171
 go_wp2_with fail
 go_quiet (fail)
 go_wp2
 refine bodyPost_ret (v := .tuple #[.int .i64 by_,.slice ma trm.length mc]) (by simp [results,Try.results171,go_sem, *]) rfl ?_
 exact ⟨rfl,belowN HB0.out⟩
set_option maxRecDepth 100000 in
set_option maxHeartbeats 1600000 in
theorem endR_any (A : Ra) (r : Rw) (n : Int) (w : World) (hv : RwP w A r) (hn : 1 ≤ n ∧ n ≤ 5) :
  Calls Try.prog 119 #[stV A r,.int .i64 n] w fun e w' => e = .returned (.bool (lsB r n)) ∧ Below w.heap.size w w' := by
 have hwn : wrap64 (n - 1) = n - 1 := by unfold wrap64;omega
 clear hn
 cases e1 : r.rdy with
 | false =>
  have HZ : Hid (lsB r n = true) := by rw [Hid,lsB,e1];rfl
  unfold stV
  rw [e1]
  clear e1 hv
  cases e2 : r.wed with
  | false =>
   clear e2
   generalize rwV A r = v
   have ha := asS_any v
   simp only [Bool.false_eq_true,if_false]
   go_enter Try.func119,Try.ntmps119
   go_wp2
   go_ret
   exact ⟨ret_bool (by rw [HZ.out]),Below.refl _ _⟩
  | true =>
   clear e2
   generalize rwV A r = v
   have ha := asW_any v
   simp only [Bool.false_eq_true,if_false,if_true]
   go_enter Try.func119,Try.ntmps119
   go_wp2
   go_ret
   exact ⟨ret_bool (by rw [HZ.out]),Below.refl _ _⟩
 | true =>
  have hE := fun X => endI_any A r X
  have HC : Hid (∀ X,Below w.heap.size w X → Calls Try.prog 116 #[.slice A.ma r.trm.length A.mc,.int .i64 n] X fun e w' => e = .returned (.bool (smB r.trm n)) ∧ ∃ m,w' = X.drewN m) := fun X h => areCt_any A.ma A.mc r.trm n X (hv.below h).trm.vec hv.trm.le hv.trm.mx
  have HZ : Hid (lsB r n = (inB r.by_ 0 (n - 1) && smB r.trm n)) := by rw [Hid,lsB,e1];rfl
  unfold stV
  rw [e1]
  clear e1 hv
  generalize rwV A r = v at *
  generalize r.by_ = Y at *
  generalize r.trm.length = L at *
  generalize smB r.trm n = Q at *
  obtain ⟨ta,tc,ga,gc,sa,sc,ma,mc⟩ := A
  simp only at hE HC
  have ha := asE_any v
  have hm := mtE_any v
  simp only [if_true]
  cases e2 : inB Y 0 (n - 1) with
  | false =>
   rw [e2] at HZ
   go_enter Try.func119,Try.ntmps119
   go_wp2_with (first | (go_at_call 171;refine (hE _).mono ?_;rintro e w1 ⟨rfl,hb1⟩) | (go_at_call 114;refine (isW14_any _ _ _).mono ?_;rintro e w' ⟨rfl,hw'⟩;rw [hw',e2];clear hw'))
   go_ret
   exact ⟨ret_bool (by rw [HZ.out];rfl),hb1⟩
  | true =>
   rw [e2] at HZ
   go_enter Try.func119,Try.ntmps119
   go_wp2_with (first | (go_at_call 171;refine (hE _).mono ?_;rintro e w1 ⟨rfl,hb1⟩) | (go_at_call 114;refine (isW14_any _ _ _).mono ?_;rintro e w' ⟨rfl,hw'⟩;rw [hw',e2];clear hw') | (go_at_call 116;refine (HC.out _ hb1).mono ?_;rintro e w' ⟨rfl,m1,rfl⟩))
   go_ret
   exact ⟨ret_bool (by rw [HZ.out];rfl),belowN hb1⟩
end Go.Proofs.Ytlnmdfgcpfbleaa
namespace Go.Proofs.Ytlnmdfgcpfbleaa
set_option linter.unusedVariables false
set_option linter.unusedSimpArgs false
open Go.RowKit Go.Sort
theorem okRw_tx {r : Rw} {n : Int} (h : txB r.txt = false) : okRw r n = false := by
 rw [txB,Bool.and_eq_false_iff] at h
 rw [okRw]
 rcases h with h | h <;> simp [h]
theorem okRw_ends {r : Rw} {n : Int} (h1 : inB n 1 5 = true) (h2 : inB r.ver 0 1000000 = true) (h3 : txB r.txt = true) (h4 : smB r.got n = true) (h5 : susB r.sus n = true) : okRw r n = (flB r && lsB r n) := by
 rw [txB,Bool.and_eq_true] at h3
 rw [← endB_fl,okRw,h1,h2,h3.1,h3.2,h4,h5]
 rfl
set_option maxRecDepth 100000 in
set_option maxHeartbeats 3200000 in
theorem stOf_any (A : Ra) (r : Rw) (n : Int) (w : World) (hv : RwP w A r) :
  Calls Try.prog 79 #[rwV A r,.int .i64 n] w fun e w' => ∃ s,e = .returned (.tuple #[s,.bool (okRw r n)]) ∧ (okRw r n = true → s = stV A r) ∧ Below w.heap.size w w' := by
 have hB0 := oneA16 w (.cells (rwC A r) 35)
 have hx := Bx.new w 35 (rwC A r)
 have h0 := hv.below hB0
 generalize hW : w.alloc (.cells (rwC A r) 35) = W at *
 have hS := h0.rws
 have hTx := areTx_any A.ta A.tc r.txt W h0.txt.txs hS.mt
 have hCt := areCt_any A.ga A.gc r.got n W h0.got.vec h0.got.le h0.got.mx
 have hSu : ∀ m,Calls Try.prog 117 #[.slice A.sa r.sus.length A.sc,.int .i64 (n - 1)] (W.drewN m) fun e w' => e = .returned (.bool (susB r.sus n)) ∧ w' = W.drewN m := fun m => by
  have := rw14_any A.sa r.sus.length A.sc n r.sus (W.drewN m) (h0.below (belowN (Below.refl _ _))).sus.vec hS.ms
  rw [sus_row] at this
  exact this
 have hFl := fun X => flag_any A r X hS.mm
 have hEn : ∀ X,Below W.heap.size W X → 1 ≤ n ∧ n ≤ 5 → Calls Try.prog 119 #[stV A r,.int .i64 n] X fun e w' => e = .returned (.bool (lsB r n)) ∧ Below X.heap.size X w' := fun X h hn => endR_any A r n X (h0.below h) hn
 have HZn : Hid (inB n 1 5 = false → okRw r n = false) := fun h => okRw_n h
 have HZv : Hid (inB r.ver 0 1000000 = false → okRw r n = false) := fun h => okRw_v h
 have HZt : Hid (txB r.txt = false → okRw r n = false) := fun h => okRw_tx h
 have HZg : Hid (smB r.got n = false → okRw r n = false) := fun h => okRw_g h
 have HZs : Hid (susB r.sus n = false → okRw r n = false) := fun h => okRw_s h
 have HZe : Hid (inB n 1 5 = true → inB r.ver 0 1000000 = true → txB r.txt = true → smB r.got n = true → susB r.sus n = true → okRw r n = (flB r && lsB r n)) := fun a b c d e => okRw_ends a b c d e
 have HB0 : Hid (Below w.heap.size w W) := hB0
 have HSt : Hid (∀ s : Value,s = stV A r → s = stV A r) := fun _ h => h
 generalize hq : okRw r n = Q at *
 clear hq
 generalize stV A r = V at *
 generalize flB r = fl at *
 generalize lsB r n = ls at *
 generalize txB r.txt = tb at *
 generalize smB r.got n = sg at *
 generalize susB r.sus n = sb at *
 obtain ⟨ver,txt,got,sus,wed,rdy,by_,trm⟩ := r
 obtain ⟨ta,tc,ga,gc,sa,sc,ma,mc⟩ := A
 have hw0 : w.alloc (.cells #[.int .i64 ver,.slice ta txt.length tc,.slice ga got.length gc,.slice sa sus.length sc,.bool wed,.bool rdy,.int .i64 by_,.slice ma trm.length mc] 35) = W := hW
 obtain ⟨⟨c0,c1,c2,c3⟩,c4,c5,c6,c7⟩ := Bx.r8 hx
 simp only [rwV,rwC] at c0 c1 c2 c3 c4 c5 c6 c7 hTx hCt hSu hFl HZv HZe
 unfold rwV rwC
 clear hv h0 hx hW hB0 hS
 simp only
 cases e1 : inB n 1 5 with
 | false =>
  have HZ : Hid (Q = false) := HZn.out e1
  go_enter Try.func79,Try.ntmps79
  go_wp2_with (first | (go_at_call 84;refine (isRl_any _ _).mono ?_;rintro e w' ⟨rfl,hw'⟩;rw [hw',e1];clear hw'))
  refine bodyPost_ret (v := .tuple #[.nilIface,.bool false]) (by simp [results,Try.results79,go_sem, *]) rfl ?_
  exact ⟨.nilIface,by rw [HZ.out],fun h => (by rw [HZ.out] at h;cases h),HB0.out⟩
 | true =>
 have hn5 := inB7.1 e1
 have hwn : wrap64 (n - 1) = n - 1 := by unfold wrap64;omega
 have hEn2 := fun X h => hEn X h hn5
 have HN1 : Hid (inB n 1 5 = true) := e1
 have hRl : ∀ X,Calls Try.prog 84 #[.int .i64 n] X fun e w' => e = .returned (.bool true) ∧ w' = X := fun X => by
  have := isRl_any n X
  rw [e1] at this
  exact this
 clear e1 hEn hn5
 cases e2 : inB ver 0 1000000 with
 | false =>
  have HZ : Hid (Q = false) := HZv.out e2
  go_enter Try.func79,Try.ntmps79
  go_wp2_with (first | (go_at_call 84;refine (hRl _).mono ?_;rintro e w' ⟨rfl,hw'⟩;rw [hw'];clear hw') | (go_at_call 114;refine (isW14_any _ _ _).mono ?_;rintro e w' ⟨rfl,hw'⟩;rw [hw',e2];clear hw'))
  refine bodyPost_ret (v := .tuple #[.nilIface,.bool false]) (by simp [results,Try.results79,go_sem, *]) rfl ?_
  exact ⟨.nilIface,by rw [HZ.out],fun h => (by rw [HZ.out] at h;cases h),HB0.out⟩
 | true =>
 have HN2 : Hid (inB ver 0 1000000 = true) := e2
 have hWi : ∀ X,Calls Try.prog 114 #[.int .i64 ver,.int .i64 1000000] X fun e w' => e = .returned (.bool true) ∧ w' = X := fun X => by
  have := isW14_any ver 1000000 X
  rw [e2] at this
  exact this
 clear e2
 cases tb with
 | false =>
  have HZ : Hid (Q = false) := HZt.out rfl
  go_enter Try.func79,Try.ntmps79
  go_wp2_with (first | (go_at_call 84;refine (hRl _).mono ?_;rintro e w' ⟨rfl,hw'⟩;rw [hw'];clear hw') | (go_at_call 114;refine (hWi _).mono ?_;rintro e w' ⟨rfl,hw'⟩;rw [hw'];clear hw') | (go_at_call 115;refine hTx.mono ?_;rintro e w' ⟨rfl,hw'⟩;rw [hw'];clear hw'))
  refine bodyPost_ret (v := .tuple #[.nilIface,.bool false]) (by simp [results,Try.results79,go_sem, *]) rfl ?_
  exact ⟨.nilIface,by rw [HZ.out],fun h => (by rw [HZ.out] at h;cases h),HB0.out⟩
 | true =>
 cases sg with
 | false =>
  have HZ : Hid (Q = false) := HZg.out rfl
  go_enter Try.func79,Try.ntmps79
  go_wp2_with (first | (go_at_call 84;refine (hRl _).mono ?_;rintro e w' ⟨rfl,hw'⟩;rw [hw'];clear hw') | (go_at_call 114;refine (hWi _).mono ?_;rintro e w' ⟨rfl,hw'⟩;rw [hw'];clear hw') | (go_at_call 115;refine hTx.mono ?_;rintro e w' ⟨rfl,hw'⟩;rw [hw'];clear hw') | (go_at_call 116;refine hCt.mono ?_;rintro e w' ⟨rfl,m1,rfl⟩))
  refine bodyPost_ret (v := .tuple #[.nilIface,.bool false]) (by simp [results,Try.results79,go_sem, *]) rfl ?_
  exact ⟨.nilIface,by rw [HZ.out],fun h => (by rw [HZ.out] at h;cases h),belowN HB0.out⟩
 | true =>
 cases sb with
 | false =>
  have HZ : Hid (Q = false) := HZs.out rfl
  go_enter Try.func79,Try.ntmps79
  go_wp2_with (first | (go_at_call 84;refine (hRl _).mono ?_;rintro e w' ⟨rfl,hw'⟩;rw [hw'];clear hw') | (go_at_call 114;refine (hWi _).mono ?_;rintro e w' ⟨rfl,hw'⟩;rw [hw'];clear hw') | (go_at_call 115;refine hTx.mono ?_;rintro e w' ⟨rfl,hw'⟩;rw [hw'];clear hw') | (go_at_call 116;refine hCt.mono ?_;rintro e w' ⟨rfl,m1,rfl⟩) | (go_at_call 117;refine (hSu _).mono ?_;rintro e w' ⟨rfl,hw'⟩;rw [hw'];clear hw'))
  refine bodyPost_ret (v := .tuple #[.nilIface,.bool false]) (by simp [results,Try.results79,go_sem, *]) rfl ?_
  exact ⟨.nilIface,by rw [HZ.out],fun h => (by rw [HZ.out] at h;cases h),belowN HB0.out⟩
 | true =>
 have HE : Hid (Q = (fl && ls)) := HZe.out HN1.out HN2.out rfl rfl rfl
 clear HZn HZv HZt HZg HZs HZe HN1 HN2
 cases fl with
 | false =>
  have HZ : Hid (Q = false) := by rw [Hid,HE.out];rfl
  go_enter Try.func79,Try.ntmps79
  go_wp2_with (first | (go_at_call 84;refine (hRl _).mono ?_;rintro e w' ⟨rfl,hw'⟩;rw [hw'];clear hw') | (go_at_call 114;refine (hWi _).mono ?_;rintro e w' ⟨rfl,hw'⟩;rw [hw'];clear hw') | (go_at_call 115;refine hTx.mono ?_;rintro e w' ⟨rfl,hw'⟩;rw [hw'];clear hw') | (go_at_call 116;refine hCt.mono ?_;rintro e w' ⟨rfl,m1,rfl⟩) | (go_at_call 117;refine (hSu _).mono ?_;rintro e w' ⟨rfl,hw'⟩;rw [hw'];clear hw') | (go_at_call 118;refine (hFl _).mono ?_;rintro e w1 ⟨s1,rfl,hs1,hb1⟩;have HB1 : Hid (Below w.heap.size w w1) := ((belowN HB0.out).trans (hb1.mono (belowN HB0.out).size));clear hb1 hs1))
  refine bodyPost_ret (v := .tuple #[s1,.bool false]) (by simp [results,Try.results79,go_sem, *]) rfl ?_
  exact ⟨s1,by rw [HZ.out],fun h => (by rw [HZ.out] at h;cases h),HB1.out⟩
 | true =>
  have HZ : Hid (Q = ls) := by rw [Hid,HE.out];rfl
  have hF2 : ∀ X,Calls Try.prog 118 #[.agg #[.int .i64 ver,.slice ta txt.length tc,.slice ga got.length gc,.slice sa sus.length sc,.bool wed,.bool rdy,.int .i64 by_,.slice ma trm.length mc]] X fun e w' => e = .returned (.tuple #[V,.bool true]) ∧ Below X.heap.size X w' := fun X => (hFl X).mono (fun e w' ⟨s,h1,h2,h3⟩ => ⟨by rw [h1,h2 rfl],h3⟩)
  clear hFl
  have HRf : Hid (∀ m,Below W.heap.size W (W.drewN m)) := fun m => belowN (Below.refl _ _)
  go_enter Try.func79,Try.ntmps79
  go_wp2_with (first | (go_at_call 84;refine (hRl _).mono ?_;rintro e w' ⟨rfl,hw'⟩;rw [hw'];clear hw') | (go_at_call 114;refine (hWi _).mono ?_;rintro e w' ⟨rfl,hw'⟩;rw [hw'];clear hw') | (go_at_call 115;refine hTx.mono ?_;rintro e w' ⟨rfl,hw'⟩;rw [hw'];clear hw') | (go_at_call 116;refine hCt.mono ?_;rintro e w' ⟨rfl,m1,rfl⟩) | (go_at_call 117;refine (hSu _).mono ?_;rintro e w' ⟨rfl,hw'⟩;rw [hw'];clear hw') | (go_at_call 118;refine (hF2 _).mono ?_;rintro e w1 ⟨rfl,hb1⟩;have HB1 : Hid (Below w.heap.size w w1) := ((belowN HB0.out).trans (hb1.mono (belowN HB0.out).size));have hE3 := hEn2 w1 ((HRf.out m1).trans (hb1.mono (HRf.out m1).size));clear hb1) | (go_at_call 119;refine hE3.mono ?_;rintro e w2 ⟨rfl,hb2⟩;have HB2 : Hid (Below w.heap.size w w2) := (HB1.out.trans (hb2.mono HB1.out.size));clear hb2))
  refine bodyPost_ret (v := .tuple #[V,.bool ls]) (by simp [results,Try.results79,go_sem, *]) rfl ?_
  exact ⟨V,by rw [HZ.out],fun _ => rfl,HB2.out⟩
set_option maxRecDepth 100000 in
set_option maxHeartbeats 800000 in
theorem rowI_any (A : Ra) (r : Rw) (n : Int) (w : World) (hv : RwP w A r) :
  Calls Try.prog 35 #[rwV A r,.int .i64 n] w fun e w' => e = .returned (.bool (okRw r n)) ∧ Below w.heap.size w w' := by
 have hB0 := oneA16 w (.cells (rwC A r) 35)
 have hx := Bx.new w 35 (rwC A r)
 have h0 := hv.below hB0
 generalize hW : w.alloc (.cells (rwC A r) 35) = W at *
 have hSt : Calls Try.prog 79 #[rwV A r,.int .i64 n] W fun e w' => ∃ s,e = .returned (.tuple #[s,.bool (okRw r n)]) ∧ Below W.heap.size W w' := (stOf_any A r n W h0).mono (fun e w' ⟨s,h1,_,h2⟩ => ⟨s,h1,h2⟩)
 have HB0 : Hid (Below w.heap.size w W) := hB0
 generalize okRw r n = Q at *
 obtain ⟨ver,txt,got,sus,wed,rdy,by_,trm⟩ := r
 obtain ⟨ta,tc,ga,gc,sa,sc,ma,mc⟩ := A
 have hw0 : w.alloc (.cells #[.int .i64 ver,.slice ta txt.length tc,.slice ga got.length gc,.slice sa sus.length sc,.bool wed,.bool rdy,.int .i64 by_,.slice ma trm.length mc] 35) = W := hW
 obtain ⟨⟨c0,c1,c2,c3⟩,c4,c5,c6,c7⟩ := Bx.r8 hx
 simp only [rwV,rwC] at c0 c1 c2 c3 c4 c5 c6 c7 hSt
 unfold rwV rwC
 clear hv h0 hx hW hB0
 simp only
 go_enter Try.func35,Try.ntmps35
 go_wp2_with (go_at_call 79;refine hSt.mono ?_;rintro e w1 ⟨s1,rfl,hb1⟩;have HB1 : Hid (Below w.heap.size w w1) := (HB0.out.trans (hb1.mono HB0.out.size));clear hb1)
 go_ret
 exact ⟨rfl,HB1.out⟩
theorem implRowOk : ImplRowOk := fun A r n w hv _ => rowI_any A r n w hv
end Go.Proofs.Ytlnmdfgcpfbleaa
namespace Go.Proofs.Ytlnmdfgcpfbleaa
set_option linter.unusedVariables false
set_option linter.unusedSimpArgs false
open Go.RowKit Go.Sort
end Go.Proofs.Ytlnmdfgcpfbleaa
namespace Go.Proofs.Ytlnmdfgcpfbleaa
set_option linter.unusedVariables false
set_option linter.unusedSimpArgs false
open Go.RowKit Go.Sort
end Go.Proofs.Ytlnmdfgcpfbleaa