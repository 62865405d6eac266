/-
  Texts in one: Omb Nma Nmb Ivk Nmd Cln Nmg Nmh Rzi.
-/
import Derived.Test.YthioodpmgifomaaJag
import Derived.Test.YthioodpmgifomaaJaf
import Derived.Test.YthioodpmgifomaaJae
import Derived.Test.YthioodpmgifomaaJaa
import Derived.Test.YthioodpmgifomaaJac
import Derived.Test.YthioodpmgifomaaJab
import Derived.Test.YthioodpmgifomaaJad
import Derived.Lib.SmallJoins
import Derived.OpenShut
import Derived.ChangeOld
import Derived.ShutString
import Derived.Deep.Matrix
import Derived.Deep.Slices
import Derived.Deep.Strs
import Derived.Deep.Grids
import Derived.Defers
import Derived.Recover
import Derived.Shelf.Strconv.Clone
import Derived.Shelf.SlGeneric
import Derived.Lib.SliceRun
import Derived.BigQuiet
namespace Go.Proofs.Ythioodpmgifomaa
set_option linter.unusedVariables false
set_option linter.unusedSimpArgs false
open Go.ChangeShapes Go.WideShapes Go.ChangeAt Go.RowKit Go.Deep
theorem vw_of_txs {w : World} {a : Option Addr} {c : Nat} {T : List (List UInt8)} (h : TxS w a T) (h1 : T.length ≤ c) (h2 : c ≤ maxLen) : Cel.vw w (scl T) (.slice a T.length c) := by
 refine ⟨a,c,_,rfl,h1,h2,by rw [svs_len];omega, ?_,vwL_pl.2 rfl⟩
 rcases h with h0 | ⟨b,off,ha,hc⟩
 ·exact .inl h0
 ·refine .inr ⟨b,off,ha,fun i hi => ?_⟩
  rw [svs_get (by omega)]
  exact hc i (by omega)
theorem vw_lcl_of {α : Type} {F : α → List Cel} {s : Nat} {w : World} {b off : Nat} (R : Nat → α) (V : Nat → List Value) : ∀ n,(∀ i,i < n → (V i).length = s ∧ (∀ j,j < s → w.cell? ⟨b,off + i * s + j,none⟩ = (V i)[j]?) ∧ vwL w (F (R i)) (V i)) →
  ∃ us : List Value,us.length = n * s ∧ (∀ j,j < n * s → w.cell? ⟨b,off + j,none⟩ = us[j]?) ∧ vwL w (((List.range n).map R).flatMap F) us
 | 0,_ => ⟨[],by simp,fun j hj => by omega,rfl⟩
 | n + 1,h => by
  obtain ⟨us,h1,h2,h3⟩ := vw_lcl_of R V n (fun i hi => h i (by omega))
  obtain ⟨k1,k2,k3⟩ := h n (by omega)
  have hm : (n + 1) * s = n * s + s := by rw [Nat.add_mul,Nat.one_mul]
  refine ⟨us ++ V n,by rw [List.length_append,h1,k1,hm],fun j hj => ?_, ?_⟩
  ·rcases Nat.lt_or_ge j (n * s) with hj2 | hj2
   ·rw [List.getElem?_append_left (by omega)];exact h2 j hj2
   ·rw [List.getElem?_append_right (by omega),h1]
    have := k2 (j - n * s) (by omega)
    rw [show off + n * s + (j - n * s) = off + j by omega] at this
    exact this
  ·rw [List.range_succ,List.map_append,List.flatMap_append]
   refine vwL_append h3 ?_
   simpa using k3
section
variable {H : Type} {enc : TypeId × Value → H} {P : Program} {W : World} {base : Nat} {held : Bool}
theorem ints_ofC {t e : TypeId} {fuel : Nat} {c : Value} {y : DataW H × List MemPlace} (ht : P.underlying t = some (.slice e)) (he : P.underlying e = some (.int .i64)) (hc : P.cellsOf e = 1) (h : DataW.trod enc P W base (fun _ => true) held fuel t [c] = some y) :
  ∃ a cap M,c = .slice a (List.length M) cap ∧ Cel.vw W (icl M) (.slice a (List.length M) cap) ∧ Fits M ∧ List.length M ≤ maxLen := by
 obtain ⟨a,len,cap,z,rfl,hw⟩ : ∃ a len cap zs,c = .slice a len cap ∧ IsRow .i64 W a len cap zs := by
  rcases open_ints ht he hc h with ⟨hcs,_⟩ | ⟨x,l,c,zs,hcs,_,hl,hm,hz,_,hcell,hwz⟩
  ·simp at hcs
   exact ⟨none,0,0,[],hcs,.inl ⟨rfl,rfl,rfl,rfl⟩⟩
  ·simp at hcs
   exact ⟨some x,l,c,zs,hcs,.inr ⟨_,rfl,hl,hm,by simpa using hz,hcell,hwz⟩⟩
 rcases hw with ⟨rfl,rfl,rfl,rfl⟩ | ⟨ad,rfl,hl,hm,hz,hcell,hwz⟩
 ·exact ⟨none,0,[],rfl,vw_of_vec ⟨rfl,fun x hx => absurd hx List.not_mem_nil,.inl rfl⟩ (Nat.le_refl _) (Nat.zero_le _),fun x hx => absurd hx List.not_mem_nil,Nat.zero_le _⟩
 ·have hz' : z.length = cap := by simpa using hz
  have hlen : (z.take len).length = len := by rw [List.length_take];omega
  have hfit : Fits (z.take len) := fun n hn => bounds_i64 (hwz n (List.mem_of_mem_take hn))
  refine ⟨some ad,cap,z.take len,by rw [hlen],vw_of_vec ⟨rfl,hfit, ?_⟩ (by rw [hlen];exact hl) hm,hfit,by rw [hlen];exact Nat.le_trans hl hm⟩
  rcases Nat.eq_zero_or_pos len with e | e
  ·exact .inl (by omega)
  ·obtain ⟨b,off,spot⟩ := ad
   have hs : spot = none := by
    have := hcell 0 (by omega)
    simpa [Addr.add] using World.cell?_spot this
   subst hs
   refine .inr ⟨b,off,rfl,fun i hi => ?_⟩
   have h1 := hcell i (by omega)
   rw [add_lit0] at h1
   rw [h1]
   simp [el,List.getD,List.getElem?_take_of_lt (show i < len by omega)]
theorem txts_ofC {t e : TypeId} {fuel : Nat} {c : Value} {y : DataW H × List MemPlace} (ht : P.underlying t = some (.slice e)) (he : P.underlying e = some .string) (hc : P.cellsOf e = 1) (h : DataW.trod enc P W base (fun _ => true) held fuel t [c] = some y) :
  ∃ a cap T,c = .slice a (List.length T) cap ∧ Cel.vw W (scl T) (.slice a (List.length T) cap) ∧ LongT T ∧ List.length T ≤ maxLen := by
 rcases open_strs ht he hc h with ⟨hcs,_⟩ | ⟨ad,len,cap,m,S,hcs,_,hl,hm,hmm,_,hx⟩
 ·simp at hcs
  subst hcs
  exact ⟨none,0,[],rfl,vw_of_txs (.inl rfl) (Nat.le_refl _) (Nat.zero_le _),fun i hi => absurd hi (Nat.not_lt_zero _),Nat.zero_le _⟩
 ·simp at hcs
  subst hcs
  have hlm : len ≤ m := by rw [hmm];split <;> omega
  have hlen : ((List.range len).map fun r => (S r).data.toList).length = len := by simp
  have hget : ∀ i,i < len → ((List.range len).map fun r => (S r).data.toList).getD i [] = (S i).data.toList := fun i hi => by simp [List.getD,hi]
  refine ⟨some ad,cap,(List.range len).map fun r => (S r).data.toList,by rw [hlen],vw_of_txs ?_ (by rw [hlen];exact hl) hm,fun i hi => ?_,by rw [hlen];exact Nat.le_trans hl hm⟩
  ·by_cases h0 : len = 0
   ·exact .inl (by rw [hlen];exact h0)
   ·obtain ⟨b,off,spot⟩ := ad
    have hs : spot = none := by
     have := (hx 0 (by omega)).1
     simpa [Addr.add] using World.cell?_spot this
    subst hs
    refine .inr ⟨b,off,rfl,fun i hi => ?_⟩
    rw [hlen] at hi
    rw [hget i hi]
    have hc := (hx i (by omega)).1
    rw [add_lit0] at hc
    rw [hc,← sv_of]
  ·rw [hlen] at hi
   rw [hget i hi]
   exact str_short16 (hx i (by omega)).2
end
set_option maxRecDepth 100000 in
theorem row_ofC {H : Type} {enc : TypeId × Value → H} {W : World} {base fuel : Nat} {held : Bool} {cs : List Value} {x : DataW H × List MemPlace} (h : DataW.trod enc Try.prog W base (fun _ => true) held fuel 48 cs = some x) :
  ∃ r,cs.length = 8 ∧ vwL W (rw8 r) cs ∧ FitR r ∧ LongT r.txt ∧ Rw64 r := by
 obtain ⟨hl,n,hf⟩ := field_of Try.underlying48 (by kernel_rfl) h
 rw [show Try.prog.cellsOf 48 = 8 by kernel_rfl] at hl
 obtain ⟨c0,c1,c2,c3,c4,c5,c6,c7,rfl⟩ := list8 hl
 obtain ⟨y0,g0⟩ := hf 0 _ c0 rfl rfl
 obtain ⟨y1,g1⟩ := hf 1 _ c1 rfl rfl
 obtain ⟨y2,g2⟩ := hf 2 _ c2 rfl rfl
 obtain ⟨y3,g3⟩ := hf 3 _ c3 rfl rfl
 obtain ⟨y4,g4⟩ := hf 4 _ c4 rfl rfl
 obtain ⟨y5,g5⟩ := hf 5 _ c5 rfl rfl
 obtain ⟨y6,g6⟩ := hf 6 _ c6 rfl rfl
 obtain ⟨y7,g7⟩ := hf 7 _ c7 rfl rfl
 obtain ⟨i0,e0,_,b0⟩ := DataW.trod_int Try.underlying2 g0
 obtain ⟨a1,d1,T,rfl,t1,t2,t3⟩ := txts_ofC Try.underlying46 Try.underlying9 (by kernel_rfl) g1
 obtain ⟨a2,d2,M2,rfl,u2,v2,_⟩ := ints_ofC Try.underlying24 Try.underlying2 (by kernel_rfl) g2
 obtain ⟨a3,d3,M3,rfl,u3,v3,_⟩ := ints_ofC Try.underlying24 Try.underlying2 (by kernel_rfl) g3
 obtain ⟨z4,e4,_⟩ := DataW.trod_bool Try.underlying4 g4
 obtain ⟨z5,e5,_⟩ := DataW.trod_bool Try.underlying4 g5
 obtain ⟨i6,e6,_,b6⟩ := DataW.trod_int Try.underlying2 g6
 obtain ⟨a7,d7,M7,rfl,u7,v7,_⟩ := ints_ofC Try.underlying24 Try.underlying2 (by kernel_rfl) g7
 simp at e0 e4 e5 e6
 subst e0 e4 e5 e6
 exact ⟨⟨i0,T,M2,M3,z4,z5,i6,M7⟩,rfl,⟨_,_,rfl,rfl,_,_,rfl,t1,_,_,rfl,u2,_,_,rfl,u3,_,_,rfl,rfl,_,_,rfl,rfl,_,_,rfl,rfl,_,_,rfl,u7,rfl⟩,⟨v2,v3,v7⟩,t2,⟨bounds_i64 b0,bounds_i64 b6⟩⟩
set_option maxRecDepth 100000 in
theorem rows_of {H : Type} {enc : TypeId × Value → H} {W : World} {base fuel : Nat} {held : Bool} {c : Value} {y : DataW H × List MemPlace} (h : DataW.trod enc Try.prog W base (fun _ => true) held fuel 33 [c] = some y) :
  ∃ a cap R,c = .slice a (List.length R) cap ∧ Cel.vw W (lcl 8 rw8 R) (.slice a (List.length R) cap) ∧ (∀ r ∈ R,FitR r ∧ LongT r.txt ∧ Rw64 r) ∧ List.length R ≤ maxLen := by
 rcases open_slice Try.underlying33 h with ⟨h0,_⟩ | ⟨ad,len,cap,m,n,D,Pl,hcs,_,hl,hm,hmm,_,hx⟩
 ·simp at h0
  subst h0
  exact ⟨none,0,[],rfl,⟨none,0,[],rfl,Nat.le_refl _,Nat.zero_le _,rfl,.inl rfl,rfl⟩,fun r hr => absurd hr List.not_mem_nil,Nat.zero_le _⟩
 ·simp at hcs
  subst hcs
  have hlm : len ≤ m := by rw [hmm];split <;> omega
  have ce : Try.prog.cellsOf 48 = 8 := by kernel_rfl
  by_cases h0 : len = 0
  ·subst h0
   exact ⟨some ad,cap,[],rfl,⟨some ad,cap,[],rfl,hl,hm,rfl,.inl rfl,rfl⟩,fun r hr => absurd hr List.not_mem_nil,Nat.zero_le _⟩
  obtain ⟨b,off,spot⟩ := ad
  have each : ∀ i,i < len → ∃ q : List Value × Rw,(q.1.length = 8 ∧ (∀ j,j < 8 → W.cell? ((⟨b,off,spot⟩ : Addr).add (i * 8 + j)) = q.1[j]?) ∧ vwL W (rw8 q.2) q.1) ∧ FitR q.2 ∧ LongT q.2.txt ∧ Rw64 q.2 := by
   intro i hi
   obtain ⟨cs',h1,h2⟩ := hx i (by omega)
   rw [ce] at h1
   obtain ⟨_,hlen,hcell⟩ := World.cells?_some h1
   obtain ⟨r,e8,hv,hf,hg,h6⟩ := row_ofC h2
   refine ⟨(cs',r),⟨e8,fun j hj => ?_,hv⟩,hf,hg,h6⟩
   have := hcell j hj
   rw [add_add] at this
   exact this
  have hs : spot = none := by
   obtain ⟨q,⟨h1,h2,_⟩,_⟩ := each 0 (by omega)
   have := h2 0 (by omega)
   rw [List.getElem?_eq_getElem (by omega)] at this
   simpa [Addr.add] using World.cell?_spot this
  subst hs
  haveI : Inhabited (List Value × Rw) := ⟨([],zeroRw)⟩
  obtain ⟨q,hq⟩ := choose_lt each
  obtain ⟨us,u1,u2,u3⟩ := vw_lcl_of (F := rw8) (s := 8) (w := W) (b := b) (off := off) (fun i => (q i).2) (fun i => (q i).1) len (fun i hi => ⟨(hq i hi).1.1,fun j hj => by have := (hq i hi).1.2.1 j hj;rw [add_lit0,← Nat.add_assoc] at this;exact this,(hq i hi).1.2.2⟩)
  have hlen : ((List.range len).map (fun i => (q i).2)).length = len := by simp
  refine ⟨some ⟨b,off,none⟩,cap,(List.range len).map (fun i => (q i).2),by rw [hlen], ?_,fun r hr => ?_,by rw [hlen];exact Nat.le_trans hl hm⟩
  ·unfold lcl
   rw [hlen]
   exact ⟨_,cap,us,rfl,hl,hm,u1,.inr ⟨b,off,rfl,u2⟩,u3⟩
  ·obtain ⟨i,hi,rfl⟩ := List.mem_map.1 hr
   exact (hq i (List.mem_range.1 hi)).2
theorem list5 {α : Type} {l : List α} (h : l.length = 5) : ∃ c0 c1 c2 c3 c4,l = [c0,c1,c2,c3,c4] := by
 match l,h with
 | [c0,c1,c2,c3,c4],_ => exact ⟨c0,c1,c2,c3,c4,rfl⟩
set_option maxRecDepth 100000 in
theorem mb_of {H : Type} {enc : TypeId × Value → H} {W : World} {base fuel : Nat} {held : Bool} {cs : List Value} {x : DataW H × List MemPlace} (h : DataW.trod enc Try.prog W base (fun _ => true) held fuel 35 cs = some x) :
  ∃ A m,cs = (mbC A m).toList ∧ MbS W A m ∧ (∀ r ∈ m.rows,LongT r.txt) ∧ Mb64 m := by
 obtain ⟨hl,n,hf⟩ := field_of Try.underlying35 (by kernel_rfl) h
 rw [show Try.prog.cellsOf 35 = 5 by kernel_rfl] at hl
 obtain ⟨c0,c1,c2,c3,c4,rfl⟩ := list5 hl
 obtain ⟨y0,g0⟩ := hf 0 _ c0 rfl rfl
 obtain ⟨y1,g1⟩ := hf 1 _ c1 rfl rfl
 obtain ⟨y2,g2⟩ := hf 2 _ c2 rfl rfl
 obtain ⟨y3,g3⟩ := hf 3 _ c3 rfl rfl
 obtain ⟨y4,g4⟩ := hf 4 _ c4 rfl rfl
 obtain ⟨i0,e0,_,b0⟩ := DataW.trod_int Try.underlying2 g0
 obtain ⟨i1,e1,_,b1⟩ := DataW.trod_int Try.underlying2 g1
 obtain ⟨a2,d2,R,rfl,t1,t2,t3⟩ := rows_of g2
 obtain ⟨a3,d3,M3,rfl,u3,v3⟩ := ints_of Try.underlying24 Try.underlying2 (by kernel_rfl) g3
 obtain ⟨z4,e4,_⟩ := DataW.trod_bool Try.underlying4 g4
 simp at e0 e1 e4
 subst e0 e1 e4
 exact ⟨⟨a2,d2,a3,d3⟩,⟨i0,i1,R,M3,z4⟩,rfl,⟨t1,u3,t3,v3,fun r hr => (t2 r hr).1⟩,fun r hr => (t2 r hr).2.1,bounds_i64 b0,bounds_i64 b1,fun r hr => (t2 r hr).2.2⟩
set_option maxRecDepth 100000 in
theorem open_mem {H : Type} {enc : TypeId × Value → H} {W : World} {base : Nat} {v : Value} {d : DataW H} {p : List MemPlace} (hv : Value.okWide Try.prog W .any base 35 v) (h : DataW.Trod enc Try.prog W 0 (fun _ => true) true 35 v d p) :
  ∃ A m,v = mbV A m ∧ MbS W A m ∧ (∀ r ∈ m.rows,LongT r.txt) ∧ Mb64 m := by
 obtain ⟨cs,rfl,hsz⟩ := okWide_struct Try.underlying35 hv
 obtain ⟨fuel,hf⟩ := h
 obtain ⟨A,m,e,h1,h2,h3⟩ := mb_of hf
 have e' : cs.toList = (mbC A m).toList := by simpa [Value.cells] using e
 exact ⟨A,m,by rw [mbV,Array.toList_inj.1 e'],h1,h2,h3⟩
end Go.Proofs.Ythioodpmgifomaa
namespace Go.Proofs.Ythioodpmgifomaa
set_option linter.unusedVariables false
set_option linter.unusedSimpArgs false
open Go.RowKit Go.Sort
def mb4 (m : Mb) : List Cel := [.v (.int .i64 m.id),lcl 8 rw8 m.rows,icl m.sung,.v (.bool m.done)]
def C4 (w : World) (B : Nat) (x0 x1 x2 x3 : Value) : Prop := w.cell? ⟨B,0,none⟩ = some x0 ∧ w.cell? ⟨B,1,none⟩ = some x1 ∧ w.cell? ⟨B,2,none⟩ = some x2 ∧ w.cell? ⟨B,3,none⟩ = some x3
structure Iw (w X : World) (B : Nat) (m : Mb) (fp : Fp) (g off c : Nat) : Prop where
 bcm : Bcm w X B 0 (mb4 m) fp
 rws : X.cell? ⟨B,1,none⟩ = some (.slice (some ⟨g,off,none⟩) m.rows.length c)
theorem Iw.start {w : World} {B : Nat} {m : Mb} {fp : Fp} (h : Plc w B 0 (mb4 m) fp) (hn : 0 < m.rows.length) : ∃ g off c,Iw w w B m fp g off c := by
 obtain ⟨g,off,c,f,h1,_⟩ := h.el (F := rw8) rw8_len (by omega) (j := 1) (L := m.rows) rfl (rowN_at hn)
 exact ⟨g,off,c,Bcm.refl h,h1⟩
theorem Iw.step {w X X' : World} {B : Nat} {m : Mb} {fp : Fp} {g off c : Nat} (h : Iw w X B m fp g off c) (hb : Below X.heap.size X X') : Iw w X' B m fp g off c := ⟨h.bcm.below hb,(hb.cell (World.block_lt_of_cell? _ _ h.rws)).trans h.rws⟩
theorem Iw.box {w X : World} {B : Nat} {m : Mb} {fp : Fp} {g off c : Nat} (h : Iw w X B m fp g off c) (hf : FitM m) : ∃ sa sc,C4 X B (.int .i64 m.id) (.slice (some ⟨g,off,none⟩) m.rows.length c) (.slice sa m.sung.length sc) (.bool m.done) ∧ MbS X ⟨some ⟨g,off,none⟩,c,sa,sc⟩ m := by
 obtain ⟨fp1,hp,_⟩ := h.bcm.next
 have hv := hp.pv
 obtain ⟨u0,c0,rfl⟩ := hv.at (j := 0) rfl
 obtain ⟨u2,c2,v2⟩ := hv.at (j := 1) rfl
 obtain ⟨u3,c3,v3⟩ := hv.at (j := 2) rfl
 obtain ⟨u4,c4,rfl⟩ := hv.at (j := 3) rfl
 have e2 : u2 = .slice (some ⟨g,off,none⟩) m.rows.length c := Option.some.inj (c2.symm.trans h.rws)
 subst e2
 obtain ⟨sa,sc,rfl,s1,s2,s3⟩ := vw_icl v3 hf.2
 have k := v2
 obtain ⟨_,_,_,e,k1,k2,_⟩ := k
 cases e
 exact ⟨sa,sc,⟨c0,c2,c3,c4⟩,v2,s1,by omega,by omega,hf.1⟩
theorem Iw.id' {w X : World} {B : Nat} {m : Mb} {fp : Fp} {g off c : Nat} (h : Iw w X B m fp g off c) : X.cell? ⟨B,0,none⟩ = some (.int .i64 m.id) ∧ X.cell? ⟨B,3,none⟩ = some (.bool m.done) := by
 obtain ⟨fp1,hp,_⟩ := h.bcm.next
 have hv := hp.pv
 obtain ⟨u0,c0,rfl⟩ := hv.at (j := 0) rfl
 obtain ⟨u4,c4,rfl⟩ := hv.at (j := 3) rfl
 exact ⟨c0,c4⟩
theorem Iw.row {w X : World} {B : Nat} {m : Mb} {fp : Fp} {g off c : Nat} (h : Iw w X B m fp g off c) (hf : FitM m) {k : Nat} (hk : k < m.rows.length) : ∃ Ak : Ra,C8 X g (off + k * 8) (.int .i64 (rowN m.rows k).ver) (.slice Ak.ta (rowN m.rows k).txt.length Ak.tc) (.slice Ak.ga (rowN m.rows k).got.length Ak.gc) (.slice Ak.sa (rowN m.rows k).sus.length Ak.sc) (.bool (rowN m.rows k).wed) (.bool (rowN m.rows k).rdy) (.int .i64 (rowN m.rows k).by_) (.slice Ak.ma (rowN m.rows k).trm.length Ak.mc) ∧ RwS X Ak (rowN m.rows k) := by
 obtain ⟨sa,sc,_,h2⟩ := h.box hf
 obtain ⟨g',off',Ak,e,h3,h4⟩ := h2.row hk
 cases e
 exact ⟨Ak,h3,h4⟩
theorem Iw.rowAll {w X X1 : World} {B : Nat} {m : Mb} {fp : Fp} {g off c : Nat} (h : Iw w X B m fp g off c) {k : Nat} (hk : k < m.rows.length) (hb : Below X.heap.size X X1) {r' : Rw} {Ar : Ra} {fr : Fp} (hr : owL X1 (rwCels r') (rwVals Ar r') fr) (hfr : ∀ b,fr b → X.heap.size ≤ b) :
  Iw w ((((((((X1.setCell ⟨g,off + k * 8,none⟩ (.int .i64 r'.ver)).setCell ⟨g,off + k * 8 + 1,none⟩ (.slice Ar.ta r'.txt.length Ar.tc)).setCell ⟨g,off + k * 8 + 2,none⟩ (.slice Ar.ga r'.got.length Ar.gc)).setCell ⟨g,off + k * 8 + 3,none⟩ (.slice Ar.sa r'.sus.length Ar.sc)).setCell ⟨g,off + k * 8 + 4,none⟩ (.bool r'.wed)).setCell ⟨g,off + k * 8 + 5,none⟩ (.bool r'.rdy)).setCell ⟨g,off + k * 8 + 6,none⟩ (.int .i64 r'.by_)).setCell ⟨g,off + k * 8 + 7,none⟩ (.slice Ar.ma r'.trm.length Ar.mc)) B { m with rows := m.rows.set k r' } fp g off c := by
 obtain ⟨fp1,hp,hf1,hgo⟩ := h.bcm.next
 obtain ⟨g',off',c',f,h1,hgB,hfg,hfs,hpl,hput⟩ := hp.el (F := rw8) rw8_len (by omega) (j := 1) (L := m.rows) rfl (rowN_at hk)
 have e := Option.some.inj (h1.symm.trans h.rws)
 cases e
 have hA := hpl.all hb (ow_rw8 hr) rfl hfr
 have hB := hgo _ (mb4 { m with rows := m.rows.set k r' }) rfl (hput _ r' hA)
 refine ⟨hB, ?_⟩
 have hr1 : X1.cell? ⟨B,1,none⟩ = some (.slice (some ⟨g,off,none⟩) m.rows.length c) := (World.cell?_of_block (hb.block B hp.lt)).trans h.rws
 have := World.cell?_setCells_out g (rwC Ar r').toList (off + k * 8) X1 ⟨B,1,none⟩ (fun e _ => absurd e.symm hgB)
 have e2 := this.trans hr1
 simp only [List.length_set]
 exact e2
theorem Iw.free {w X : World} {B : Nat} {m : Mb} {fp : Fp} {g off c : Nat} (h : Iw w X B m fp g off c) {k : Nat} (hk : k < m.rows.length) : (X.frozen? ⟨g,off + k * 8,none⟩ = false ∧ X.frozen? ⟨g,off + k * 8 + 1,none⟩ = false ∧ X.frozen? ⟨g,off + k * 8 + 2,none⟩ = false ∧ X.frozen? ⟨g,off + k * 8 + 3,none⟩ = false) ∧ X.frozen? ⟨g,off + k * 8 + 4,none⟩ = false ∧ X.frozen? ⟨g,off + k * 8 + 5,none⟩ = false ∧ X.frozen? ⟨g,off + k * 8 + 6,none⟩ = false ∧ X.frozen? ⟨g,off + k * 8 + 7,none⟩ = false := by
 obtain ⟨fp1,hp,hf1,hgo⟩ := h.bcm.next
 obtain ⟨g',off',c',f,h1,hgB,hfg,hfs,⟨vs,hpc,hov,_⟩,hput⟩ := hp.el (F := rw8) rw8_len (by omega) (j := 1) (L := m.rows) rfl (rowN_at hk)
 have e := Option.some.inj (h1.symm.trans h.rws)
 cases e
 have hl : vs.length = 8 := owL_len hov
 exact ⟨⟨hpc.free 0 (by omega),hpc.free 1 (by omega),hpc.free 2 (by omega),hpc.free 3 (by omega)⟩,hpc.free 4 (by omega),hpc.free 5 (by omega),hpc.free 6 (by omega),hpc.free 7 (by omega)⟩
end Go.Proofs.Ythioodpmgifomaa
namespace Go.Proofs.Ythioodpmgifomaa
set_option linter.unusedVariables false
set_option linter.unusedSimpArgs false
open Go.RowKit Go.Sort
def Gu (e : Ending) : Prop := ∃ T v,e = .panicked [{ v := .iface T v,recovered := false }]
set_option maxHeartbeats 400000 in
theorem wantT (w : World) : Calls Try.prog 121 #[.bool true] w fun e w' => e = .returned (.tuple #[]) ∧ w' = w := by
 have hnot : ∀ (x : Bool) (w : World),(Op.unary .not (.bool x)).run Try.prog w = .ok (.bool (!x)) w := fun _ _ => rfl
 go_enter Try.func121,Try.ntmps121
 go_wp2
 first | go_end0 | go_ret
 exact ⟨rfl,rfl⟩
set_option maxHeartbeats 400000 in
theorem wantF (w : World) : Calls Try.prog 121 #[.bool false] w fun e w' => Gu e ∧ w' = w := by
 go_enter Try.func121,Try.ntmps121
 go_wp2
 exact ⟨rfl,⟨_,_,rfl⟩,rfl⟩
theorem tellP (p : Addr) (x : Value) (u : TypeId) (pv : Value) (older : List PanicEntry) (w : World) (hc : w.cell? p = some x) (hz : w.frozen? p = false) :
  CallsD Try.prog 143 #[.pointer (some p)] (.panicking ({ v := .iface u pv,recovered := false } :: older)) w fun e u' w' =>
   e = .returned (.tuple #[]) ∧ u' = .panicking ({ v := .iface u pv,recovered := true } :: older) ∧ w' = w.setCell p (.bool false) := by
 refine callsD_of_wpS Try.func143 rfl fun c₀ cs hu => ?_
 apply wpS_region
 simp [wpOpsS,go_sem,recoverD,hu,Try.ntmps143,hc,hz,bodyPostS,results,Try.results143]
theorem tellR (p : Addr) (x : Value) (w : World) (hc : w.cell? p = some x) (hz : w.frozen? p = false) :
  CallsD Try.prog 143 #[.pointer (some p)] .returning w fun e u' w' => e = .returned (.tuple #[]) ∧ u' = .returning ∧ w' = w.setCell p (.bool true) := by
 refine callsD_of_wpS Try.func143 rfl fun c₀ cs hu => ?_
 apply wpS_region
 simp [wpOpsS,go_sem,recoverD,hu,Try.ntmps143,hc,hz,bodyPostS,results,Try.results143]
 cases c₀
 simp_all
set_option maxRecDepth 100000 in
set_option maxHeartbeats 800000 in
theorem told_any (F : Nat) (C D : Array Value) (w : World) (Q : Bool → World → Prop) (hE : ∀ (args : Array Value) (w : World),(callFunc F args).run Try.prog w = .ok (.enter F args) w)
  (h : Calls Try.prog F (C ++ D) (w.alloc (.cells #[.bool false] 4)) fun e w' => (e = .returned (.tuple #[]) ∧ Q true w') ∨ (Gu e ∧ Q false w')) (hq : ∀ b w',Q b w' → Bx w' w.heap.size 4 #[.bool false]) :
  Calls Try.prog 119 #[.func (.func F) C D] w fun e w' => ∃ b X,e = .returned (.bool b) ∧ Q b X ∧ Wrt (fun x => x = w.heap.size) X w' := by
 have hmf : ∀ (fn : Fn) (first cap : Array Value) (w : World),(Instr.makeFunc fn first cap).run Try.prog w = .ok (.func fn first cap) w := fun _ _ _ _ => rfl
 have HQ : Hid (∀ b w',Q b w' → Bx w' w.heap.size 4 #[.bool false]) := hq
 clear hq
 go_enter_defers Try.func119,Try.ntmps119
 go_wp2_with fail
 refine h.mono ?_
 rintro e w1 (⟨rfl,hQ⟩ | ⟨⟨T,v,rfl⟩,hQ⟩)
 ·have hx := HQ.out _ _ hQ
  have c0 := hx.at 0 (v := .bool false) rfl
  have f0 := hx.f 0
  have HQ1 : Hid (Q true w1) := hQ
  clear hQ h hx
  go_wp2
  refine leaves_cons (f := 143) (args := #[.pointer (some ⟨w.heap.size,0,none⟩)]) (by simp) (by simp [go_sem]) ?_
  refine (tellR ⟨w.heap.size,0,none⟩ (.bool true) _ (World.cell?_setCell_same _ _ _ c0) (by rw [World.frozen?_setCell];exact f0)).mono ?_
  rintro e u' w'' ⟨rfl,rfl,rfl⟩
  have hc : ((w1.setCell ⟨w.heap.size,0,none⟩ (.bool true)).setCell ⟨w.heap.size,0,none⟩ (.bool true)).cell? ⟨w.heap.size,0,none⟩ = some (.bool true) := World.cell?_setCell_same _ _ _ (World.cell?_setCell_same _ _ _ c0)
  have hW := (Wrt.set w1 w.heap.size 0 (.bool true)).trans (Wrt.set (w1.setCell ⟨w.heap.size,0,none⟩ (.bool true)) w.heap.size 0 (.bool true)) (fun _ _ h => h)
  generalize (w1.setCell ⟨w.heap.size,0,none⟩ (.bool true)).setCell ⟨w.heap.size,0,none⟩ (.bool true) = W2 at *
  refine ⟨.bool true,by simp [results,Try.results119,go_sem,hc],true,w1,rfl,HQ1.out,hW⟩
 ·have hx := HQ.out _ _ hQ
  have c0 := hx.at 0 (v := .bool false) rfl
  have f0 := hx.f 0
  have HQ1 : Hid (Q false w1) := hQ
  clear hQ h hx
  simp only
  refine leaves_cons (f := 143) (args := #[.pointer (some ⟨w.heap.size,0,none⟩)]) (by simp) (by simp [go_sem]) ?_
  refine (tellP ⟨w.heap.size,0,none⟩ (.bool false) T v [] _ c0 f0).mono ?_
  rintro e u' w'' ⟨rfl,rfl,rfl⟩
  have hc : (w1.setCell ⟨w.heap.size,0,none⟩ (.bool false)).cell? ⟨w.heap.size,0,none⟩ = some (.bool false) := World.cell?_setCell_same _ _ _ c0
  have hW := Wrt.set w1 w.heap.size 0 (.bool false)
  generalize w1.setCell ⟨w.heap.size,0,none⟩ (.bool false) = W2 at *
  refine ⟨.bool false,by simp [results,Try.results119,go_sem,hc],false,w1,rfl,HQ1.out,hW⟩
end Go.Proofs.Ythioodpmgifomaa
namespace Go.Proofs.Ythioodpmgifomaa
set_option linter.unusedVariables false
set_option linter.unusedSimpArgs false
open Go.RowKit Go.Sort
set_option maxHeartbeats 400000 in
theorem isW14_any (n last : Int) (w : World) : Calls Try.prog 137 #[.int .i64 n,.int .i64 last] w fun e w' => e = .returned (.bool (inB n 0 last)) ∧ w' = w := by
 by_cases h0 : (0 : Int) ≤ n
 ·have H : Hid (inB n 0 last = decide (n ≤ last)) := by rw [Hid,inB];simp [h0]
  go_enter Try.func137,Try.ntmps137
  go_wp2
  go_ret
  exact ⟨ret_bool (by rw [H.out]),rfl⟩
 ·have H : Hid (inB n 0 last = false) := by rw [Hid,inB];simp [h0]
  go_enter Try.func137,Try.ntmps137
  go_wp2
  go_ret
  exact ⟨ret_bool (by rw [H.out]),rfl⟩
set_option maxHeartbeats 800000 in
theorem rw14_any (a : Option Addr) (len cap : Nat) (B : Int) (xs : List Int) (w : World) (hv : Vec w a len xs) (hm : len ≤ maxLen) :
  Calls Try.prog 146 #[.slice a len cap,.int .i64 (B - 1)] w fun e w' => e = .returned (.bool (decide (okRow B xs))) ∧ w' = w := by
 unfold maxLen at hm
 have HL : Hid (xs.length = len) := hv.1
 have hc := hv.2.2
 clear hv
 go_enter Try.func146,Try.ntmps146
 go_wp2
 go_loop [9] (fun i => ∃ k : Nat,k ≤ len ∧ i = .int .i64 k ∧ (∀ j,j < k → 0 ≤ el xs j ∧ el xs j ≤ B - 1) ∧ ∀ j,j + 1 < k → el xs j < el xs (j + 1)) (fun i => len - (intOf i).toNat)
 case atStart => exact ⟨0,Nat.zero_le _,rfl,fun j hj => by omega,fun j hj => by omega⟩
 case round =>
  obtain ⟨k,hk,rfl,hin,hri⟩ := hrel
  have HI : Hid (∀ j,j < k → 0 ≤ el xs j ∧ el xs j ≤ B - 1) := hin
  have HR : Hid (∀ j,j + 1 < k → el xs j < el xs (j + 1)) := hri
  clear hin hri
  by_cases hlt : k < len
  ·rcases hc with h0 | ⟨b,off,rfl,hc⟩
   ·omega
   have hck := hc k hlt
   have k0 : (0 : Int) ≤ (k : Int) := by omega
   have k1 : (k : Int) < (len : Int) := by omega
   cases e4 : inB (el xs k) 0 (B - 1) with
   | false =>
    have HF : Hid (decide (okRow B xs) = false) := decide_eq_false (fun h => by
     have := h.1 k (by rw [HL.out];exact hlt)
     rw [inB7.2 this] at e4
     cases e4)
    go_wp2_with (go_at_call 137;refine (isW14_any _ _ _).mono ?_;rintro e w' ⟨rfl,hw'⟩;rw [hw'];clear hw')
    go_ret
    exact ⟨ret_bool (by rw [HF.out]),rfl⟩
   | true =>
    have HX : Hid (0 ≤ el xs k ∧ el xs k ≤ B - 1) := inB7.1 e4
    by_cases hk0 : 0 < k
    ·obtain ⟨q,rfl⟩ : ∃ q,k = q + 1 := ⟨k - 1,by omega⟩
     have hcq := hc q (by omega)
     have hg : decide (((q + 1 : Nat) : Int) > 0) = true := decide_eq_true (by omega)
     have g0 : (0 : Int) < ((q + 1 : Nat) : Int) := by omega
     have hq : wrap64 (((q + 1 : Nat) : Int) - 1) = (q : Int) := by unfold wrap64;omega
     have q0 : (0 : Int) ≤ (q : Int) := by omega
     have q1 : (q : Int) < (len : Int) := by omega
     by_cases hx : el xs q < el xs (q + 1)
     ·have hd : decide (el xs (q + 1) ≤ el xs q) = false := by simp;omega
      have HY : Hid (el xs q < el xs (q + 1)) := hx
      clear hx
      go_wp2_with (go_at_call 137;refine (isW14_any _ _ _).mono ?_;rintro e w' ⟨rfl,hw'⟩;rw [hw'];clear hw')
      go_round
      case rel => exact ⟨q + 1 + 1,by omega,by go_num,fun j hj => by
       rcases Nat.lt_succ_iff_lt_or_eq.1 hj with h | h
       ·exact HI.out j h
       ·rw [h];exact HX.out,fun j hj => by
       rcases Nat.lt_succ_iff_lt_or_eq.1 hj with h | h
       ·exact HR.out j h
       ·have : j = q := by omega
        rw [this];exact HY.out⟩
      case measure => simp [intOf];omega
     ·have hd : decide (el xs (q + 1) ≤ el xs q) = true := by simp;omega
      have HF : Hid (decide (okRow B xs) = false) := decide_eq_false (fun h => hx (h.2 q (by rw [HL.out];omega)))
      clear hx
      go_wp2_with (go_at_call 137;refine (isW14_any _ _ _).mono ?_;rintro e w' ⟨rfl,hw'⟩;rw [hw'];clear hw')
      go_ret
      exact ⟨ret_bool (by rw [HF.out]),rfl⟩
    ·obtain rfl : k = 0 := by omega
     rw [Nat.add_zero] at hck
     go_wp2_with (go_at_call 137;refine (isW14_any _ _ _).mono ?_;rintro e w' ⟨rfl,hw'⟩;rw [hw'];clear hw')
     go_round
     case rel => exact ⟨1,by omega,by go_num,fun j hj => by
      obtain rfl : j = 0 := by omega
      exact HX.out,fun j hj => by omega⟩
     case measure => simp [intOf];omega
  ·have hkl : k = len := by omega
   have HF : Hid (decide (okRow B xs) = true) := decide_eq_true ⟨fun j hj => HI.out j (by rw [HL.out] at hj;omega),fun j hj => HR.out j (by rw [HL.out] at hj;omega)⟩
   subst hkl
   clear hc
   go_wp2
   go_ret
   exact ⟨ret_bool (by rw [HF.out]),rfl⟩
def IsIdx (xs : List Int) (x z : Int) : Prop := (∃ k : Nat,k < xs.length ∧ z = (k : Int) ∧ el xs k = x ∧ ∀ j,j < k → el xs j ≠ x) ∨ (z = -1 ∧ ∀ j,j < xs.length → el xs j ≠ x)
theorem IsIdx.mem {xs : List Int} {x z : Int} (h : IsIdx xs x z) : decide (0 ≤ z) = decide (x ∈ xs) := by
 rcases h with ⟨k,hk,rfl,rfl,_⟩ | ⟨rfl,h⟩
 ·rw [decide_eq_true (el_in hk),decide_eq_true (by omega)]
 ·rw [decide_eq_false (by omega),decide_eq_false (fun hx => by obtain ⟨i,hi,e⟩ := el_of hx;exact h i hi e)]
set_option maxHeartbeats 800000 in
theorem idx14_any (a : Option Addr) (cap : Nat) (xs : List Int) (x : Int) (w : World) (hv : Vec w a xs.length xs) (hm : xs.length ≤ maxLen) :
  Calls Try.prog 148 #[.slice a xs.length cap,.int .i64 x] w fun e w' => (∃ z : Int,e = .returned (.int .i64 z) ∧ IsIdx xs x z) ∧ w' = w := by
 unfold maxLen at hm
 have hc := hv.2.2
 clear hv
 go_enter Try.func148,Try.ntmps148
 go_wp2
 go_loop [8] (fun i => ∃ k : Nat,k ≤ xs.length ∧ i = .int .i64 k ∧ ∀ j,j < k → el xs j ≠ x) (fun i => xs.length - (intOf i).toNat)
 case atStart => exact ⟨0,Nat.zero_le _,rfl,fun j hj => by omega⟩
 case round =>
  obtain ⟨k,hk,rfl,hall⟩ := hrel
  have HA : Hid (∀ j,j < k → el xs j ≠ x) := hall
  clear hall
  by_cases hlt : k < xs.length
  ·rcases hc with h0 | ⟨b,off,rfl,hc⟩
   ·omega
   have hck := hc k hlt
   clear hc
   have k0 : (0 : Int) ≤ (k : Int) := by omega
   have k1 : (k : Int) < (xs.length : Int) := by omega
   by_cases hx : el xs k = x
   ·have HX : Hid (IsIdx xs x (k : Int)) := .inl ⟨k,hlt,rfl,hx,HA.out⟩
    have hq : (x == el xs k) = true := by simp [hx]
    clear hx
    generalize el xs k = E at *
    go_wp2
    go_ret
    exact ⟨⟨_,rfl,HX.out⟩,rfl⟩
   ·have HX : Hid (∀ j,j < k + 1 → el xs j ≠ x) := fun j hj => by
     by_cases e : j = k
     ·rw [e];exact hx
     ·exact HA.out j (by omega)
    have hq : (x == el xs k) = false := by simp [Ne.symm hx]
    clear hx
    generalize el xs k = E at *
    go_wp2
    go_round
    case rel => exact ⟨k + 1,by omega,by go_num,HX.out⟩
    case measure => simp [intOf];omega
  ·have k1 : ¬ ((k : Int) < (xs.length : Int)) := by omega
   obtain rfl : k = xs.length := by omega
   clear hc
   go_wp2
   go_ret
   exact ⟨⟨_,rfl,.inr ⟨rfl,HA.out⟩⟩,rfl⟩
set_option maxHeartbeats 400000 in
theorem con14_any (a : Option Addr) (cap : Nat) (xs : List Int) (x : Int) (w : World) (hv : Vec w a xs.length xs) (hm : xs.length ≤ maxLen) :
  Calls Try.prog 138 #[.slice a xs.length cap,.int .i64 x] w fun e w' => e = .returned (.bool (decide (x ∈ xs))) ∧ w' = w := by
 have hI := idx14_any a cap xs x w hv hm
 clear hv
 go_enter Try.func138,Try.ntmps138
 go_wp2_with (go_at_call 148;refine hI.mono ?_;rintro e w' ⟨⟨z,rfl,hz⟩,hw'⟩;rw [hw'];clear hw';have HZ : Hid (IsIdx xs x z) := hz;clear hz)
 go_ret
 exact ⟨ret_bool (by rw [← HZ.out.mem]),rfl⟩
end Go.Proofs.Ythioodpmgifomaa
namespace Go.Proofs.Ythioodpmgifomaa
set_option linter.unusedVariables false
set_option linter.unusedSimpArgs false
open Go.RowKit Go.Sort
set_option maxHeartbeats 400000 in
theorem cnt_any (B : Nat) (a : Option Addr) (n c : Nat) (X : World) (h1 : X.cell? ⟨B,1,none⟩ = some (.slice a n c)) :
  Calls Try.prog 128 #[.pointer (some ⟨B,0,none⟩)] X fun e w' => e = .returned (.int .i64 (n : Int)) ∧ w' = X := by
 go_enter Try.func128,Try.ntmps128
 go_wp2
 go_ret
 exact ⟨rfl,rfl⟩
set_option maxRecDepth 100000 in
set_option maxHeartbeats 800000 in
theorem own_any (B i n g off c : Nat) (X : World) (h0 : X.cell? ⟨B,0,none⟩ = some (.int .i64 (i : Int))) (h1 : X.cell? ⟨B,1,none⟩ = some (.slice (some ⟨g,off,none⟩) n c)) (hi : i < n) :
  Calls Try.prog 123 #[.pointer (some ⟨B,0,none⟩)] X fun e w' => e = .returned (.pointer (some ⟨g,off + i * 8,none⟩)) ∧ Below X.heap.size X w' := by
 have hmix := mixed17
 have i0 : (0 : Int) ≤ (i : Int) := by omega
 have i1 : (i : Int) < (n : Int) := by omega
 have T : ∀ {x v},X.cell? x = some v → ∀ q : Bk X,q.w.cell? x = some v := fun h q => (q.h.cell (World.block_lt_of_cell? _ _ h)).trans h
 have p0 := T h0
 have p1 := T h1
 clear T h0 h1
 go_enter Try.func123,Try.ntmps123
 go_wp2_with fail
 refine wp_region_bk (by kernel_rfl) (by kernel_rfl) ?_
 repeat (go_big_quiet_step ((first | rfl)))
 refine wpQuiet_nil ?_
 intro wE hw'
 obtain ⟨⟨w11,hb11⟩,hw''⟩ := hw'
 have hwe : wE = w11 := hw''
 clear hw''
 subst hwe
 have HB : Hid (Below X.heap.size X wE) := hb11
 clear p0 p1 hb11
 go_wp2
 go_ret
 exact ⟨rfl,HB.out⟩
def othB (i n : Nat) (sus : List Int) (who : Int) : Bool := decide (who ≠ (i : Int)) && (inB who 0 ((n : Int) - 1) && decide (who ∉ sus))
set_option maxRecDepth 100000 in
set_option maxHeartbeats 1600000 in
theorem oth_any (B i n g off c : Nat) (sa : Option Addr) (sc : Nat) (sus : List Int) (who : Int) (X : World) (h0 : X.cell? ⟨B,0,none⟩ = some (.int .i64 (i : Int))) (h1 : X.cell? ⟨B,1,none⟩ = some (.slice (some ⟨g,off,none⟩) n c)) (hi : i < n) (hn : n ≤ 5) (h3 : X.cell? ⟨g,off + i * 8 + 3,none⟩ = some (.slice sa sus.length sc)) (hv : Vec X sa sus.length sus) (hm : sus.length ≤ maxLen) :
  Calls Try.prog 127 #[.pointer (some ⟨B,0,none⟩),.int .i64 who] X fun e w' => e = .returned (.bool (othB i n sus who)) ∧ Below X.heap.size X w' := by
 have HR : Hid (Below X.heap.size X X) := Below.refl _ _
 by_cases e1 : who = (i : Int)
 ·have HZ : Hid (othB i n sus who = false) := by rw [Hid,othB,e1];simp
  have e1' : (who != (i : Int)) = false := by simp [e1]
  clear e1
  go_enter Try.func127,Try.ntmps127
  go_wp2_with fail
  go_ret
  exact ⟨ret_bool (by rw [HZ.out]),HR.out⟩
 have e1' : (who != (i : Int)) = true := by simp [e1]
 have hC := fun X h => cnt_any B (some ⟨g,off,none⟩) n c X h
 have hwn : wrap64 ((n : Int) - 1) = (n : Int) - 1 := by unfold wrap64;omega
 cases e2 : inB who 0 ((n : Int) - 1) with
 | false =>
  have HZ : Hid (othB i n sus who = false) := by rw [Hid,othB,e2];simp
  clear e1
  go_enter Try.func127,Try.ntmps127
  go_wp2_with (first | (go_at_call 128;refine (hC _ h1).mono ?_;rintro e w' ⟨rfl,hw'⟩;rw [hw'];clear hw') | (go_at_call 137;refine (isW14_any _ _ _).mono ?_;rintro e w' ⟨rfl,hw'⟩;rw [hw',e2];clear hw'))
  go_ret
  exact ⟨ret_bool (by rw [HZ.out]),HR.out⟩
 | true =>
  have HZ : Hid (othB i n sus who = !decide (who ∈ sus)) := by rw [Hid,othB,e2,decide_eq_true e1];simp
  have hO := own_any B i n g off c X h0 h1 hi
  have HCon : Hid (∀ Y,Below X.heap.size X Y → Y.cell? ⟨g,off + i * 8 + 3,none⟩ = some (.slice sa sus.length sc) ∧ Calls Try.prog 138 #[.slice sa sus.length sc,.int .i64 who] Y fun e w' => e = .returned (.bool (decide (who ∈ sus))) ∧ w' = Y) := fun Y hY => ⟨(hY.cell (World.block_lt_of_cell? _ _ h3)).trans h3,con14_any sa sc sus who Y (hv.below hY (Nat.le_refl _)) hm⟩
  clear e1 hv hm HR
  generalize decide (who ∈ sus) = b at *
  go_enter Try.func127,Try.ntmps127
  go_wp2_with (first | (go_at_call 128;refine (hC _ h1).mono ?_;rintro e w' ⟨rfl,hw'⟩;rw [hw'];clear hw') | (go_at_call 137;refine (isW14_any _ _ _).mono ?_;rintro e w' ⟨rfl,hw'⟩;rw [hw',e2];clear hw') | (go_at_call 123;refine hO.mono ?_;rintro e w1 ⟨rfl,hb1⟩;obtain ⟨g3,hCn⟩ := HCon.out w1 hb1;have HB1 : Hid (Below X.heap.size X w1) := hb1;clear hb1 h0 h1 h3) | (go_at_call 138;refine hCn.mono ?_;rintro e w' ⟨rfl,hw'⟩;rw [hw'];clear hw'))
  go_ret
  exact ⟨ret_bool (by rw [HZ.out]),HB1.out⟩
end Go.Proofs.Ythioodpmgifomaa
namespace Go.Proofs.Ythioodpmgifomaa
set_option linter.unusedSimpArgs false
set_option linter.unusedVariables false
open Go.RowKit Go.Sort Go.Shelf
def Try.cloneL_ren : Go.Shelf.Ren := ⟨fun | 316 => 144 | n => n,fun | 9 => 9 | 3 => 3 | 4 => 4 | 37 => 22 | 0 => 0 | 127 => 161 | 5 => 5 | n => n,fun | n => n⟩
theorem Try.cloneL : Go.Proofs.LaysM.n316 Try.prog Try.cloneL_ren := {
 mixed := by kernel_rfl
 f316 := Try.func144.trans (congrArg some (by kernel_rfl))
 t0 := Try.underlying0
 a0 := Try.isAgg0
 z0 := Try.sizeOf0
 v0 := Try.zeroValue0
 t3 := Try.underlying3
 a3 := Try.isAgg3
 z3 := Try.sizeOf3
 v3 := Try.zeroValue3
 t4 := Try.underlying4
 a4 := Try.isAgg4
 z4 := Try.sizeOf4
 v4 := Try.zeroValue4
 t9 := Try.underlying9
 a9 := Try.isAgg9
 z9 := Try.sizeOf9
 v9 := Try.zeroValue9
 t37 := Try.underlying22
 a37 := Try.isAgg22
 z37 := Try.sizeOf22
 v37 := Try.zeroValue22
 t127 := Try.underlying161
 a127 := Try.isAgg161
 z127 := Try.sizeOf161
 v127 := Try.zeroValue161
 t5 := Try.underlying5
 a5 := Try.isAgg5
 z5 := Try.sizeOf5
 v5 := Try.zeroValue5
 i0 := by kernel_rfl
 i3 := by kernel_rfl
 i4 := by kernel_rfl
 i5 := by kernel_rfl
 i9 := by kernel_rfl
 i37 := by kernel_rfl
 i127 := by kernel_rfl }
set_option maxHeartbeats 400000 in
theorem clone_any (l : List UInt8) (w : World) (hl : l.length ≤ 1048576) :
  Calls Try.prog 124 #[.string (sv l)] w fun e w' => e = .returned (.string (sv l)) ∧ Below w.heap.size w w' := by
 have h := Any.stringslite_Clone Try.cloneL (sv l) w (by rw [sv_size];omega)
 go_enter Try.func124,Try.ntmps124
 go_wp2_with fail
 refine h.mono ?_
 rintro e w1 ⟨rfl,hb⟩
 have HB : Hid (Below w.heap.size w w1) := hb
 clear hb h
 go_wp2
 go_ret
 exact ⟨rfl,HB.out⟩
end Go.Proofs.Ythioodpmgifomaa
namespace Go.Proofs.Ythioodpmgifomaa
set_option linter.unusedVariables false
set_option linter.unusedSimpArgs false
open Go.RowKit Go.Sort
section
variable {P : Program} {l : List Oper} {Q : Exit → Act → World → Prop} {S : World → Prop}
theorem gt_oneN {i z : Nat} {o : Oper} {fuel : Nat} {listed : Array Bool} {a : Act} {w : World} (hn : ¬ S w) (hi : l[i]? = some o) (hr : Region.ready .any l.toArray listed = [i])
  (h : ∀ K' : Act → World → Prop,Shut (∀ a w,GT P l Q S z fuel (listed.setIfInBounds i true) a w → K' a w) → if Region.wanted o (yielded l.toArray a.tmps) = true then Oper.wp P o a w K' Q else K' (a.put o.dst undef) w) : GT P l Q S z (fuel + 1) listed a w := by
 have hi' : l.toArray[i]? = some o := by simpa using hi
 refine ⟨fun h0 => (by rw [hr] at h0;cases h0),fun j hj => ?_⟩
 rw [hr] at hj
 simp at hj
 subst hj
 exact wpOp_step hi' (fun K' hK => h K' (fun a w hW => hK a w ⟨fun _ hS => absurd hS hn,hW⟩))
theorem gt_oneZ {z : Nat} {o : Oper} {fuel : Nat} {listed : Array Bool} {a : Act} {w : World} (hi : l[z]? = some o) (hr : Region.ready .any l.toArray listed = [z])
  (h : ∀ K' : Act → World → Prop,Shut (∀ a w,GT P l Q S z fuel (listed.setIfInBounds z true) a w → K' a w) → if Region.wanted o (yielded l.toArray a.tmps) = true then Oper.wp P o a w K' Q else K' (a.put o.dst undef) w) : GT P l Q S z (fuel + 1) listed a w := by
 have hi' : l.toArray[z]? = some o := by simpa using hi
 refine ⟨fun h0 => (by rw [hr] at h0;cases h0),fun j hj => ?_⟩
 rw [hr] at hj
 simp at hj
 subst hj
 exact wpOp_step hi' (fun K' hK => h K' (fun a w hW => hK a w ⟨fun e _ => absurd rfl e,hW⟩))
end
set_option maxRecDepth 100000 in
set_option maxHeartbeats 800000 in
theorem cln_any (a : Option Addr) (c : Nat) (xs : List Int) (w : World) (hv : Vec w a xs.length xs) (hl : xs.length ≤ 1000000) :
  Calls Try.prog 145 #[.slice a xs.length c] w fun e w' => AnsL w w' e xs := by
 have q25 : ∀ (w : World) (a : Option Addr) (n c n' c' : Nat),(binOp .eql 24 (.slice a n c) (.slice none n' c')).run Try.prog w = .ok (.bool a.isNone) w := fun w a n c n' c' => Lib.run_eql_slice_nil w _ _ a n c n' c' Try.underlying24
 cases a with
 | none =>
  have hx : xs = [] := by
   rcases hv.2.2 with h | ⟨b,o,e,_⟩
   ·exact List.eq_nil_of_length_eq_zero h
   ·cases e
  subst hx
  clear hv
  go_enter Try.func145,Try.ntmps145
  go_wp2
  go_ret
  exact ⟨none,0,rfl,fun _ => False,ow_icl.2 ⟨none,0,none,rfl,OSo.nil _ _ (fun _ h => by cases h),fun b => by simp⟩,fun _ h => h.elim,Below.refl _ _⟩
 | some ad =>
  have hA := vec_copied (c := c) hv hl
  clear hv
  go_enter Try.func145,Try.ntmps145
  go_wp2_with (at_builtin;refine wpList_append_of (by rfl) _ _ _ _ (by rfl) _ _ (by rfl) (by rfl) hA ⟨rfl,rfl,rfl,rfl⟩ ?_;rintro v1 w1 ⟨a1,e1,f1,rfl,q1,q2,q3⟩;have HQ : Hid (NewO w w1 (icl xs) (.slice a1 xs.length e1)) := ⟨f1,q1,q2,q3⟩;clear q1 q2 q3 hA)
  go_ret
  exact ⟨a1,e1,rfl,HQ.out⟩
end Go.Proofs.Ythioodpmgifomaa
namespace Go.Proofs.Ythioodpmgifomaa
set_option linter.unusedVariables false
set_option linter.unusedSimpArgs false
open Go.RowKit Go.Sort
attribute [local irreducible] sv
set_option maxRecDepth 100000 in
set_option maxHeartbeats 3200000 in
theorem anw_any (A : Ra) (r : Rw) (w : World) (hv : RwP w A r) (hg : 0 < r.got.length) (hs : szRw r ≤ 1000) :
  Calls Try.prog 130 #[rwV A r] w fun e w' => AnsRw w w' e r := by
 have hmix := mixed17
 unfold szRw at hs
 have hb1 := oneA16 w (.cells #[.int .i64 r.ver,.slice A.ta r.txt.length A.tc,.slice A.ga r.got.length A.gc,.slice A.sa r.sus.length A.sc,.bool r.wed,.bool r.rdy,.int .i64 r.by_,.slice A.ma r.trm.length A.mc] 51)
 have hb2 := oneA16 (w.alloc (.cells #[.int .i64 r.ver,.slice A.ta r.txt.length A.tc,.slice A.ga r.got.length A.gc,.slice A.sa r.sus.length A.sc,.bool r.wed,.bool r.rdy,.int .i64 r.by_,.slice A.ma r.trm.length A.mc] 51)) (.cells #[.int .i64 0,.slice none 0 0,.slice none 0 0,.slice none 0 0,.bool false,.bool false,.int .i64 0,.slice none 0 0] 51)
 have hb3 := oneA16 ((w.alloc (.cells #[.int .i64 r.ver,.slice A.ta r.txt.length A.tc,.slice A.ga r.got.length A.gc,.slice A.sa r.sus.length A.sc,.bool r.wed,.bool r.rdy,.int .i64 r.by_,.slice A.ma r.trm.length A.mc] 51)).alloc (.cells #[.int .i64 0,.slice none 0 0,.slice none 0 0,.slice none 0 0,.bool false,.bool false,.int .i64 0,.slice none 0 0] 51)) (.cells #[] 9)
 have hx1 : Bx (((w.alloc (.cells #[.int .i64 r.ver,.slice A.ta r.txt.length A.tc,.slice A.ga r.got.length A.gc,.slice A.sa r.sus.length A.sc,.bool r.wed,.bool r.rdy,.int .i64 r.by_,.slice A.ma r.trm.length A.mc] 51)).alloc (.cells #[.int .i64 0,.slice none 0 0,.slice none 0 0,.slice none 0 0,.bool false,.bool false,.int .i64 0,.slice none 0 0] 51)).alloc (.cells #[] 9)) w.heap.size 51 #[.int .i64 r.ver,.slice A.ta r.txt.length A.tc,.slice A.ga r.got.length A.gc,.slice A.sa r.sus.length A.sc,.bool r.wed,.bool r.rdy,.int .i64 r.by_,.slice A.ma r.trm.length A.mc] := ((Bx.new w 51 #[.int .i64 r.ver,.slice A.ta r.txt.length A.tc,.slice A.ga r.got.length A.gc,.slice A.sa r.sus.length A.sc,.bool r.wed,.bool r.rdy,.int .i64 r.by_,.slice A.ma r.trm.length A.mc]).alloc _).alloc _
 have hx2 : Bx (((w.alloc (.cells #[.int .i64 r.ver,.slice A.ta r.txt.length A.tc,.slice A.ga r.got.length A.gc,.slice A.sa r.sus.length A.sc,.bool r.wed,.bool r.rdy,.int .i64 r.by_,.slice A.ma r.trm.length A.mc] 51)).alloc (.cells #[.int .i64 0,.slice none 0 0,.slice none 0 0,.slice none 0 0,.bool false,.bool false,.int .i64 0,.slice none 0 0] 51)).alloc (.cells #[] 9)) (w.heap.size + 1) 51 #[.int .i64 0,.slice none 0 0,.slice none 0 0,.slice none 0 0,.bool false,.bool false,.int .i64 0,.slice none 0 0] := by
  have := (Bx.new (w.alloc (.cells #[.int .i64 r.ver,.slice A.ta r.txt.length A.tc,.slice A.ga r.got.length A.gc,.slice A.sa r.sus.length A.sc,.bool r.wed,.bool r.rdy,.int .i64 r.by_,.slice A.ma r.trm.length A.mc] 51)) 51 #[.int .i64 0,.slice none 0 0,.slice none 0 0,.slice none 0 0,.bool false,.bool false,.int .i64 0,.slice none 0 0]).alloc (.cells #[] 9)
  simp only [World.size_alloc] at this
  exact this
 have hb12 : Below w.heap.size w ((w.alloc (.cells #[.int .i64 r.ver,.slice A.ta r.txt.length A.tc,.slice A.ga r.got.length A.gc,.slice A.sa r.sus.length A.sc,.bool r.wed,.bool r.rdy,.int .i64 r.by_,.slice A.ma r.trm.length A.mc] 51)).alloc (.cells #[.int .i64 0,.slice none 0 0,.slice none 0 0,.slice none 0 0,.bool false,.bool false,.int .i64 0,.slice none 0 0] 51)) := hb1.trans (hb2.mono hb1.size)
 have hb13 : Below w.heap.size w (((w.alloc (.cells #[.int .i64 r.ver,.slice A.ta r.txt.length A.tc,.slice A.ga r.got.length A.gc,.slice A.sa r.sus.length A.sc,.bool r.wed,.bool r.rdy,.int .i64 r.by_,.slice A.ma r.trm.length A.mc] 51)).alloc (.cells #[.int .i64 0,.slice none 0 0,.slice none 0 0,.slice none 0 0,.bool false,.bool false,.int .i64 0,.slice none 0 0] 51)).alloc (.cells #[] 9)) := hb12.trans (hb3.mono hb12.size)
 have HO0 : Hid (Cel.ow (((w.alloc (.cells #[.int .i64 r.ver,.slice A.ta r.txt.length A.tc,.slice A.ga r.got.length A.gc,.slice A.sa r.sus.length A.sc,.bool r.wed,.bool r.rdy,.int .i64 r.by_,.slice A.ma r.trm.length A.mc] 51)).alloc (.cells #[.int .i64 0,.slice none 0 0,.slice none 0 0,.slice none 0 0,.bool false,.bool false,.int .i64 0,.slice none 0 0] 51)).alloc (.cells #[] 9)) (scl []) (.slice (some ⟨w.heap.size + 1 + 1,0,none⟩) 0 0) (fun _ => False)) := ow_scl.2 ⟨_,0,none,rfl,OSo.nil _ _ (plainS _ _),fun b => by simp⟩
 have HX1 : Hid (Bx (((w.alloc (.cells #[.int .i64 r.ver,.slice A.ta r.txt.length A.tc,.slice A.ga r.got.length A.gc,.slice A.sa r.sus.length A.sc,.bool r.wed,.bool r.rdy,.int .i64 r.by_,.slice A.ma r.trm.length A.mc] 51)).alloc (.cells #[.int .i64 0,.slice none 0 0,.slice none 0 0,.slice none 0 0,.bool false,.bool false,.int .i64 0,.slice none 0 0] 51)).alloc (.cells #[] 9)) w.heap.size 51 #[.int .i64 r.ver,.slice A.ta r.txt.length A.tc,.slice A.ga r.got.length A.gc,.slice A.sa r.sus.length A.sc,.bool r.wed,.bool r.rdy,.int .i64 r.by_,.slice A.ma r.trm.length A.mc]) := hx1
 have HX2 : Hid (Bx (((w.alloc (.cells #[.int .i64 r.ver,.slice A.ta r.txt.length A.tc,.slice A.ga r.got.length A.gc,.slice A.sa r.sus.length A.sc,.bool r.wed,.bool r.rdy,.int .i64 r.by_,.slice A.ma r.trm.length A.mc] 51)).alloc (.cells #[.int .i64 0,.slice none 0 0,.slice none 0 0,.slice none 0 0,.bool false,.bool false,.int .i64 0,.slice none 0 0] 51)).alloc (.cells #[] 9)) (w.heap.size + 1) 51 #[.int .i64 0,.slice none 0 0,.slice none 0 0,.slice none 0 0,.bool false,.bool false,.int .i64 0,.slice none 0 0]) := hx2
 have HB0 : Hid (Below w.heap.size w (((w.alloc (.cells #[.int .i64 r.ver,.slice A.ta r.txt.length A.tc,.slice A.ga r.got.length A.gc,.slice A.sa r.sus.length A.sc,.bool r.wed,.bool r.rdy,.int .i64 r.by_,.slice A.ma r.trm.length A.mc] 51)).alloc (.cells #[.int .i64 0,.slice none 0 0,.slice none 0 0,.slice none 0 0,.bool false,.bool false,.int .i64 0,.slice none 0 0] 51)).alloc (.cells #[] 9))) := hb13
 have HV : Hid (RwP w A r) := hv
 have hsz : w.heap.size + 1 + 1 ≤ (((w.alloc (.cells #[.int .i64 r.ver,.slice A.ta r.txt.length A.tc,.slice A.ga r.got.length A.gc,.slice A.sa r.sus.length A.sc,.bool r.wed,.bool r.rdy,.int .i64 r.by_,.slice A.ma r.trm.length A.mc] 51)).alloc (.cells #[.int .i64 0,.slice none 0 0,.slice none 0 0,.slice none 0 0,.bool false,.bool false,.int .i64 0,.slice none 0 0] 51)).alloc (.cells #[] 9)).heap.size := by simp only [World.size_alloc];omega
 have HSz : Hid (w.heap.size + 1 + 1 ≤ (((w.alloc (.cells #[.int .i64 r.ver,.slice A.ta r.txt.length A.tc,.slice A.ga r.got.length A.gc,.slice A.sa r.sus.length A.sc,.bool r.wed,.bool r.rdy,.int .i64 r.by_,.slice A.ma r.trm.length A.mc] 51)).alloc (.cells #[.int .i64 0,.slice none 0 0,.slice none 0 0,.slice none 0 0,.bool false,.bool false,.int .i64 0,.slice none 0 0] 51)).alloc (.cells #[] 9)).heap.size) := hsz
 obtain ⟨⟨c0,c1,c2,c3⟩,c4,c5,c6,c7⟩ := Bx.r8 hx1
 clear hb1 hb2 hb3 hb12 hb13 hx1 hx2 hv hsz
 unfold rwV rwC
 go_enter Try.func130,Try.ntmps130
 go_wp2_with fail
 generalize ((w.alloc (.cells #[.int .i64 r.ver,.slice A.ta r.txt.length A.tc,.slice A.ga r.got.length A.gc,.slice A.sa r.sus.length A.sc,.bool r.wed,.bool r.rdy,.int .i64 r.by_,.slice A.ma r.trm.length A.mc] 51)).alloc (.cells #[.int .i64 0,.slice none 0 0,.slice none 0 0,.slice none 0 0,.bool false,.bool false,.int .i64 0,.slice none 0 0] 51)).alloc (.cells #[] 9) = W0 at *
 clear c0 c1 c2 c3 c4 c5 c6 c7
 go_loopw [3,10] (fun v k wr => ∃ (j : Nat) (a : Option Addr) (cc : Nat) (Z : List (List UInt8)) (fz : Fp),j ≤ r.txt.length ∧ k = .int .i64 (j : Int) ∧ v = .slice a Z.length cc ∧ Hid (Z = r.txt.take j) ∧ Cel.ow wr (scl Z) (.slice a Z.length cc) fz ∧ (∀ b,fz b → w.heap.size + 1 + 1 ≤ b) ∧ Bx wr w.heap.size 51 #[.int .i64 r.ver,.slice A.ta r.txt.length A.tc,.slice A.ga r.got.length A.gc,.slice A.sa r.sus.length A.sc,.bool r.wed,.bool r.rdy,.int .i64 r.by_,.slice A.ma r.trm.length A.mc] ∧ Bx wr (w.heap.size + 1) 51 #[.int .i64 0,.slice none 0 0,.slice none 0 0,.slice none 0 0,.bool false,.bool false,.int .i64 0,.slice none 0 0] ∧ Below w.heap.size w wr) (fun _ k _ => r.txt.length - (intOf k).toNat)
 case atStart => exact ⟨0,some ⟨w.heap.size + 1 + 1,0,none⟩,0,[],_,Nat.zero_le _,rfl,rfl,rfl,HO0.out,fun b h => h.elim,HX1.out,HX2.out,HB0.out⟩
 case round =>
  obtain ⟨j,a,cc,Z,fz,hj,rfl,rfl,hZ,hO,hfz,hx1,hx2,hb⟩ := hrel
  have HO : Hid (Cel.ow wr (scl Z) (.slice a Z.length cc) fz) := hO
  have HY1 : Hid (Bx wr w.heap.size 51 #[.int .i64 r.ver,.slice A.ta r.txt.length A.tc,.slice A.ga r.got.length A.gc,.slice A.sa r.sus.length A.sc,.bool r.wed,.bool r.rdy,.int .i64 r.by_,.slice A.ma r.trm.length A.mc]) := hx1
  have HY2 : Hid (Bx wr (w.heap.size + 1) 51 #[.int .i64 0,.slice none 0 0,.slice none 0 0,.slice none 0 0,.bool false,.bool false,.int .i64 0,.slice none 0 0]) := hx2
  have HB : Hid (Below w.heap.size w wr) := hb
  have hsr := hx2.lt
  clear hO HX1 HX2 HB0 HO0 HSz
  by_cases hlt : j < r.txt.length
  ·rcases (HV.out.below hb).txt.txs with h0 | ⟨tb,tq,hta,htc⟩
   ·omega
   have hck := htc j hlt
   have hlen : (r.txt.getD j []).length ≤ 1048576 := by have := totS_at r.txt hlt;omega
   have hC := clone_any (r.txt.getD j []) wr hlen
   have HN : Hid (r.txt.take (j + 1) = Z ++ [r.txt.getD j []]) := by rw [Hid,hZ.out,List.take_succ_eq_append_getElem hlt];simp [List.getD,hlt]
   have HZl : Hid (Z.length ≤ 1000000) := by rw [Hid,hZ.out,List.length_take];omega
   have k0 : (0 : Int) ≤ (j : Int) := by omega
   have k1 : (j : Int) < (r.txt.length : Int) := by omega
   rw [hta]
   clear hx1 hx2 hb htc hZ hlen
   generalize r.txt.getD j [] = t at *
   go_wp2_with (first | (go_at_call 124;refine hC.mono ?_;rintro e w1 ⟨rfl,hb1⟩;have HY1a : Hid (Bx w1 w.heap.size 51 #[.int .i64 r.ver,.slice A.ta r.txt.length A.tc,.slice A.ga r.got.length A.gc,.slice A.sa r.sus.length A.sc,.bool r.wed,.bool r.rdy,.int .i64 r.by_,.slice A.ma r.trm.length A.mc]) := HY1.out.below hb1;have HY2a : Hid (Bx w1 (w.heap.size + 1) 51 #[.int .i64 0,.slice none 0 0,.slice none 0 0,.slice none 0 0,.bool false,.bool false,.int .i64 0,.slice none 0 0]) := HY2.out.below hb1;have HB1 : Hid (Below w.heap.size w w1) := HB.out.trans (hb1.mono HB.out.size);have hs1 := hb1.size;obtain ⟨a',c',ea,hA⟩ := ow_txt_app t (Cel.ow_below HO.out hb1) HZl.out;cases ea;clear hb1 hck) | (at_builtin;refine wpList_append_of (by rfl) _ _ _ _ (by rfl) _ _ (by rfl) (by rfl) hA ⟨rfl,rfl,rfl,rfl⟩ ?_;rintro v1 w2 ⟨a1,e1,f1,rfl,q1,q2,q3⟩;have HQ1 : Hid (Cel.ow w2 (scl (Z ++ [t])) (.slice a1 (Z.length + 1) e1) f1) := q1;have HQ2 : Hid (∀ b,f1 b → fz b ∨ w1.heap.size ≤ b) := q2;have HQ3 : Hid (Wrt fz w1 w2) := q3;clear q1 q2 q3 hA))
   have HL : Hid ((Z ++ [t]).length = Z.length + 1) := by rw [Hid,List.length_append];rfl
   go_roundw
   case rel => exact ⟨j + 1,a1,e1,Z ++ [t],f1,by omega,by go_num,by rw [HL.out],HN.out.symm,by rw [HL.out];exact HQ1.out,fun b hb => (HQ2.out b hb).elim (hfz b) (fun h => by omega),by rw [← hta];exact HY1a.out.wrt HQ3.out (fun k => by have := hfz _ k;omega),HY2a.out.wrt HQ3.out (fun k => by have := hfz _ k;omega),HQ3.out.below HB1.out HB1.out.size (fun b hb => by have := hfz b hb;omega)⟩
   case measure => simp [intOf];omega
  ·have k1 : ¬ ((j : Int) < (r.txt.length : Int)) := by omega
   have ej : j = r.txt.length := by omega
   have eZ : Z = r.txt := by rw [hZ.out,ej,List.take_length]
   subst eZ
   have hrp := HV.out.below hb
   have KS : ∀ X,Below wr.heap.size wr X → X.cell? ⟨w.heap.size,2,none⟩ = some (.slice A.ga r.got.length A.gc) ∧ X.cell? ⟨w.heap.size,3,none⟩ = some (.slice A.sa r.sus.length A.sc) ∧ X.cell? ⟨w.heap.size,7,none⟩ = some (.slice A.ma r.trm.length A.mc) := fun X hX => by
    obtain ⟨⟨d0,d1,d2,d3⟩,d4,d5,d6,d7⟩ := Bx.r8 (HY1.out.below hX)
    exact ⟨d2,d3,d7⟩
   have hbd : Below wr.heap.size wr wr.drew := (Same.drewN wr 1).below
   have hC1 := cln_any A.ga A.gc r.got wr.drew (hrp.below hbd).got.vec (by omega)
   have HC2 : Hid (∀ X,Below wr.heap.size wr X → Calls Try.prog 145 #[.slice A.sa r.sus.length A.sc] X fun e w' => AnsL X w' e r.sus) := fun X hX => cln_any A.sa A.sc r.sus X (hrp.below hX).sus.vec (by omega)
   have HC3 : Hid (∀ X,Below wr.heap.size wr X → Calls Try.prog 145 #[.slice A.ma r.trm.length A.mc] X fun e w' => AnsL X w' e r.trm) := fun X hX => cln_any A.ma A.mc r.trm X (hrp.below hX).trm.vec (by omega)
   have HGa : Hid (∃ gb go,A.ga = some ⟨gb,go,none⟩ ∧ gb < w.heap.size) := by
    rcases HV.out.got.vec.2.2 with h | ⟨gb,go,e,h⟩
    ·omega
    ·exact ⟨gb,go,e,World.block_lt_of_cell? _ _ (h 0 hg)⟩
   have hwr := HB.out.size
   clear hrp hx1 hx2 hb hZ hs ej HV
   go_wp2_with fail
   refine gt_begin (S := fun X : World => X.cell? ⟨w.heap.size,2,none⟩ = some (.slice A.ga r.got.length A.gc) ∧ X.cell? ⟨w.heap.size,3,none⟩ = some (.slice A.sa r.sus.length A.sc) ∧ X.cell? ⟨w.heap.size,7,none⟩ = some (.slice A.ma r.trm.length A.mc)) 13 hmix (by kernel_rfl) ?_
   have hHeld : (fun X : World => X.cell? ⟨w.heap.size,2,none⟩ = some (.slice A.ga r.got.length A.gc) ∧ X.cell? ⟨w.heap.size,3,none⟩ = some (.slice A.sa r.sus.length A.sc) ∧ X.cell? ⟨w.heap.size,7,none⟩ = some (.slice A.ma r.trm.length A.mc)) wr.drew := (KS _ hbd)
   refine gt_take (i := 0) (v := ?_) rfl (by kernel_rfl) (by kernel_rfl) (by kernel_rfl) (by kernel_rfl) (fun _ _ _ h => h) (Or.inl ⟨by rfl, ?_⟩) hHeld ?_
   rotate_left
   ·(intro X hSX;(try dsimp only at hSX);obtain ⟨g0,g1,g2⟩ := hSX;go_simp;try with_reducible rfl)
   try simp only [Act.put,List.setIfInBounds_toArray,List.set_cons_zero,List.set_cons_succ]
   refine gt_take (i := 1) (v := ?_) rfl (by kernel_rfl) (by kernel_rfl) (by kernel_rfl) (by kernel_rfl) (fun _ _ _ h => h) (Or.inl ⟨by rfl, ?_⟩) hHeld ?_
   rotate_left
   ·(intro X hSX;(try dsimp only at hSX);obtain ⟨g0,g1,g2⟩ := hSX;go_simp;try with_reducible rfl)
   try simp only [Act.put,List.setIfInBounds_toArray,List.set_cons_zero,List.set_cons_succ]
   refine gt_take (i := 2) (v := ?_) rfl (by kernel_rfl) (by kernel_rfl) (by kernel_rfl) (by kernel_rfl) (fun _ _ _ h => h) (Or.inl ⟨by rfl, ?_⟩) hHeld ?_
   rotate_left
   ·(intro X hSX;(try dsimp only at hSX);obtain ⟨g0,g1,g2⟩ := hSX;go_simp;try with_reducible rfl)
   try simp only [Act.put,List.setIfInBounds_toArray,List.set_cons_zero,List.set_cons_succ]
   refine gt_take (i := 4) (v := ?_) rfl (by kernel_rfl) (by kernel_rfl) (by kernel_rfl) (by kernel_rfl) (fun _ _ _ h => h) (Or.inl ⟨by rfl, ?_⟩) hHeld ?_
   rotate_left
   ·(intro X hSX;(try dsimp only at hSX);obtain ⟨g0,g1,g2⟩ := hSX;go_simp;try with_reducible rfl)
   try simp only [Act.put,List.setIfInBounds_toArray,List.set_cons_zero,List.set_cons_succ]
   refine gt_take (i := 5) (v := ?_) rfl (by kernel_rfl) (by kernel_rfl) (by kernel_rfl) (by kernel_rfl) (fun _ _ _ h => h) (Or.inl ⟨by rfl, ?_⟩) hHeld ?_
   rotate_left
   ·(intro X hSX;(try dsimp only at hSX);obtain ⟨g0,g1,g2⟩ := hSX;go_simp;try with_reducible rfl)
   try simp only [Act.put,List.setIfInBounds_toArray,List.set_cons_zero,List.set_cons_succ]
   refine gt_take (i := 7) (v := ?_) rfl (by kernel_rfl) (by kernel_rfl) (by kernel_rfl) (by kernel_rfl) (fun _ _ _ h => h) (Or.inl ⟨by rfl, ?_⟩) hHeld ?_
   rotate_left
   ·(intro X hSX;(try dsimp only at hSX);obtain ⟨g0,g1,g2⟩ := hSX;go_simp;try with_reducible rfl)
   try simp only [Act.put,List.setIfInBounds_toArray,List.set_cons_zero,List.set_cons_succ]
   refine gt_take (i := 8) (v := ?_) rfl (by kernel_rfl) (by kernel_rfl) (by kernel_rfl) (by kernel_rfl) (fun _ _ _ h => h) (Or.inl ⟨by rfl, ?_⟩) hHeld ?_
   rotate_left
   ·(intro X hSX;(try dsimp only at hSX);obtain ⟨g0,g1,g2⟩ := hSX;go_simp;try with_reducible rfl)
   try simp only [Act.put,List.setIfInBounds_toArray,List.set_cons_zero,List.set_cons_succ]
   refine gt_pure (i := 10) (v := ?_) rfl (by kernel_rfl) (by kernel_rfl) (by kernel_rfl) (fun _ _ _ h => h) (Or.inl ⟨by rfl, ?_⟩) ?_
   rotate_left
   ·(intro X;go_simp;try with_reducible rfl)
   try simp only [Act.put,List.setIfInBounds_toArray,List.set_cons_zero,List.set_cons_succ]
   refine gt_one (i := 3) rfl (by kernel_rfl) (by kernel_rfl) (fun K hK => ?_)
   go_simp
   go_at_call 145
   refine hC1.mono ?_
   rintro e V1 ⟨a1,e1,rfl,f1,o1,p1,b1⟩
   have hbV1 : Below wr.heap.size wr V1 := hbd.trans (b1.mono hbd.size)
   refine hK.out _ _ (KS _ hbV1) (fun hHeldN => ?_)
   clear hK hHeld
   have hHeld := hHeldN
   try simp only [Act.put,List.setIfInBounds_toArray,List.set_cons_zero,List.set_cons_succ]
   refine gt_one (i := 6) rfl (by kernel_rfl) (by kernel_rfl) (fun K hK => ?_)
   go_simp
   go_at_call 145
   refine (HC2.out V1 hbV1).mono ?_
   rintro e V2 ⟨a2,e2,rfl,f2,o2,p2,b2⟩
   have hbV2 : Below wr.heap.size wr V2 := hbV1.trans (b2.mono hbV1.size)
   refine hK.out _ _ (KS _ hbV2) (fun hHeldN => ?_)
   clear hK hHeld
   have hHeld := hHeldN
   try simp only [Act.put,List.setIfInBounds_toArray,List.set_cons_zero,List.set_cons_succ]
   refine gt_one (i := 9) rfl (by kernel_rfl) (by kernel_rfl) (fun K hK => ?_)
   go_simp
   go_at_call 145
   refine (HC3.out V2 hbV2).mono ?_
   rintro e V3 ⟨a3,e3,rfl,f3,o3,p3,b3⟩
   have hbV3 : Below wr.heap.size wr V3 := hbV2.trans (b3.mono hbV2.size)
   refine hK.out _ _ (KS _ hbV3) (fun hHeldN => ?_)
   clear hK hHeld
   have hHeld := hHeldN
   try simp only [Act.put,List.setIfInBounds_toArray,List.set_cons_zero,List.set_cons_succ]
   have hX3 : Bx V3 w.heap.size 51 #[.int .i64 r.ver,.slice A.ta r.txt.length A.tc,.slice A.ga r.got.length A.gc,.slice A.sa r.sus.length A.sc,.bool r.wed,.bool r.rdy,.int .i64 r.by_,.slice A.ma r.trm.length A.mc] := HY1.out.below hbV3
   have hX4 : Bx (V3.setCell ⟨w.heap.size,1,none⟩ (.slice a r.txt.length cc)) w.heap.size 51 #[.int .i64 r.ver,.slice a r.txt.length cc,.slice A.ga r.got.length A.gc,.slice A.sa r.sus.length A.sc,.bool r.wed,.bool r.rdy,.int .i64 r.by_,.slice A.ma r.trm.length A.mc] := by simpa using hX3.setC 1 (.slice a r.txt.length cc)
   have hX5 : Bx ((V3.setCell ⟨w.heap.size,1,none⟩ (.slice a r.txt.length cc)).setCell ⟨w.heap.size,2,none⟩ (.slice a1 r.got.length e1)) w.heap.size 51 #[.int .i64 r.ver,.slice a r.txt.length cc,.slice a1 r.got.length e1,.slice A.sa r.sus.length A.sc,.bool r.wed,.bool r.rdy,.int .i64 r.by_,.slice A.ma r.trm.length A.mc] := by simpa using hX4.setC 2 (.slice a1 r.got.length e1)
   have hX6 : Bx (((V3.setCell ⟨w.heap.size,1,none⟩ (.slice a r.txt.length cc)).setCell ⟨w.heap.size,2,none⟩ (.slice a1 r.got.length e1)).setCell ⟨w.heap.size,3,none⟩ (.slice a2 r.sus.length e2)) w.heap.size 51 #[.int .i64 r.ver,.slice a r.txt.length cc,.slice a1 r.got.length e1,.slice a2 r.sus.length e2,.bool r.wed,.bool r.rdy,.int .i64 r.by_,.slice A.ma r.trm.length A.mc] := by simpa using hX5.setC 3 (.slice a2 r.sus.length e2)
   have hX7 : Bx ((((V3.setCell ⟨w.heap.size,1,none⟩ (.slice a r.txt.length cc)).setCell ⟨w.heap.size,2,none⟩ (.slice a1 r.got.length e1)).setCell ⟨w.heap.size,3,none⟩ (.slice a2 r.sus.length e2)).setCell ⟨w.heap.size,7,none⟩ (.slice a3 r.trm.length e3)) w.heap.size 51 #[.int .i64 r.ver,.slice a r.txt.length cc,.slice a1 r.got.length e1,.slice a2 r.sus.length e2,.bool r.wed,.bool r.rdy,.int .i64 r.by_,.slice a3 r.trm.length e3] := by simpa using hX6.setC 7 (.slice a3 r.trm.length e3)
   have hs3 := hbV3.size
   have hs12 := b2.size
   have hs23 := b3.size
   have hs2 := hbV2.size
   have hs1 := hbV1.size
   have hW7 : Wrt (fun x => x = w.heap.size) V3 ((((V3.setCell ⟨w.heap.size,1,none⟩ (.slice a r.txt.length cc)).setCell ⟨w.heap.size,2,none⟩ (.slice a1 r.got.length e1)).setCell ⟨w.heap.size,3,none⟩ (.slice a2 r.sus.length e2)).setCell ⟨w.heap.size,7,none⟩ (.slice a3 r.trm.length e3)) := (((Wrt.set V3 w.heap.size 1 _).trans (Wrt.set _ w.heap.size 2 _) (fun _ _ h => h)).trans (Wrt.set _ w.heap.size 3 _) (fun _ _ h => h)).trans (Wrt.set _ w.heap.size 7 _) (fun _ _ h => h)
   have hR3 : Bx V3 (w.heap.size + 1) 51 #[.int .i64 0,.slice none 0 0,.slice none 0 0,.slice none 0 0,.bool false,.bool false,.int .i64 0,.slice none 0 0] := HY2.out.below hbV3
   have HNe : Hid (∀ X : World,X.cell? ⟨w.heap.size,2,none⟩ = some (.slice a1 r.got.length e1) → ¬ (X.cell? ⟨w.heap.size,2,none⟩ = some (.slice A.ga r.got.length A.gc) ∧ X.cell? ⟨w.heap.size,3,none⟩ = some (.slice A.sa r.sus.length A.sc) ∧ X.cell? ⟨w.heap.size,7,none⟩ = some (.slice A.ma r.trm.length A.mc))) := fun X h hk => by
    have e := Option.some.inj (h.symm.trans hk.1)
    obtain ⟨g1,q1,k1,e',hf1,_⟩ := ow_int_set o1 hg
    obtain ⟨gb,go,hga,hlt⟩ := HGa.out
    rw [hga] at e
    rw [e] at e'
    cases e'
    have := p1 _ hf1
    have hd : wr.drew.heap.size = wr.heap.size := rfl
    omega
   have HFin : Hid (Bx ((((V3.setCell ⟨w.heap.size,1,none⟩ (.slice a r.txt.length cc)).setCell ⟨w.heap.size,2,none⟩ (.slice a1 r.got.length e1)).setCell ⟨w.heap.size,3,none⟩ (.slice a2 r.sus.length e2)).setCell ⟨w.heap.size,7,none⟩ (.slice a3 r.trm.length e3)) w.heap.size 51 #[.int .i64 r.ver,.slice a r.txt.length cc,.slice a1 r.got.length e1,.slice a2 r.sus.length e2,.bool r.wed,.bool r.rdy,.int .i64 r.by_,.slice a3 r.trm.length e3] ∧ Bx ((((V3.setCell ⟨w.heap.size,1,none⟩ (.slice a r.txt.length cc)).setCell ⟨w.heap.size,2,none⟩ (.slice a1 r.got.length e1)).setCell ⟨w.heap.size,3,none⟩ (.slice a2 r.sus.length e2)).setCell ⟨w.heap.size,7,none⟩ (.slice a3 r.trm.length e3)) (w.heap.size + 1) 51 #[.int .i64 0,.slice none 0 0,.slice none 0 0,.slice none 0 0,.bool false,.bool false,.int .i64 0,.slice none 0 0] ∧ ∃ f,owL ((((V3.setCell ⟨w.heap.size,1,none⟩ (.slice a r.txt.length cc)).setCell ⟨w.heap.size,2,none⟩ (.slice a1 r.got.length e1)).setCell ⟨w.heap.size,3,none⟩ (.slice a2 r.sus.length e2)).setCell ⟨w.heap.size,7,none⟩ (.slice a3 r.trm.length e3)) (rwCels r) (rwVals ⟨a,cc,a1,e1,a2,e2,a3,e3⟩ r) f ∧ (∀ b,f b → w.heap.size + 1 + 1 ≤ b) ∧ Below w.heap.size w ((((V3.setCell ⟨w.heap.size,1,none⟩ (.slice a r.txt.length cc)).setCell ⟨w.heap.size,2,none⟩ (.slice a1 r.got.length e1)).setCell ⟨w.heap.size,3,none⟩ (.slice a2 r.sus.length e2)).setCell ⟨w.heap.size,7,none⟩ (.slice a3 r.trm.length e3))) := by
    have hd : wr.drew.heap.size = wr.heap.size := rfl
    have q0 : Cel.ow V3 (scl r.txt) (.slice a r.txt.length cc) fz := Cel.ow_below HO.out hbV3
    have q1 : Cel.ow V3 (icl r.got) (.slice a1 r.got.length e1) f1 := Cel.ow_below (Cel.ow_below o1 b2) b3
    have q2 : Cel.ow V3 (icl r.sus) (.slice a2 r.sus.length e2) f2 := Cel.ow_below o2 b3
    have l0 := Cel.ow_lt HO.out
    have l1 := Cel.ow_lt o1
    have l2 := Cel.ow_lt o2
    have hall : ∀ b,(fz b ∨ f1 b ∨ f2 b ∨ f3 b) → w.heap.size + 1 + 1 ≤ b := by
     rintro b (k | k | k | k)
     ·exact hfz b k
     ·have := p1 b k;omega
     ·have := p2 b k;omega
     ·have := p3 b k;omega
    have hL := owL4 q0 q1 q2 o3 (fun b k k' => by
     have := l0 b k
     rcases k' with k' | k' | k'
     ·have := p1 b k';omega
     ·have := p2 b k';omega
     ·have := p3 b k';omega) (fun b k k' => by
     have := l1 b k
     rcases k' with k' | k'
     ·have := p2 b k';omega
     ·have := p3 b k';omega) (fun b k k' => by
     have := l2 b k
     have := p3 b k'
     omega)
    have hB3 : Below w.heap.size w V3 := HB.out.trans (hbV3.mono HB.out.size)
    exact ⟨hX7,hR3.wrt hW7 (fun e => by omega),_,owL_wrt hL hW7 (fun b hb e => by have := hall b hb;omega),hall,hW7.below hB3 hB3.size (fun b e => by omega)⟩
   have x1 := hX3.at 1 (v := .slice A.ta r.txt.length A.tc) rfl
   have y1 := hX3.f 1
   have x2 := hX4.at 2 (v := .slice A.ga r.got.length A.gc) rfl
   have y2 := hX4.f 2
   have x3 := hX5.at 3 (v := .slice A.sa r.sus.length A.sc) rfl
   have y3 := hX5.f 3
   have x7 := hX6.at 7 (v := .slice A.ma r.trm.length A.mc) rfl
   have y7 := hX6.f 7
   have n5 := HNe.out _ (hX5.at 2 (v := .slice a1 r.got.length e1) rfl)
   have n6 := HNe.out _ (hX6.at 2 (v := .slice a1 r.got.length e1) rfl)
   have k4 : (V3.setCell ⟨w.heap.size,1,none⟩ (.slice a r.txt.length cc)).cell? ⟨w.heap.size,2,none⟩ = some (.slice A.ga r.got.length A.gc) ∧ (V3.setCell ⟨w.heap.size,1,none⟩ (.slice a r.txt.length cc)).cell? ⟨w.heap.size,3,none⟩ = some (.slice A.sa r.sus.length A.sc) ∧ (V3.setCell ⟨w.heap.size,1,none⟩ (.slice a r.txt.length cc)).cell? ⟨w.heap.size,7,none⟩ = some (.slice A.ma r.trm.length A.mc) := ⟨x2,hX4.at 3 (v := .slice A.sa r.sus.length A.sc) rfl,hX4.at 7 (v := .slice A.ma r.trm.length A.mc) rfl⟩
   clear o1 o2 o3 p1 p2 p3 b1 b2 b3 hX3 hX4 hX5 hX6 hX7 hW7 hR3 HNe HY1 HY2 HC2 HC3 hbV1 hbV2 hbV3 hbd KS HGa
   refine gt_one (i := 11) rfl (by kernel_rfl) (by kernel_rfl) (fun K hK => ?_)
   go_simp
   refine hK.out _ _ k4 (fun hHeldN => ?_)
   clear hK hHeld
   have hHeld := hHeldN
   try simp only [Act.put,List.setIfInBounds_toArray,List.set_cons_zero,List.set_cons_succ]
   refine gt_pure (i := 12) (v := ?_) rfl (by kernel_rfl) (by kernel_rfl) (by kernel_rfl) (fun _ _ _ h => h) (Or.inl ⟨by rfl, ?_⟩) ?_
   rotate_left
   ·(intro X;go_simp;try with_reducible rfl)
   try simp only [Act.put,List.setIfInBounds_toArray,List.set_cons_zero,List.set_cons_succ]
   refine gt_oneZ rfl (by kernel_rfl) (fun K hK => ?_)
   go_simp
   refine hK.out _ _ ?_
   try simp only [Act.put,List.setIfInBounds_toArray,List.set_cons_zero,List.set_cons_succ]
   refine gt_pure (i := 14) (v := ?_) rfl (by kernel_rfl) (by kernel_rfl) (by kernel_rfl) (fun _ _ _ h => h) (Or.inl ⟨by rfl, ?_⟩) ?_
   rotate_left
   ·(intro X;go_simp;try with_reducible rfl)
   try simp only [Act.put,List.setIfInBounds_toArray,List.set_cons_zero,List.set_cons_succ]
   refine gt_oneN (i := 15) n5 rfl (by kernel_rfl) (fun K hK => ?_)
   go_simp
   refine hK.out _ _ ?_
   try simp only [Act.put,List.setIfInBounds_toArray,List.set_cons_zero,List.set_cons_succ]
   refine gt_pure (i := 16) (v := ?_) rfl (by kernel_rfl) (by kernel_rfl) (by kernel_rfl) (fun _ _ _ h => h) (Or.inl ⟨by rfl, ?_⟩) ?_
   rotate_left
   ·(intro X;go_simp;try with_reducible rfl)
   try simp only [Act.put,List.setIfInBounds_toArray,List.set_cons_zero,List.set_cons_succ]
   refine gt_oneN (i := 17) n6 rfl (by kernel_rfl) (fun K hK => ?_)
   go_simp
   refine hK.out _ _ ?_
   try simp only [Act.put,List.setIfInBounds_toArray,List.set_cons_zero,List.set_cons_succ]
   refine gt_end (by kernel_rfl) ?_
   clear hHeld x1 x2 x3 x7 y1 y2 y3 y7 n5 n6 k4
   obtain ⟨hX7,hR7,f,hL7,hf7,hB7⟩ := HFin.out
   generalize (((V3.setCell ⟨w.heap.size,1,none⟩ (.slice a r.txt.length cc)).setCell ⟨w.heap.size,2,none⟩ (.slice a1 r.got.length e1)).setCell ⟨w.heap.size,3,none⟩ (.slice a2 r.sus.length e2)).setCell ⟨w.heap.size,7,none⟩ (.slice a3 r.trm.length e3) = W7 at *
   have HN : Hid (∀ {z0 z1 z2 z3 z4 z5 z6 z7 : Value},NewL w ((((((((W7.setCell ⟨w.heap.size + 1,0,none⟩ z0).setCell ⟨w.heap.size + 1,1,none⟩ z1).setCell ⟨w.heap.size + 1,2,none⟩ z2).setCell ⟨w.heap.size + 1,3,none⟩ z3).setCell ⟨w.heap.size + 1,4,none⟩ z4).setCell ⟨w.heap.size + 1,5,none⟩ z5).setCell ⟨w.heap.size + 1,6,none⟩ z6).setCell ⟨w.heap.size + 1,7,none⟩ z7) (rwCels r) (rwVals ⟨a,cc,a1,e1,a2,e2,a3,e3⟩ r)) := fun {z0 z1 z2 z3 z4 z5 z6 z7} => ⟨f,owL_wrt hL7 (wrt8 W7 (w.heap.size + 1)) (fun b hb e => by have := hf7 b hb;omega),fun b hb => by have := hf7 b hb;omega,(wrt8 W7 (w.heap.size + 1)).below hB7 hB7.size (fun b e => by omega)⟩
   obtain ⟨⟨x0,x1,x2,x3⟩,x4,x5,x6,x7⟩ := Bx.r8 hX7
   obtain ⟨⟨z0,z1,z2,z3⟩,z4,z5,z6,z7⟩ := Bx.r8 hR7
   obtain ⟨⟨f0,f1',f2',f3'⟩,f4,f5,f6,f7⟩ := hR7.f8
   clear HFin hX7 hR7 hL7 hf7 hB7
   go_wp2
   refine bodyPost_ret (v := rwV ⟨a,cc,a1,e1,a2,e2,a3,e3⟩ r) (by simp [results,Try.results130,go_sem,rwV,rwC, *]) rfl ?_
   exact ⟨_,rfl,HN.out⟩
end Go.Proofs.Ythioodpmgifomaa
namespace Go.Proofs.Ythioodpmgifomaa
set_option linter.unusedVariables false
set_option linter.unusedSimpArgs false
open Go.RowKit Go.Sort
set_option maxHeartbeats 400000 in
theorem isRl_any (n : Int) (w : World) : Calls Try.prog 97 #[.int .i64 n] w fun e w' => e = .returned (.bool (inB n 1 5)) ∧ w' = w := by
 by_cases h0 : (1 : Int) ≤ n
 ·have H : Hid (inB n 1 5 = decide (n ≤ 5)) := by rw [Hid,inB];simp [h0]
  go_enter Try.func97,Try.ntmps97
  go_wp2
  go_ret
  exact ⟨ret_bool (by rw [H.out]),rfl⟩
 ·have H : Hid (inB n 1 5 = false) := by rw [Hid,inB];simp [h0]
  go_enter Try.func97,Try.ntmps97
  go_wp2
  go_ret
  exact ⟨ret_bool (by rw [H.out]),rfl⟩
def txB (T : List (List UInt8)) : Bool := decide (T.length ≤ 12) && T.all (fun t => decide (t.length ≤ 20))
theorem txB_long {T : List (List UInt8)} {k : Nat} (hk : k < T.length) (h : ¬ (T.getD k []).length ≤ 20) : txB T = false := by
 have : T.all (fun t => decide (t.length ≤ 20)) = false := by
  rw [List.all_eq_false]
  refine ⟨T[k],List.getElem_mem hk, ?_⟩
  rw [List.getD_eq_getElem?_getD,List.getElem?_eq_getElem hk] at h
  simpa using h
 rw [txB,this]
 simp
theorem txB_all {T : List (List UInt8)} (h0 : T.length ≤ 12) (h : ∀ k,k < T.length → (T.getD k []).length ≤ 20) : txB T = true := by
 have : T.all (fun t => decide (t.length ≤ 20)) = true := by
  rw [List.all_eq_true]
  intro t ht
  obtain ⟨j,hj,rfl⟩ := List.mem_iff_getElem.1 ht
  have := h j hj
  rw [List.getD_eq_getElem?_getD,List.getElem?_eq_getElem hj] at this
  simpa using this
 rw [txB,decide_eq_true h0,this]
 rfl
attribute [local irreducible] sv
set_option maxHeartbeats 800000 in
theorem areTx_any (a : Option Addr) (cap : Nat) (T : List (List UInt8)) (w : World) (hv : TxS w a T) (hm : T.length ≤ maxLen) :
  Calls Try.prog 149 #[.slice a T.length cap] w fun e w' => e = .returned (.bool (txB T)) ∧ w' = w := by
 unfold maxLen at hm
 by_cases h12 : T.length ≤ 12
 ·have g12 : ¬ ((12 : Int) < (T.length : Int)) := by omega
  have H12 : Hid (T.length ≤ 12) := h12
  have HV : Hid (TxS w a T) := hv
  clear hv h12
  go_enter Try.func149,Try.ntmps149
  go_wp2
  go_loop [10] (fun i => ∃ k : Nat,k ≤ T.length ∧ i = .int .i64 k ∧ ∀ j,j < k → (T.getD j []).length ≤ 20) (fun i => T.length - (intOf i).toNat)
  case atStart => exact ⟨0,Nat.zero_le _,rfl,fun j hj => by omega⟩
  case round =>
   obtain ⟨k,hk,rfl,hall⟩ := hrel
   have HA : Hid (∀ j,j < k → (T.getD j []).length ≤ 20) := hall
   clear hall
   by_cases hlt : k < T.length
   ·rcases HV.out with h0 | ⟨b,off,rfl,hc⟩
    ·omega
    have hck := hc k hlt
    have k1 : (k : Int) < (T.length : Int) := by omega
    have k0 : (0 : Int) ≤ (k : Int) := by omega
    clear hc
    by_cases h20 : (T.getD k []).length ≤ 20
    ·have g20 : ¬ ((20 : Int) < ((T.getD k []).length : Int)) := by omega
     have HN : Hid (∀ j,j < k + 1 → (T.getD j []).length ≤ 20) := fun j hj => by
      rcases Nat.lt_succ_iff_lt_or_eq.1 hj with h1 | h1
      ·exact HA.out j h1
      ·rw [h1];exact h20
     generalize T.getD k [] = t at *
     have hz : (sv t).size = t.length := sv_size t
     clear h20
     go_wp2
     go_round
     case rel => exact ⟨k + 1,by omega,by go_num,HN.out⟩
     case measure => simp [intOf];omega
    ·have g20 : (20 : Int) < ((T.getD k []).length : Int) := by omega
     have HZ : Hid (txB T = false) := txB_long (k := k) hlt h20
     generalize T.getD k [] = t at *
     have hz : (sv t).size = t.length := sv_size t
     clear h20
     go_wp2
     go_ret
     exact ⟨ret_bool (by rw [HZ.out]),rfl⟩
   ·have k1 : ¬ ((k : Int) < (T.length : Int)) := by omega
    have HZ : Hid (txB T = true) := txB_all H12.out (fun j hj => HA.out j (by omega))
    go_wp2
    go_ret
    exact ⟨ret_bool (by rw [HZ.out]),rfl⟩
 ·have g12 : (12 : Int) < (T.length : Int) := by omega
  have HZ : Hid (txB T = false) := by rw [Hid,txB,decide_eq_false h12];rfl
  clear hv h12
  go_enter Try.func149,Try.ntmps149
  go_wp2
  go_ret
  exact ⟨ret_bool (by rw [HZ.out]),rfl⟩
theorem hi16 {x m : Int} : ∀ {xs : List Int},hiL x xs ≤ m ↔ x ≤ m ∧ ∀ y ∈ xs,y ≤ m := by
 intro xs
 induction xs generalizing x with
 | nil => simp [hiL]
 | cons y ys ih =>
  show hiL (max x y) ys ≤ m ↔ _
  rw [ih]
  simp only [List.mem_cons]
  constructor
  ·rintro ⟨h1,h2⟩
   exact ⟨by omega,fun z hz => by rcases hz with rfl | hz;omega;exact h2 z hz⟩
  ·rintro ⟨h1,h2⟩
   exact ⟨by have := h2 y (.inl rfl);omega,fun z hz => h2 z (.inr hz)⟩
theorem sm_gr {v : List Int} {n : Int} (h1 : (v.length : Int) = n) (h2 : okB v = true) : smB v n = decide (hiL (el v 0) v.tail ≤ 12) := by
 have hl := (okB_len h2).1
 rw [smB,h2,decide_eq_true h1,Bool.true_and,Bool.true_and,Bool.eq_iff_iff,decide_eq_true_eq,hi16,List.all_eq_true]
 cases v with
 | nil => simp at hl
 | cons x xs =>
  simp only [decide_eq_true_eq,List.mem_cons,List.tail_cons]
  constructor
  ·intro h
   exact ⟨h _ (.inl rfl),fun y hy => h y (.inr hy)⟩
  ·rintro ⟨h,h'⟩ y hy
   rcases hy with rfl | hy
   ·exact h
   ·exact h' y hy
set_option maxRecDepth 100000 in
set_option maxHeartbeats 800000 in
theorem areCt_any (a : Option Addr) (cap : Nat) (v : List Int) (n : Int) (w : World) (hv : Vec w a v.length v) (hcap : v.length ≤ cap) (hm : cap ≤ maxLen) :
  Calls Try.prog 150 #[.slice a v.length cap,.int .i64 n] w fun e w' => e = .returned (.bool (smB v n)) ∧ ∃ m,w' = w.drewN m := by
 have hV := vok_any a v.length cap v w hv hcap hm
 have hml : v.length ≤ maxLen := Nat.le_trans hcap hm
 unfold maxLen at hml
 by_cases hl : (v.length : Int) = n
 ·have e1 : ((v.length : Int) == n) = true := by simpa using hl
  cases hb : okB v with
  | false =>
   rw [hb] at hV
   have HZ : Hid (smB v n = false) := by rw [Hid,smB,hb];rfl
   clear hb hl hv
   go_enter Try.func150,Try.ntmps150
   go_wp2_with (go_at_call 64;refine hV.mono ?_;rintro e w' ⟨rfl,n1,rfl⟩)
   go_ret
   exact ⟨ret_bool (by rw [HZ.out]),_,rfl⟩
  | true =>
   rw [hb] at hV
   have HZ : Hid (smB v n = decide (hiL (el v 0) v.tail ≤ 12)) := sm_gr hl hb
   have h18 := okB_len hb
   clear hb hl
   obtain ⟨_,hf,hcs⟩ := hv
   have hG : Hid (∀ n,Calls Try.prog 114 #[.slice a v.length cap] (w.drewN n) fun e w' => e = .returned (.int .i64 (hiL (el v 0) v.tail)) ∧ ∃ m,w' = (w.drewN n).drewN m) := by
    intro n
    rcases hcs with h0 | ⟨b,off,rfl,hc⟩
    ·omega
    ·exact vgreatest_any b off v.length cap v _ rfl hf (fun k hk => by rw [World.cell?_drewN];exact hc k hk) (by omega) hcap hm
   clear hcs hf h18
   generalize hiL (el v 0) v.tail = G at *
   go_enter Try.func150,Try.ntmps150
   go_wp2_with (first | (go_at_call 64;refine hV.mono ?_;rintro e w' ⟨rfl,n1,rfl⟩) | (go_at_call 114;refine (hG.out _).mono ?_;rintro e w' ⟨rfl,n2,rfl⟩))
   go_ret
   exact ⟨ret_bool (by rw [HZ.out]),_,rfl⟩
 ·have e1 : ((v.length : Int) == n) = false := by simpa using hl
  have HZ : Hid (smB v n = false) := by rw [Hid,smB,decide_eq_false hl];simp
  clear hl hv hV
  go_enter Try.func150,Try.ntmps150
  go_wp2
  go_ret
  exact ⟨ret_bool (by rw [HZ.out]),0,rfl⟩
theorem sus_row (n : Int) (l : List Int) : decide (okRow n l) = susB l n := by
 rw [Bool.eq_iff_iff,decide_eq_true_eq,susB,Bool.and_eq_true,List.all_eq_true,okRow,risB,decide_eq_true_eq]
 constructor
 ·rintro ⟨h1,h2⟩
  refine ⟨fun x hx => ?_,h2⟩
  obtain ⟨j,hj,rfl⟩ := List.mem_iff_getElem.1 hx
  have := h1 j hj
  rw [el_eq hj] at this
  exact inB7.2 this
 ·rintro ⟨h1,h2⟩
  exact ⟨fun i hi => inB7.1 (h1 _ (el_mem hi)),h2⟩
end Go.Proofs.Ythioodpmgifomaa