/-
  Texts in one: Mbt Mbu Mbv Mbw Grp Grq Mbx Mbm Mbk Mcg Tlr Tlt Mbo Rcy.
-/
import Derived.Test.YthioodpmgifomaaGreatJac
import Derived.Test.YthioodpmgifomaaGreatJab
import Derived.Test.YthioodpmgifomaaGreatJaa
import Derived.BigQuiet
import Derived.StillTail
import Derived.OrdersHeld
import Derived.Deep.RegionHeld
import Derived.Deep.Cut
import Derived.Deep.CutRange
namespace Go.Proofs.YthioodpmgifomaaGreat
set_option linter.unusedVariables false
set_option linter.unusedSimpArgs false
open Go.RowKit Go.Sort
theorem ris_iff {xs : List Int} : risB xs = true ↔ xs.Pairwise (· < ·) := by rw [risB,decide_eq_true_iff,rises_pairwise]
end Go.Proofs.YthioodpmgifomaaGreat
namespace Go.Proofs.YthioodpmgifomaaGreat
set_option linter.unusedVariables false
set_option linter.unusedSimpArgs false
open Go.RowKit Go.Sort
end Go.Proofs.YthioodpmgifomaaGreat
namespace Go.Proofs.YthioodpmgifomaaGreat
set_option linter.unusedVariables false
set_option linter.unusedSimpArgs false
open Go.RowKit Go.Sort
end Go.Proofs.YthioodpmgifomaaGreat
namespace Go.Proofs.YthioodpmgifomaaGreat
set_option linter.unusedVariables false
set_option linter.unusedSimpArgs false
open Go.RowKit Go.Sort
structure OkM (m : Mb) (i n : Nat) : Prop where
 hid : m.id = (i : Int)
 hn : m.n = (n : Int)
 n5 : 1 ≤ n ∧ n ≤ 5
 lt : i < n
 len : m.rows.length = n
 sl : m.sung.length ≤ 60
 ris : m.sung.Pairwise (· < ·)
 ok : ∀ j,j < n → OkR (rowN m.rows j) n
 sg : ∀ q,q < m.sung.length → (0 ≤ el m.sung q ∧ el m.sung q ≤ 59) ∧ (m.done = false → el m.sung q = (q : Int))
 gown : el (rowN m.rows i).got i = ((rowN m.rows i).txt.length : Int)
 self : (i : Int) ∉ (rowN m.rows i).sus
 dn : m.done = true → (rowN m.rows i).rdy = true
theorem rowN_mem {R : List Rw} {j : Nat} (h : j < R.length) : rowN R j ∈ R := by
 unfold rowN
 rw [List.getD_eq_getElem?_getD,List.getElem?_eq_getElem h]
 exact List.getElem_mem h
theorem mem_rowN {R : List Rw} {r : Rw} (h : r ∈ R) : ∃ j,j < R.length ∧ r = rowN R j := by
 obtain ⟨j,hj,rfl⟩ := List.mem_iff_getElem.1 h
 exact ⟨j,hj,by simp [rowN,hj]⟩
theorem okMb_iff {m : Mb} : okMb m = true ↔ ∃ i n,OkM m i n := by
 constructor
 ·intro h
  simp only [okMb,okSg,Bool.and_eq_true,decide_eq_true_eq,List.all_eq_true,List.mem_range,Bool.or_eq_true] at h
  obtain ⟨h1,h2,h3,h4,h5,h6,h7,h8,h9,h10⟩ := h
  have h1 := inB7.1 h1
  have h2 := inB7.1 h2
  have hid : m.id = ((m.id.toNat : Nat) : Int) := by omega
  have hn : m.n = ((m.n.toNat : Nat) : Int) := by omega
  refine ⟨m.id.toNat,m.n.toNat,hid,hn,by omega,by omega,by omega,h4,ris_iff.1 h5,fun j hj => okRw_iff.1 (by rw [← hn];exact h6 _ (rowN_mem (by omega))),fun q hq => ?_,h8,by rw [← hid];exact h9,fun hd => ?_⟩
  ·obtain ⟨q1,q2⟩ := h7 q hq
   have := inB7.1 q1
   refine ⟨this,fun hd => ?_⟩
   rcases q2 with q2 | q2
   ·rw [hd] at q2;cases q2
   ·exact q2
  ·rw [hd] at h10
   have h11 : m.own.rdy = true := by simpa using h10
   exact h11
 ·rintro ⟨i,n,M⟩
  have hlt := M.lt
  have hn5 := M.n5
  have hi : m.i = i := by rw [Mb.i,M.hid];rfl
  simp only [okMb,okSg,Bool.and_eq_true,decide_eq_true_eq,List.all_eq_true,List.mem_range,Bool.or_eq_true]
  refine ⟨inB7.2 (by rw [M.hn];omega),inB7.2 (by rw [M.hid,M.hn];omega),by rw [M.len,M.hn],M.sl,ris_iff.2 M.ris,fun r hr => ?_,fun q hq => ?_, ?_, ?_, ?_⟩
  ·obtain ⟨j,hj,rfl⟩ := mem_rowN hr
   rw [M.hn]
   exact okRw_iff.2 (M.ok j (by rw [← M.len];exact hj))
  ·obtain ⟨q1,q2⟩ := M.sg q hq
   refine ⟨inB7.2 q1, ?_⟩
   cases hd : m.done with
   | true => exact .inl rfl
   | false => exact .inr (q2 hd)
  ·rw [Mb.own,hi];exact M.gown
  ·rw [Mb.own,hi,M.hid];exact M.self
  ·cases hd : m.done with
   | false => exact .inl rfl
   | true => exact .inr (by rw [Mb.own,hi];exact M.dn hd)
theorem OkM.i {m : Mb} {i n : Nat} (M : OkM m i n) : m.i = i := by rw [Mb.i,M.hid];rfl
theorem OkM.own {m : Mb} {i n : Nat} (M : OkM m i n) : m.own = rowN m.rows i := by rw [Mb.own,M.i]
end Go.Proofs.YthioodpmgifomaaGreat
namespace Go.Proofs.YthioodpmgifomaaGreat
set_option linter.unusedVariables false
set_option linter.unusedSimpArgs false
open Go.RowKit Go.Sort
end Go.Proofs.YthioodpmgifomaaGreat
namespace Go.Proofs.YthioodpmgifomaaGreat
set_option linter.unusedVariables false
set_option linter.unusedSimpArgs false
open Go.RowKit Go.Sort
end Go.Proofs.YthioodpmgifomaaGreat
namespace Go.Proofs.YthioodpmgifomaaGreat
set_option linter.unusedVariables false
set_option linter.unusedSimpArgs false
open Go.RowKit Go.Sort
theorem ris_ge : ∀ {l : List Int} {a : Int},l.Pairwise (· < ·) → (∀ x ∈ l,a ≤ x) → ∀ q,q < l.length → a + (q : Int) ≤ el l q
 | x :: l,a,h,hx,0,_ => by
  have := hx x List.mem_cons_self
  simpa [el] using this
 | x :: l,a,h,hx,q + 1,hq => by
  have h1 := List.pairwise_cons.1 h
  have hxa := hx x List.mem_cons_self
  have ih := ris_ge (l := l) (a := a + 1) h1.2 (fun y hy => by have := h1.1 y hy;omega) q (by simp at hq;omega)
  have e : el (x :: l) (q + 1) = el l q := by simp [el]
  rw [e]
  push_cast
  omega
theorem ris_short {l : List Int} {k : Nat} (h : l.Pairwise (· < ·)) (hx : ∀ x ∈ l,0 ≤ x ∧ x < (k : Int)) : l.length ≤ k := by
 refine Classical.byContradiction fun hn => ?_
 have h1 := ris_ge h (fun x hx2 => (hx x hx2).1) (l.length - 1) (by omega)
 have h2 := (hx _ (el_mem (i := l.length - 1) (xs := l) (by omega))).2
 omega
theorem OkM.to {m : Mb} {i n : Nat} (M : OkM m i n) {o' : Rw} (ok : OkR o' n) (self : (i : Int) ∉ o'.sus) (gown : el o'.got i = (o'.txt.length : Int)) {sung' : List Int} {done' : Bool}
  (sl : sung'.length ≤ 60) (ris : sung'.Pairwise (· < ·)) (sg : ∀ q,q < sung'.length → (0 ≤ el sung' q ∧ el sung' q ≤ 59) ∧ (done' = false → el sung' q = (q : Int))) (dn : done' = true → o'.rdy = true) :
  OkM { m with rows := m.rows.set i o',sung := sung',done := done' } i n := by
 have hi : i < m.rows.length := by rw [M.len];exact M.lt
 have e1 : rowN (m.rows.set i o') i = o' := by rw [rowN_set hi,if_pos rfl]
 refine ⟨M.hid,M.hn,M.n5,M.lt,by simp only [List.length_set];exact M.len,sl,ris,fun j hj => ?_,sg,by simp only [e1];exact gown,by simp only [e1];exact self,by simp only [e1];exact dn⟩
 simp only [rowN_set hi]
 split
 ·exact ok
 ·exact M.ok j hj
theorem doubt_loc {m : Mb} {i n : Nat} (M : OkM m i n) (who : Int) : OkM (doubtMb m who).1 i n ∧ ((doubtMb m who).2 = false → (doubtMb m who).1 = m) ∧ ((doubtMb m who).2 = true → who ∈ (rowN (doubtMb m who).1.rows i).sus ∧ (rowN (doubtMb m who).1.rows i).wed = true) ∧ Nx (rowN m.rows i) (rowN (doubtMb m who).1.rows i) ∧ (doubtMb m who).1.sung = m.sung ∧ (doubtMb m who).1.done = m.done ∧ (∀ j,j ≠ i → rowN (doubtMb m who).1.rows j = rowN m.rows j) := by
 unfold doubtMb
 split
 ·exact ⟨M,fun _ => rfl,fun h => (by cases h),Nx.refl _,rfl,rfl,fun _ _ => rfl⟩
 ·rename_i hn
  simp only [not_or] at hn
  obtain ⟨h1,h2,h3,h4,h5⟩ := hn
  rw [M.own] at h3 h5 ⊢
  rw [M.hid] at h2
  rw [M.hn] at h1
  have h1 := inB7.1 (by simpa using h1)
  have hd : m.done = false := by simpa using h4
  have ok := M.ok i M.lt
  have hov := ok.ver
  have hi : i < m.rows.length := by rw [M.len];exact M.lt
  have hx : Nx (rowN m.rows i) { rowN m.rows i with sus := putL (rowN m.rows i).sus who,wed := true,ver := (rowN m.rows i).ver + 1 } :=
   ⟨by simp only;omega,List.prefix_refl _,fun j => Int.le_refl _,fun x hx => mem_putL.2 (.inr hx),fun _ => ⟨rfl,rfl,rfl⟩,fun hr => ⟨hr,Int.le_refl _,fun _ => rfl⟩⟩
  simp only [Mb.put,M.i]
  refine ⟨?_,fun h => (by cases h),fun _ => by rw [rowN_set hi,if_pos rfl];exact ⟨mem_putL.2 (.inl rfl),rfl⟩,by rw [rowN_set hi,if_pos rfl];exact hx,trivial,trivial,fun j hj => by rw [rowN_set hi,if_neg hj]⟩
  refine M.to (o' := { rowN m.rows i with sus := putL (rowN m.rows i).sus who,wed := true,ver := (rowN m.rows i).ver + 1 }) (sung' := m.sung) (done' := m.done) ?_ (fun hm => ?_) M.gown M.sl M.ris M.sg (fun h => (by rw [hd] at h;cases h))
  ·refine ⟨ok.n5,by simp only;omega,ok.tl,ok.ts,ok.got,ok.gl,ok.g12,fun x hx => ?_,ris_iff.2 (putL_rises (ris_iff.1 ok.ris)),fun hr => ⟨rfl,(ok.rdy hr).2⟩,ok.not⟩
   rcases mem_putL.1 hx with e | hx
   ·rw [e];omega
   ·exact ok.sus x hx
  ·rcases mem_putL.1 hm with e | hx
   ·exact h2 e.symm
   ·exact M.self hx
end Go.Proofs.YthioodpmgifomaaGreat
namespace Go.Proofs.YthioodpmgifomaaGreat
set_option linter.unusedVariables false
set_option linter.unusedSimpArgs false
open Go.RowKit Go.Sort
def Pv (w : World) (B o : Nat) (cs : List Cel) : Prop := ∃ vs,(∀ j,j < vs.length → w.cell? ⟨B,o + j,none⟩ = vs[j]?) ∧ vwL w cs vs
theorem Plc.pv {w : World} {B o : Nat} {cs : List Cel} {fp : Fp} (h : Plc w B o cs fp) : Pv w B o cs := by
 obtain ⟨vs,h1,h2,_⟩ := h
 exact ⟨vs,h1.cell,owL_vw h2⟩
theorem Pv.at {w : World} {B o : Nat} {cs : List Cel} (h : Pv w B o cs) {j : Nat} {c : Cel} (hj : cs[j]? = some c) : ∃ u,w.cell? ⟨B,o + j,none⟩ = some u ∧ Cel.vw w c u := by
 obtain ⟨vs,h1,h2⟩ := h
 obtain ⟨u,hu,hv⟩ := vwL_at h2 hj
 refine ⟨u,(h1 j ?_).trans hu,hv⟩
 rcases Nat.lt_or_ge j vs.length with h | h
 ·exact h
 ·rw [List.getElem?_eq_none h] at hu;cases hu
theorem vwL_split {w : World} : ∀ {cs ds : List Cel} {ws : List Value},vwL w (cs ++ ds) ws → ∃ us vs,ws = us ++ vs ∧ vwL w cs us ∧ vwL w ds vs
 | [],ds,ws,h => ⟨[],ws,rfl,rfl,h⟩
 | c :: cs,ds,ws,h => by
  obtain ⟨u,us',rfl,h1,h2⟩ := h
  obtain ⟨us,vs,rfl,h3,h4⟩ := vwL_split h2
  exact ⟨u :: us,vs,rfl,⟨u,us,rfl,h1,h3⟩,h4⟩
theorem vw_elF {α : Type} {F : α → List Cel} {s : Nat} (hF : ∀ x,(F x).length = s) {w : World} {a : Option Addr} {c : Nat} {L : List α} (h : Cel.vw w (lcl s F L) (.slice a L.length c)) {k : Nat} {x : α} (hk : L[k]? = some x) : ∃ g off,a = some ⟨g,off,none⟩ ∧ Pv w g (off + k * s) (F x) := by
 obtain ⟨a0,c0,us,e0,h1,h2,h3,h4,h5⟩ := h
 cases e0
 have hkl : k < L.length := by
  rcases Nat.lt_or_ge k L.length with h | h
  ·exact h
  ·rw [List.getElem?_eq_none h] at hk;cases hk
 rcases h4 with h4 | ⟨b,off,rfl,hc⟩
 ·omega
 have hks : k * s + s ≤ L.length * s := by
  have : (k + 1) * s ≤ L.length * s := Nat.mul_le_mul_right s hkl
  rw [Nat.add_mul,Nat.one_mul] at this
  exact this
 have e1 : L.flatMap F = (L.flatMap F).take (k * s) ++ (((L.flatMap F).drop (k * s)).take s ++ (L.flatMap F).drop (k * s + s)) := by
  rw [← List.drop_drop,List.take_append_drop,List.take_append_drop]
 rw [e1] at h5
 obtain ⟨u1,u23,rfl,l1,l23⟩ := vwL_split h5
 obtain ⟨u2,u3,rfl,l2,l3⟩ := vwL_split l23
 rw [flat_take hF hk] at l2
 have hd := flat_len hF L
 have n1 : u1.length = k * s := by rw [vwL_len l1,List.length_take];omega
 have n2 : u2.length = s := by rw [vwL_len l2,hF]
 refine ⟨b,off,rfl,u2,fun j hj => ?_,l2⟩
 rw [Nat.add_assoc,hc (k * s + j) (by omega),List.getElem?_append_right (by omega),List.getElem?_append_left (by omega),n1]
 congr 1
 omega
def rw8 (r : Rw) : List Cel := [.v (.int .i64 r.ver),scl r.txt,icl r.got,icl r.sus,.v (.bool r.wed),.v (.bool r.rdy),.v (.int .i64 r.by_),icl r.trm]
theorem rw8_len (r : Rw) : (rw8 r).length = 8 := rfl
def C8 (w : World) (g o : Nat) (x0 x1 x2 x3 x4 x5 x6 x7 : Value) : Prop := (w.cell? ⟨g,o,none⟩ = some x0 ∧ w.cell? ⟨g,o + 1,none⟩ = some x1 ∧ w.cell? ⟨g,o + 2,none⟩ = some x2 ∧ w.cell? ⟨g,o + 3,none⟩ = some x3) ∧ w.cell? ⟨g,o + 4,none⟩ = some x4 ∧ w.cell? ⟨g,o + 5,none⟩ = some x5 ∧ w.cell? ⟨g,o + 6,none⟩ = some x6 ∧ w.cell? ⟨g,o + 7,none⟩ = some x7
theorem Pv.row {w : World} {g o : Nat} {r : Rw} (h : Pv w g o (rw8 r)) (hf : FitR r) : ∃ A : Ra,C8 w g o (.int .i64 r.ver) (.slice A.ta r.txt.length A.tc) (.slice A.ga r.got.length A.gc) (.slice A.sa r.sus.length A.sc) (.bool r.wed) (.bool r.rdy) (.int .i64 r.by_) (.slice A.ma r.trm.length A.mc) ∧ RwS w A r := by
 obtain ⟨u0,c0,rfl⟩ := h.at (j := 0) rfl
 obtain ⟨u1,c1,v1⟩ := h.at (j := 1) rfl
 obtain ⟨u2,c2,v2⟩ := h.at (j := 2) rfl
 obtain ⟨u3,c3,v3⟩ := h.at (j := 3) rfl
 obtain ⟨u4,c4,rfl⟩ := h.at (j := 4) rfl
 obtain ⟨u5,c5,rfl⟩ := h.at (j := 5) rfl
 obtain ⟨u6,c6,rfl⟩ := h.at (j := 6) rfl
 obtain ⟨u7,c7,v7⟩ := h.at (j := 7) rfl
 obtain ⟨ta,tc,rfl,t1,t2,t3⟩ := vw_scl v1
 obtain ⟨ga,gc,rfl,g1,g2,g3⟩ := vw_icl v2 hf.1
 obtain ⟨sa,sc,rfl,s1,s2,s3⟩ := vw_icl v3 hf.2.1
 obtain ⟨ma,mc,rfl,m1,m2,m3⟩ := vw_icl v7 hf.2.2
 exact ⟨⟨ta,tc,ga,gc,sa,sc,ma,mc⟩,⟨⟨c0,c1,c2,c3⟩,c4,c5,c6,c7⟩,t1,g1,s1,m1,by omega,by omega,by omega,by omega⟩
structure Ma where
 ra : Option Addr
 rc : Nat
 sa : Option Addr
 sc : Nat
def mbC (A : Ma) (m : Mb) : Array Value := #[.int .i64 m.id,.int .i64 m.n,.slice A.ra m.rows.length A.rc,.slice A.sa m.sung.length A.sc,.bool m.done]
def mbV (A : Ma) (m : Mb) : Value := .agg (mbC A m)
def mbCels (m : Mb) : List Cel := [lcl 8 rw8 m.rows,icl m.sung]
def mbVals (A : Ma) (m : Mb) : List Value := [.slice A.ra m.rows.length A.rc,.slice A.sa m.sung.length A.sc]
def mb5 (m : Mb) : List Cel := [.v (.int .i64 m.id),.v (.int .i64 m.n),lcl 8 rw8 m.rows,icl m.sung,.v (.bool m.done)]
def FitM (m : Mb) : Prop := (∀ r ∈ m.rows,FitR r) ∧ Fits m.sung
structure MbS (w : World) (A : Ma) (m : Mb) : Prop where
 rows : Cel.vw w (lcl 8 rw8 m.rows) (.slice A.ra m.rows.length A.rc)
 sung : Vec w A.sa m.sung.length m.sung
 mr : m.rows.length ≤ maxLen
 ms : m.sung.length ≤ maxLen
 fit : ∀ r ∈ m.rows,FitR r
theorem MbS.below {w w' : World} {A : Ma} {m : Mb} (h : MbS w A m) (hb : Below w.heap.size w w') : MbS w' A m := ⟨Cel.vw_below h.rows hb,h.sung.below hb (Nat.le_refl _),h.mr,h.ms,h.fit⟩
theorem mbs_of {w : World} {A : Ma} {m : Mb} (h : vwL w (mbCels m) (mbVals A m)) (hf : FitM m) : MbS w A m := by
 obtain ⟨u1,us1,e1,h1,h2⟩ := h
 cases e1
 obtain ⟨u2,us2,e2,h3,_⟩ := h2
 cases e2
 obtain ⟨a,c,e,h4,h5,h6⟩ := vw_icl h3 hf.2
 cases e
 have k := h1
 obtain ⟨_,_,_,e,k1,k2,_⟩ := k
 cases e
 exact ⟨h1,h4,by omega,by omega,hf.1⟩
theorem MbS.row {w : World} {A : Ma} {m : Mb} (h : MbS w A m) {k : Nat} (hk : k < m.rows.length) : ∃ g off Ak,A.ra = some ⟨g,off,none⟩ ∧ C8 w g (off + k * 8) (.int .i64 (rowN m.rows k).ver) (.slice Ak.ta (rowN m.rows k).txt.length Ak.tc) (.slice Ak.ga (rowN m.rows k).got.length Ak.gc) (.slice Ak.sa (rowN m.rows k).sus.length Ak.sc) (.bool (rowN m.rows k).wed) (.bool (rowN m.rows k).rdy) (.int .i64 (rowN m.rows k).by_) (.slice Ak.ma (rowN m.rows k).trm.length Ak.mc) ∧ RwS w Ak (rowN m.rows k) := by
 have e : m.rows[k]? = some (rowN m.rows k) := by simp [rowN,List.getD,hk]
 obtain ⟨g,off,h1,h2⟩ := vw_elF rw8_len h.rows e
 obtain ⟨Ak,h3,h4⟩ := h2.row (h.fit _ (List.mem_of_getElem? e))
 exact ⟨g,off,Ak,h1,h3,h4⟩
end Go.Proofs.YthioodpmgifomaaGreat
namespace Go.Proofs.YthioodpmgifomaaGreat
set_option linter.unusedVariables false
set_option linter.unusedSimpArgs false
open Go.RowKit Go.Sort
theorem Bx.r5 {w : World} {B : Nat} {T : TypeId} {x0 x1 x2 x3 x4 : Value} (h : Bx w B T #[x0,x1,x2,x3,x4]) : w.cell? ⟨B,0,none⟩ = some x0 ∧ w.cell? ⟨B,1,none⟩ = some x1 ∧ w.cell? ⟨B,2,none⟩ = some x2 ∧ w.cell? ⟨B,3,none⟩ = some x3 ∧ w.cell? ⟨B,4,none⟩ = some x4 :=
 ⟨h.at 0 rfl,h.at 1 rfl,h.at 2 rfl,h.at 3 rfl,h.at 4 rfl⟩
theorem rowN_at {R : List Rw} {k : Nat} (hk : k < R.length) : R[k]? = some (rowN R k) := by simp [rowN,List.getD,hk]
theorem okMb_row {m : Mb} {k : Nat} (hk : k < m.rows.length) (h : okRw (rowN m.rows k) m.n = false) : okMb m = false := by
 have : m.rows.all (fun r => okRw r m.n) = false := by
  rw [List.all_eq_false]
  exact ⟨rowN m.rows k,List.mem_of_getElem? (rowN_at hk),by simp [h]⟩
 simp only [okMb,this,Bool.false_and,Bool.and_false]
theorem okMb_sg {m : Mb} {k : Nat} (hk : k < m.sung.length) (h : (inB (el m.sung k) 0 59 && (m.done || decide (el m.sung k = (k : Int)))) = false) : okMb m = false := by
 have : okSg m = false := by
  rw [okSg,List.all_eq_false]
  exact ⟨k,List.mem_range.2 hk,by simp [h]⟩
 simp only [okMb,this,Bool.false_and,Bool.and_false]
theorem okMb_end {m : Mb} (h1 : inB m.n 1 5 = true) (h2 : inB m.id 0 (m.n - 1) = true) (h3 : (m.rows.length : Int) = m.n) (h4 : m.sung.length ≤ 60) (h5 : risB m.sung = true) (h6 : ∀ j,j < m.rows.length → okRw (rowN m.rows j) m.n = true) (h7 : ∀ j,j < m.sung.length → (inB (el m.sung j) 0 59 && (m.done || decide (el m.sung j = (j : Int)))) = true) :
  okMb m = (decide (el m.own.got m.i = (m.own.txt.length : Int)) && (decide (m.id ∉ m.own.sus) && (!m.done || m.own.rdy))) := by
 have e6 : m.rows.all (fun r => okRw r m.n) = true := by
  rw [List.all_eq_true]
  intro r hr
  obtain ⟨j,hj,rfl⟩ := List.mem_iff_getElem.1 hr
  have := h6 j hj
  simpa [rowN,List.getD,hj] using this
 have e7 : okSg m = true := by
  rw [okSg,List.all_eq_true]
  intro j hj
  exact h7 j (List.mem_range.1 hj)
 simp only [okMb,h1,h2,h3,h4,h5,e6,e7,decide_true,Bool.true_and]
theorem okRw_len {r : Rw} {n : Int} (h : okRw r n = true) : (r.got.length : Int) = n := by
 simp only [okRw,smB,Bool.and_eq_true,decide_eq_true_eq] at h
 exact h.2.2.2.1.2.1
set_option maxRecDepth 100000 in
set_option maxHeartbeats 3200000 in
theorem mbkS_any (A : Ma) (m : Mb) (w : World) (hv : MbS w A m) :
    Calls Tryz.prog 21 #[mbV A m] w fun e w' => e = .returned (.bool (okMb m)) ∧ Below w.heap.size w w' := by
  have hB0 := oneA16 w (.cells (mbC A m) 27)
  have hx := Bx.new w 27 (mbC A m)
  have h0 := hv.below hB0
  generalize hW : w.alloc (.cells (mbC A m) 27) = W at *
  obtain ⟨id, n, rows, sung, done⟩ := m
  obtain ⟨ra, rc, sa, sc⟩ := A
  have hw0 : w.alloc (.cells #[.int .i64 id, .int .i64 n, .slice ra rows.length rc, .slice sa sung.length sc, .bool done] 27) = W := hW
  obtain ⟨c0, c1, c2, c3, c4⟩ := Bx.r5 hx
  have HX : Hid (Bx W w.heap.size 27 #[.int .i64 id, .int .i64 n, .slice ra rows.length rc, .slice sa sung.length sc, .bool done]) := hx
  have HV : Hid (MbS W ⟨ra, rc, sa, sc⟩ ⟨id, n, rows, sung, done⟩) := h0
  have hsu := h0.sung
  have mr := h0.mr
  have ms := h0.ms
  simp only at hsu mr ms c0 c1 c2 c3 c4
  have HB0 : Hid (Below w.heap.size w W) := hB0
  have hR := l1Rises_any sa sung.length sc sung W hsu ms
  unfold mbV mbC
  clear hv hx hW hB0 h0
  simp only
  cases e1 : inB n 1 5 with
  | false =>
    have HZ : Hid (okMb ⟨id, n, rows, sung, done⟩ = false) := by rw [Hid]; simp only [okMb, e1, Bool.false_and]
    go_enter Tryz.func21, Tryz.ntmps21
    go_wp2_with (first | (go_at_call 73; refine (l1In_any _ _ _ _).mono ?_; rintro e w' ⟨rfl, hw'⟩; rw [hw']; clear hw'))
    go_ret
    exact ⟨ret_bool (by rw [HZ.out]), HB0.out⟩
  | true =>
  have hn5 := inB7.1 e1
  have wn : wrap64 (n - 1) = n - 1 := by unfold wrap64; omega
  have HE1 : Hid (inB n 1 5 = true) := e1
  cases e2 : inB id 0 (n - 1) with
  | false =>
    have HZ : Hid (okMb ⟨id, n, rows, sung, done⟩ = false) := by rw [Hid]; simp only [okMb, e2, Bool.false_and, Bool.and_false]
    go_enter Tryz.func21, Tryz.ntmps21
    go_wp2_with (first | (go_at_call 73; refine (l1In_any _ _ _ _).mono ?_; rintro e w' ⟨rfl, hw'⟩; rw [hw']; clear hw'))
    go_ret
    exact ⟨ret_bool (by rw [HZ.out]), HB0.out⟩
  | true =>
  have HE2 : Hid (inB id 0 (n - 1) = true) := e2
  have hid := inB7.1 e2
  by_cases h3 : (rows.length : Int) = n
  rotate_left
  · have g3 : ((rows.length : Int) != n) = true := by simpa using h3
    have HZ : Hid (okMb ⟨id, n, rows, sung, done⟩ = false) := by rw [Hid]; simp only [okMb, decide_eq_false h3, Bool.false_and, Bool.and_false]
    clear h3
    go_enter Tryz.func21, Tryz.ntmps21
    go_wp2_with (first | (go_at_call 73; refine (l1In_any _ _ _ _).mono ?_; rintro e w' ⟨rfl, hw'⟩; rw [hw']; clear hw'))
    go_ret
    exact ⟨ret_bool (by rw [HZ.out]), HB0.out⟩
  have g3 : ((rows.length : Int) != n) = false := by simpa using h3
  have HE3 : Hid ((rows.length : Int) = n) := h3
  clear h3
  by_cases h4 : sung.length ≤ 60
  rotate_left
  · have g4 : (60 : Int) < (sung.length : Int) := by omega
    have HZ : Hid (okMb ⟨id, n, rows, sung, done⟩ = false) := by rw [Hid]; simp only [okMb, decide_eq_false h4, Bool.false_and, Bool.and_false]
    go_enter Tryz.func21, Tryz.ntmps21
    go_wp2_with (first | (go_at_call 73; refine (l1In_any _ _ _ _).mono ?_; rintro e w' ⟨rfl, hw'⟩; rw [hw']; clear hw'))
    go_ret
    exact ⟨ret_bool (by rw [HZ.out]), HB0.out⟩
  have g4 : ¬ ((60 : Int) < (sung.length : Int)) := by omega
  cases e5 : risB sung with
  | false =>
    rw [e5] at hR
    have HZ : Hid (okMb ⟨id, n, rows, sung, done⟩ = false) := by rw [Hid]; simp only [okMb, e5, Bool.false_and, Bool.and_false]
    go_enter Tryz.func21, Tryz.ntmps21
    go_wp2_with (first | (go_at_call 73; refine (l1In_any _ _ _ _).mono ?_; rintro e w' ⟨rfl, hw'⟩; rw [hw']; clear hw') | (go_at_call 74; refine hR.mono ?_; rintro e w2 ⟨rfl, q, hw2⟩; have hb2 : Below W.heap.size W w2 := (by rw [hw2]; exact belowN (Below.refl _ _)); clear hw2))
    go_ret
    exact ⟨ret_bool (by rw [HZ.out]), HB0.out.trans (hb2.mono HB0.out.size)⟩
  | true =>
  rw [e5] at hR
  have HE5 : Hid (risB sung = true) := e5
  clear e5
  go_enter Tryz.func21, Tryz.ntmps21
  go_wp2_with (first | (go_at_call 73; refine (l1In_any _ _ _ _).mono ?_; rintro e w' ⟨rfl, hw'⟩; rw [hw']; clear hw') | (go_at_call 74; refine hR.mono ?_; rintro e w2 ⟨rfl, q, hw2⟩; have hb2 : Below W.heap.size W w2 := (by rw [hw2]; exact belowN (Below.refl _ _)); clear hw2))
  have HB2 : Hid (Below w.heap.size w w2) := HB0.out.trans (hb2.mono HB0.out.size)
  have HX2 : Hid (Bx w2 w.heap.size 27 #[.int .i64 id, .int .i64 n, .slice ra rows.length rc, .slice sa sung.length sc, .bool done]) := HX.out.below hb2
  have HV2 : Hid (MbS w2 ⟨ra, rc, sa, sc⟩ ⟨id, n, rows, sung, done⟩) := HV.out.below hb2
  unfold maxLen at mr ms
  clear hR hb2 c0 c1 c2 c3 c4 hw0 g3 e1 e2 HX HV HB0 hsu
  go_loopw [3] (fun i wr => ∃ k : Nat, k ≤ rows.length ∧ i = .int .i64 k ∧ (∀ j, j < k → okRw (rowN rows j) n = true) ∧ Below w2.heap.size w2 wr) (fun i _ => rows.length - (intOf i).toNat)
  case atStart => exact ⟨0, Nat.zero_le _, rfl, fun j hj => by omega, Below.refl _ _⟩
  case round =>
    obtain ⟨k, hk, rfl, hall, hgr⟩ := hrel
    have HA : Hid (∀ j, j < k → okRw (rowN rows j) n = true) := hall
    have HG : Hid (Below w2.heap.size w2 wr) := hgr
    obtain ⟨c0, c1, c2, c3, c4⟩ := Bx.r5 (HX2.out.below hgr)
    clear hall
    by_cases hlt : k < rows.length
    · have k1 : (k : Int) < (rows.length : Int) := by omega
      have k0 : (0 : Int) ≤ (k : Int) := by omega
      obtain ⟨g, off, Ak, hra, ⟨⟨d0, d1, d2, d3⟩, d4, d5, d6, d7⟩, hrs⟩ := (HV2.out.below hgr).row (k := k) hlt
      simp only at hra hrs d0 d1 d2 d3 d4 d5 d6 d7
      subst hra
      have C : ∀ q : Bk wr, Calls Tryz.prog 75 #[rwV Ak (rowN rows k), .int .i64 n] q.w fun e w' => e = .returned (.bool (okRw (rowN rows k) n)) ∧ Below q.w.heap.size q.w w' := fun q => rowS_any Ak _ n q.w (hrs.below q.h)
      have HY : Hid (okRw (rowN rows k) n = true → ∀ j, j < k + 1 → okRw (rowN rows j) n = true) := fun h1 j hj => by
        rcases Nat.lt_succ_iff_lt_or_eq.1 hj with h | h
        · exact HA.out j h
        · rw [h]; exact h1
      have HNo : Hid (okRw (rowN rows k) n = false → okMb ⟨id, n, rows, sung, done⟩ = false) := fun h => okMb_row (k := k) hlt h
      have p2 : ∀ q : Bk wr, q.w.cell? ⟨w.heap.size, 2, none⟩ = _ := fun q => (q.h.cell (World.block_lt_of_cell? _ _ c2)).trans c2
      have p1 : ∀ q : Bk wr, q.w.cell? ⟨w.heap.size, 1, none⟩ = _ := fun q => (q.h.cell (World.block_lt_of_cell? _ _ c1)).trans c1
      have r0 : ∀ q : Bk wr, q.w.cell? ⟨g, off + k * 8, none⟩ = _ := fun q => (q.h.cell (World.block_lt_of_cell? _ _ d0)).trans d0
      have r1 : ∀ q : Bk wr, q.w.cell? ⟨g, off + k * 8 + 1, none⟩ = _ := fun q => (q.h.cell (World.block_lt_of_cell? _ _ d1)).trans d1
      have r2 : ∀ q : Bk wr, q.w.cell? ⟨g, off + k * 8 + 2, none⟩ = _ := fun q => (q.h.cell (World.block_lt_of_cell? _ _ d2)).trans d2
      have r3 : ∀ q : Bk wr, q.w.cell? ⟨g, off + k * 8 + 3, none⟩ = _ := fun q => (q.h.cell (World.block_lt_of_cell? _ _ d3)).trans d3
      have r4 : ∀ q : Bk wr, q.w.cell? ⟨g, off + k * 8 + 4, none⟩ = _ := fun q => (q.h.cell (World.block_lt_of_cell? _ _ d4)).trans d4
      have r5 : ∀ q : Bk wr, q.w.cell? ⟨g, off + k * 8 + 5, none⟩ = _ := fun q => (q.h.cell (World.block_lt_of_cell? _ _ d5)).trans d5
      have r6 : ∀ q : Bk wr, q.w.cell? ⟨g, off + k * 8 + 6, none⟩ = _ := fun q => (q.h.cell (World.block_lt_of_cell? _ _ d6)).trans d6
      have r7 : ∀ q : Bk wr, q.w.cell? ⟨g, off + k * 8 + 7, none⟩ = _ := fun q => (q.h.cell (World.block_lt_of_cell? _ _ d7)).trans d7
      unfold rwV rwC at C
      generalize okRw (rowN rows k) n = ob at *
      generalize rowN rows k = r at *
      clear hrs d0 d1 d2 d3 d4 d5 d6 d7 hgr
      go_wp2_with fail
      refine wp_region_bk (by kernel_rfl) (by kernel_rfl) ?_
      repeat (go_big_quiet_step ((first | (go_at_call 75; exact bk_call _ (C _)) | rfl)))
      refine wpQuiet_nil ?_
      intro wE hw'
      obtain ⟨⟨w11, hb11⟩, hw''⟩ := hw'
      have hwe : wE = w11 := hw''
      clear hw''
      subst hwe
      have HGE : Hid (Below w2.heap.size w2 wE) := HG.out.trans (hb11.mono HG.out.size)
      clear p1 p2 r0 r1 r2 r3 r4 r5 r6 r7 C hb11 c0 c1 c2 c3 c4
      cases ob
      · have HZ : Hid (okMb ⟨id, n, rows, sung, done⟩ = false) := HNo.out rfl
        go_wp2
        go_ret
        exact ⟨ret_bool (by rw [HZ.out]), HB2.out.trans (HGE.out.mono HB2.out.size)⟩
      · have HN2 := HY.out rfl
        go_wp2
        go_roundw
        case rel => exact ⟨k + 1, by omega, by go_num, HN2, HGE.out⟩
        case measure => simp [intOf]; omega
    · have k1 : ¬ ((k : Int) < (rows.length : Int)) := by omega
      have HAll : Hid (∀ j, j < rows.length → okRw (rowN rows j) n = true) := fun j hj => HA.out j (by omega)
      have HV3 : Hid (MbS wr ⟨ra, rc, sa, sc⟩ ⟨id, n, rows, sung, done⟩) := HV2.out.below hgr
      have HB3 : Hid (Below w.heap.size w wr) := HB2.out.trans (hgr.mono HB2.out.size)
      have hsu := HV3.out.sung
      simp only at hsu
      clear HA hgr HG HX2 HV2 HB2
      go_wp2
      go_loop [4] (fun i => ∃ k : Nat, k ≤ sung.length ∧ i = .int .i64 k ∧ ∀ j, j < k → (inB (el sung j) 0 59 && (done || decide (el sung j = (j : Int)))) = true) (fun i => sung.length - (intOf i).toNat)
      case atStart => exact ⟨0, Nat.zero_le _, rfl, fun j hj => by omega⟩
      case round =>
        obtain ⟨k, hk, rfl, hall⟩ := hrel
        have HA : Hid (∀ j, j < k → (inB (el sung j) 0 59 && (done || decide (el sung j = (j : Int)))) = true) := hall
        clear hall
        by_cases hlt : k < sung.length
        · have HNo : Hid ((inB (el sung k) 0 59 && (done || decide (el sung k = (k : Int)))) = false → okMb ⟨id, n, rows, sung, done⟩ = false) := fun h => okMb_sg (m := ⟨id, n, rows, sung, done⟩) (k := k) hlt h
          have HY : Hid ((inB (el sung k) 0 59 && (done || decide (el sung k = (k : Int)))) = true → ∀ j, j < k + 1 → (inB (el sung j) 0 59 && (done || decide (el sung j = (j : Int)))) = true) := fun h1 j hj => by
            rcases Nat.lt_succ_iff_lt_or_eq.1 hj with h | h
            · exact HA.out j h
            · rw [h]; exact h1
          rcases hsu.2.2 with h0 | ⟨b, off, rfl, hc⟩
          · omega
          have hck := hc k hlt
          have k1 : (k : Int) < (sung.length : Int) := by omega
          have k0 : (0 : Int) ≤ (k : Int) := by omega
          clear hc
          generalize el sung k = x at *
          cases e1 : inB x 0 59 with
          | false =>
            have HZ : Hid (okMb ⟨id, n, rows, sung, done⟩ = false) := HNo.out (by rw [e1]; rfl)
            go_wp2_with (first | (go_at_call 73; refine (l1In_any _ _ _ _).mono ?_; rintro e w' ⟨rfl, hw'⟩; rw [hw']; clear hw'))
            go_ret
            exact ⟨ret_bool (by rw [HZ.out]), HB3.out⟩
          | true =>
          cases done with
          | true =>
            have HN := HY.out (by rw [e1]; rfl)
            have HNN : Hid (∀ j, j < k + 1 → (inB (el sung j) 0 59 && (true || decide (el sung j = (j : Int)))) = true) := HN
            clear HN HY HNo
            go_wp2_with (first | (go_at_call 73; refine (l1In_any _ _ _ _).mono ?_; rintro e w' ⟨rfl, hw'⟩; rw [hw']; clear hw'))
            go_round
            case rel => exact ⟨k + 1, by omega, by go_num, HNN.out⟩
            case measure => simp [intOf]; omega
          | false =>
          by_cases hxk : x = (k : Int)
          · have g : (x != (k : Int)) = false := by simpa using hxk
            have HN := HY.out (by rw [e1]; simp [hxk])
            have HNN : Hid (∀ j, j < k + 1 → (inB (el sung j) 0 59 && (false || decide (el sung j = (j : Int)))) = true) := HN
            clear HN HY HNo hxk
            go_wp2_with (first | (go_at_call 73; refine (l1In_any _ _ _ _).mono ?_; rintro e w' ⟨rfl, hw'⟩; rw [hw']; clear hw'))
            go_round
            case rel => exact ⟨k + 1, by omega, by go_num, HNN.out⟩
            case measure => simp [intOf]; omega
          · have g : (x != (k : Int)) = true := by simpa using hxk
            have HZ : Hid (okMb ⟨id, n, rows, sung, false⟩ = false) := HNo.out (by rw [e1]; simp [hxk])
            clear hxk HY HNo
            go_wp2_with (first | (go_at_call 73; refine (l1In_any _ _ _ _).mono ?_; rintro e w' ⟨rfl, hw'⟩; rw [hw']; clear hw'))
            go_ret
            exact ⟨ret_bool (by rw [HZ.out]), HB3.out⟩
        · have k1 : ¬ ((k : Int) < (sung.length : Int)) := by omega
          obtain ⟨I, rfl⟩ : ∃ I : Nat, id = (I : Int) := ⟨id.toNat, by omega⟩
          have HEnd : Hid (okMb ⟨(I : Int), n, rows, sung, done⟩ = (decide (el (rowN rows I).got I = ((rowN rows I).txt.length : Int)) && (decide ((I : Int) ∉ (rowN rows I).sus) && (!done || (rowN rows I).rdy)))) := okMb_end (m := ⟨(I : Int), n, rows, sung, done⟩) HE1.out HE2.out HE3.out h4 HE5.out HAll.out (fun j hj => HA.out j (by have : j < sung.length := hj; omega))
          have hil : I < rows.length := by have := HE3.out; omega
          have i0 : (0 : Int) ≤ (I : Int) := hid.1
          have i1 : (I : Int) < (rows.length : Int) := by have := HE3.out; omega
          have hgl := okRw_len (HAll.out I hil)
          obtain ⟨g, off, Ak, hra, ⟨⟨d0, d1, d2, d3⟩, d4, d5, d6, d7⟩, hrs⟩ := HV3.out.row (k := I) hil
          simp only at hra hrs d0 d1 d2 d3 d4 d5 d6 d7
          subst hra
          have hH := fun X (h : Below wr.heap.size wr X) => l1Has_any Ak.sa (rowN rows I).sus.length Ak.sc (I : Int) (rowN rows I).sus X (hrs.sus.below h (Nat.le_refl _)) hrs.ms
          rcases hrs.got.2.2 with h0 | ⟨gb, go, hga, hgc⟩
          · omega
          have hge := hgc I (by omega)
          have i2 : (I : Int) < ((rowN rows I).got.length : Int) := by omega
          rw [hga] at d2
          have hbo := oneA16 wr (.cells #[.int .i64 (rowN rows I).ver, .slice Ak.ta (rowN rows I).txt.length Ak.tc, .slice (some ⟨gb, go, none⟩) (rowN rows I).got.length Ak.gc, .slice Ak.sa (rowN rows I).sus.length Ak.sc, .bool (rowN rows I).wed, .bool (rowN rows I).rdy, .int .i64 (rowN rows I).by_, .slice Ak.ma (rowN rows I).trm.length Ak.mc] 37)
          have hxo := Bx.new wr 37 #[.int .i64 (rowN rows I).ver, .slice Ak.ta (rowN rows I).txt.length Ak.tc, .slice (some ⟨gb, go, none⟩) (rowN rows I).got.length Ak.gc, .slice Ak.sa (rowN rows I).sus.length Ak.sc, .bool (rowN rows I).wed, .bool (rowN rows I).rdy, .int .i64 (rowN rows I).by_, .slice Ak.ma (rowN rows I).trm.length Ak.mc]
          generalize rowN rows I = r at *
          generalize hWo : wr.alloc (.cells #[.int .i64 r.ver, .slice Ak.ta r.txt.length Ak.tc, .slice (some ⟨gb, go, none⟩) r.got.length Ak.gc, .slice Ak.sa r.sus.length Ak.sc, .bool r.wed, .bool r.rdy, .int .i64 r.by_, .slice Ak.ma r.trm.length Ak.mc] 37) = Wo at *
          have C : ∀ q : Bk Wo, Calls Tryz.prog 76 #[.slice Ak.sa r.sus.length Ak.sc, .int .i64 (I : Int)] q.w fun e w' => e = .returned (.bool (decide ((I : Int) ∈ r.sus))) ∧ Below q.w.heap.size q.w w' := fun q => (hH q.w (hbo.trans (q.h.mono hbo.size))).mono (fun e w' h => ⟨h.1, by rw [h.2]; exact Below.refl _ _⟩)
          obtain ⟨⟨y0, y1, y2, y3⟩, y4, y5, y6, y7⟩ := Bx.r8 hxo
          have z0 : Wo.cell? ⟨w.heap.size, 0, none⟩ = _ := (hbo.cell (World.block_lt_of_cell? _ _ c0)).trans c0
          have z4 : Wo.cell? ⟨w.heap.size, 4, none⟩ = _ := (hbo.cell (World.block_lt_of_cell? _ _ c4)).trans c4
          have hgo : Wo.cell? ⟨gb, go + I, none⟩ = _ := (hbo.cell (World.block_lt_of_cell? _ _ hge)).trans hge
          have x1 : ∀ q : Bk Wo, q.w.cell? ⟨wr.heap.size, 1, none⟩ = _ := fun q => (q.h.cell (World.block_lt_of_cell? _ _ y1)).trans y1
          have x2 : ∀ q : Bk Wo, q.w.cell? ⟨wr.heap.size, 2, none⟩ = _ := fun q => (q.h.cell (World.block_lt_of_cell? _ _ y2)).trans y2
          have x3 : ∀ q : Bk Wo, q.w.cell? ⟨wr.heap.size, 3, none⟩ = _ := fun q => (q.h.cell (World.block_lt_of_cell? _ _ y3)).trans y3
          have x5 : ∀ q : Bk Wo, q.w.cell? ⟨wr.heap.size, 5, none⟩ = _ := fun q => (q.h.cell (World.block_lt_of_cell? _ _ y5)).trans y5
          have v0 : ∀ q : Bk Wo, q.w.cell? ⟨w.heap.size, 0, none⟩ = _ := fun q => (q.h.cell (World.block_lt_of_cell? _ _ z0)).trans z0
          have v4 : ∀ q : Bk Wo, q.w.cell? ⟨w.heap.size, 4, none⟩ = _ := fun q => (q.h.cell (World.block_lt_of_cell? _ _ z4)).trans z4
          have vg : ∀ q : Bk Wo, q.w.cell? ⟨gb, go + I, none⟩ = _ := fun q => (q.h.cell (World.block_lt_of_cell? _ _ hgo)).trans hgo
          have HB5 : Hid (Below w.heap.size w Wo) := HB3.out.trans (hbo.mono HB3.out.size)
          clear hgc hge hH hxo hbo HA hrs HAll HV3 hsu y0 y1 y2 y3 y4 y5 y6 y7 z0 z4 hgo
          have HEq : Hid (((el r.got I == (r.txt.length : Int)) && (!(decide ((I : Int) ∈ r.sus)) && (!done || r.rdy))) = okMb ⟨(I : Int), n, rows, sung, done⟩) := by
            rw [Hid, HEnd.out]
            simp only [decide_not]
            rfl
          generalize hrd : r.rdy = rd at *
          generalize hel : el r.got I = eg at *
          cases e7 : (eg == (r.txt.length : Int)) <;> cases e8 : decide ((I : Int) ∈ r.sus) <;> cases done <;> rw [e7, e8] at HEq <;> rw [e8] at C <;>
           (go_wp2_with fail
            refine wp_region_bk (by kernel_rfl) (by kernel_rfl) ?_
            repeat (go_big_quiet_step ((first | (go_at_call 76; exact bk_call _ (C _)) | rfl)))
            refine wpQuiet_nil ?_
            intro wE hw'
            obtain ⟨⟨w11, hb11⟩, hw''⟩ := hw'
            have hwe : wE = w11 := hw''
            clear hw''
            subst hwe
            have HBE : Hid (Below w.heap.size w wE) := HB5.out.trans (hb11.mono HB5.out.size)
            go_wp2
            go_ret
            exact ⟨ret_bool (by rw [← HEq.out]; try rfl), HBE.out⟩)
end Go.Proofs.YthioodpmgifomaaGreat
namespace Go.Proofs.YthioodpmgifomaaGreat
set_option linter.unusedVariables false
set_option linter.unusedSimpArgs false
open Go.RowKit Go.Sort
def szP (R : List Rw) (k : Nat) : Nat := ((R.take k).map szRw).sum
theorem szP_next {R : List Rw} {k : Nat} (hk : k < R.length) : szP R (k + 1) = szP R k + szRw (rowN R k) := by
 have e : rowN R k = R[k] := by simp [rowN,List.getD,hk]
 unfold szP
 rw [List.take_succ_eq_append_getElem hk,List.map_append,List.sum_append,e]
 simp
def szRs (R : List Rw) : Nat := R.length + szP R R.length
def szMb (m : Mb) : Nat := szRs m.rows + m.sung.length
set_option maxRecDepth 100000 in
set_option maxHeartbeats 3200000 in
theorem szRs_any (a : Option Addr) (cap : Nat) (R : List Rw) (left : Int) (w : World) (hv : Cel.vw w (lcl 8 rw8 R) (.slice a R.length cap)) (hf : ∀ r ∈ R,FitR r) (hlg : ∀ r ∈ R,LongT r.txt) (hm : R.length ≤ maxLen) (hl : 0 ≤ left ∧ left ≤ 1048576) :
  Calls Tryz.prog 101 #[.slice a R.length cap,.int .i64 left] w fun e w' => ∃ q : Int,e = .returned (.int .i64 q) ∧ (q = -1 ∨ 0 ≤ q ∧ q + (szRs R : Int) = left) ∧ Below w.heap.size w w' := by
 have HV : Hid (Cel.vw w (lcl 8 rw8 R) (.slice a R.length cap)) := hv
 unfold maxLen at hm
 have wl : wrap64 (left - (R.length : Int)) = left - (R.length : Int) := by unfold wrap64;omega
 clear hv
 by_cases h0 : left - (R.length : Int) < 0
 ·go_enter Tryz.func101,Tryz.ntmps101
  go_wp2
  go_ret
  exact ⟨-1,rfl,.inl rfl,Below.refl _ _⟩
 ·obtain ⟨l0,hl0⟩ : ∃ l0 : Int,Hid (left - (R.length : Int) = l0) := ⟨_,rfl⟩
  rw [hl0.out] at h0 wl
  go_enter Tryz.func101,Tryz.ntmps101
  have hl1 := hl0.out
  rw [← hl1] at wl h0
  go_wp2_with fail
  rw [hl1] at *
  clear hl1 wl
  go_loopw [1,5] (fun lv v wr => ∃ (k : Nat) (l : Int),k ≤ R.length ∧ v = .int .i64 (k : Int) ∧ lv = .int .i64 l ∧ 0 ≤ l ∧ l ≤ 1048576 ∧ Hid (l + (szP R k : Int) = l0) ∧ Below w.heap.size w wr) (fun _ v _ => R.length - (intOf v).toNat)
  case atStart => exact ⟨0,l0,Nat.zero_le _,rfl,rfl,by omega,by have := hl0.out;omega,by simp [Hid,szP],Below.refl _ _⟩
  case round =>
   obtain ⟨k,l,hk,rfl,rfl,hlp,hlm,hS,hb⟩ := hrel
   by_cases hlt : k < R.length
   ·have k1 : (k : Int) < (R.length : Int) := by omega
    have k0 : (0 : Int) ≤ (k : Int) := by omega
    have hmem : rowN R k ∈ R := rowN_mem hlt
    obtain ⟨g,off,hra,hpv⟩ := vw_elF rw8_len (Cel.vw_below HV.out hb) (k := k) (x := rowN R k) (by simp [rowN,List.getD,hlt])
    obtain ⟨Ak,⟨⟨d0,d1,d2,d3⟩,d4,d5,d6,d7⟩,hrs⟩ := hpv.row (hf _ hmem)
    subst hra
    have hC := szRw_any Ak (rowN R k) l wr hrs (hlg _ hmem) ⟨hlp,hlm⟩
    unfold rwV rwC at hC
    have HN : Hid (szP R (k + 1) = szP R k + szRw (rowN R k)) := szP_next hlt
    have HB : Hid (Below w.heap.size w wr) := hb
    generalize rowN R k = r at *
    clear hrs hpv hb
    go_wp2_with fail
    refine hC.mono ?_
    rintro e w1 ⟨q,rfl,hq,hb1⟩
    have HB1 : Hid (Below w.heap.size w w1) := HB.out.trans (hb1.mono HB.out.size)
    clear d0 d1 d2 d3 d4 d5 d6 d7 hC hb1
    rcases hq with rfl | ⟨hq0,hq1⟩
    ·go_wp2
     go_ret
     exact ⟨-1,rfl,.inl rfl,HB1.out⟩
    ·have n1 : ¬ (q < 0) := by omega
     have HS2 : Hid (q + (szP R (k + 1) : Int) = l0) := by
      have h1 := HN.out
      have h2 := hS.out
      rw [Hid,h1]
      omega
     have hqm : q ≤ 1048576 := by omega
     clear hq1
     go_wp2
     go_roundw
     case rel => exact ⟨k + 1,q,by omega,by go_num,rfl,by omega,hqm,HS2,HB1.out⟩
     case measure => simp [intOf];omega
   ·have k1 : ¬ ((k : Int) < (R.length : Int)) := by omega
    have ek : k = R.length := by omega
    have HE : Hid (l + (szRs R : Int) = left) := by
     have h1 := hS.out
     have h2 := hl0.out
     rw [ek] at h1
     rw [Hid,szRs]
     omega
    have HB : Hid (Below w.heap.size w wr) := hb
    clear hb ek
    go_wp2
    go_ret
    exact ⟨l,rfl,.inr ⟨hlp,HE.out⟩,HB.out⟩
set_option maxRecDepth 100000 in
set_option maxHeartbeats 3200000 in
theorem szMb_any (A : Ma) (m : Mb) (left : Int) (w : World) (hv : MbS w A m) (hlg : ∀ r ∈ m.rows,LongT r.txt) (hl : 0 ≤ left ∧ left ≤ 1048576) :
  Calls Tryz.prog 47 #[mbV A m,.int .i64 left] w fun e w' => ∃ q : Int,e = .returned (.int .i64 q) ∧ (q = -1 ∨ 0 ≤ q ∧ q + (szMb m : Int) = left) ∧ Below w.heap.size w w' := by
 have hb := oneA16 w (.cells (mbC A m) 76)
 have hx := Bx.new w 76 (mbC A m)
 have hv0 := hv.below hb
 have hS := szRs_any A.ra A.rc m.rows left _ hv0.rows hv0.fit hlg hv0.mr hl
 have hms := hv.ms
 unfold mbV
 unfold mbC at *
 generalize hWW : w.alloc (.cells #[.int .i64 m.id,.int .i64 m.n,.slice A.ra m.rows.length A.rc,.slice A.sa m.sung.length A.sc,.bool m.done] 76) = W at *
 have c2 := (Bx.r5 hx).2.2.1
 have HX : Hid (Bx W w.heap.size 76 #[.int .i64 m.id,.int .i64 m.n,.slice A.ra m.rows.length A.rc,.slice A.sa m.sung.length A.sc,.bool m.done]) := hx
 have HB : Hid (Below w.heap.size w W) := hb
 clear hv hv0 hb hx
 go_enter Tryz.func47,Tryz.ntmps47
 go_wp2_with fail
 refine hS.mono ?_
 rintro e w1 ⟨q1,rfl,hq1,hb1⟩
 have HB1 : Hid (Below w.heap.size w w1) := HB.out.trans (hb1.mono HB.out.size)
 have c3 := (Bx.r5 (HX.out.below hb1)).2.2.2.1
 clear hS hb1 c2
 rcases hq1 with rfl | ⟨hq0,hq1⟩
 ·go_wp2
  go_ret
  exact ⟨-1,rfl,.inl rfl,HB1.out⟩
 have n1 : ¬ (q1 < 0) := by omega
 have b1 : q1 ≤ 1048576 := by omega
 have HQ1 : Hid (q1 + (szRs m.rows : Int) = left) := hq1
 clear hq1
 have hs2 := szI14_any A.sa m.sung.length A.sc q1 w1 hms ⟨by omega,by omega⟩
 by_cases g2 : (m.sung.length : Int) ≤ q1
 rotate_left
 ·rw [if_neg g2] at hs2
  go_wp2_with (go_at_call 102;refine hs2.mono ?_;rintro e w' ⟨rfl,hw'⟩;rw [hw'];clear hw')
  go_ret
  exact ⟨-1,rfl,.inl rfl,HB1.out⟩
 rw [if_pos g2] at hs2
 obtain ⟨q2,hq2⟩ : ∃ x : Int,q1 - (m.sung.length : Int) = x := ⟨_,rfl⟩
 rw [hq2] at hs2
 have n2 : ¬ (q2 < 0) := by omega
 have Hq2 : Hid (q1 - (m.sung.length : Int) = q2) := hq2
 clear hq2 g2
 go_wp2_with fail
 refine hs2.mono ?_
 rintro e w' ⟨rfl,hw'⟩
 rw [hw']
 clear hw' hs2
 go_wp2
 go_ret
 refine ⟨q2,rfl,.inr ⟨by omega, ?_⟩,HB1.out⟩
 have h1 := HQ1.out
 have h2 := Hq2.out
 rw [szMb]
 omega
end Go.Proofs.YthioodpmgifomaaGreat
namespace Go.Proofs.YthioodpmgifomaaGreat
set_option linter.unusedSimpArgs false
set_option linter.unusedVariables false
open Go.RowKit Go.Sort
section
variable {P : Program} {ops : Array Oper} {Q : Exit → Act → World → Prop} {md : Region.Mode} {S : World → Prop}
def wpAnyT (P : Program) (md : Region.Mode) (ops : Array Oper) (Q : Exit → Act → World → Prop) (S : World → Prop) (z : Nat) : Nat → Array Bool → Act → World → Prop
 | 0,listed,a,w => Region.ready md ops listed = [] ∧ Q .normal a w
 | fuel + 1,listed,a,w =>
  (Region.ready md ops listed = [] → Q .normal a w) ∧
  ∀ i ∈ Region.ready md ops listed,wpOp P ops Q i (fun a' w' => (i ≠ z → S w → S w') ∧ wpAnyT P md ops Q S z fuel (listed.setIfInBounds i true) a' w') a w
theorem wpAny_of_T {z : Nat} : ∀ (fuel : Nat) (listed : Array Bool) (a : Act) (w : World),wpAnyT P md ops Q S z fuel listed a w → wpAny P md ops Q fuel listed a w
 | 0,_,_,_,h => h
 | fuel + 1,_,_,_,h => ⟨h.1,fun i hi => wpOp_mono (fun a' w' h' => wpAny_of_T fuel _ a' w' h'.2) (h.2 i hi)⟩
theorem wpAnyT_first {i z : Nat} {oi : Oper} {v : Value} (hi : ops[i]? = some oi) (hsel : ∀ (j : Nat) (o : Oper) cs b,ops[j]? = some o → o.op ≠ .select cs b)
  (hQ : ∀ c a w,Q (.panic c) (a.put oi.dst v) w → Q (.panic c) a w) (hz : Region.waitsFor md ops z i = true) (hiz : i ≠ z) :
  ∀ (fuel : Nat) (listed : Array Bool) (a : Act) (w : World),
   (∀ j oj,ops[j]? = some oj → j ≠ i → listed.getD j true = false → (∀ e ∈ oj.after,Region.binds md e = true → e.on ≠ i) → oi.apart ops oj = true) →
   i ∈ Region.ready md ops listed → YieldsIf P ops S oi v a → S w →
   wpAnyT P md ops Q S z fuel (listed.setIfInBounds i true) (a.put oi.dst v) w → wpAnyT P md ops Q S z (fuel + 1) listed a w := by
 intro fuel
 induction fuel with
 | zero =>
  intro listed a w _ hr hy hS H
  refine ⟨fun h => (by rw [h] at hr;cases hr),fun j hj => ?_⟩
  by_cases hji : j = i
  ·subst hji;exact hy.wpOp hi hS ⟨fun _ h => h,H⟩
  ·have := ready_mono hj hji
   rw [H.1] at this
   cases this
 | succ fuel ih =>
  intro listed a w hfree hr hy hS H
  have hun := (mem_ready.1 hr).1
  refine ⟨fun h => (by rw [h] at hr;cases hr),fun j hj => ?_⟩
  by_cases hji : j = i
  ·subst hji;exact hy.wpOp hi hS ⟨fun _ h => h,H⟩
  ·obtain ⟨hjun,oj,hoj,hall⟩ := mem_ready.1 hj
   have hnot : ∀ e ∈ oj.after,Region.binds md e = true → e.on ≠ i := fun e he hb heq => by
    have h3 := hall e he hb
    rw [heq,getD_both hun] at h3
    cases h3
   have hjz : j ≠ z := fun e => by
    subst e
    obtain ⟨o',ho',e,he,hb,hon⟩ := Region.waitsFor_spec hz
    have : o' = oj := Option.some.inj (ho'.symm.trans hoj)
    subst this
    exact hnot e he hb hon
   have h1 := H.2 j (ready_mono hj hji)
   have h2 := wpOp_putIf hoj (hfree j oj hoj hji hjun hnot) (fun cs b => hsel i oi cs b hi) (fun cs b => hsel j oj cs b hoj) hQ hy h1
   have hfree' : ∀ k ok,ops[k]? = some ok → k ≠ i → (listed.setIfInBounds j true).getD k true = false →
     (∀ e ∈ ok.after,Region.binds md e = true → e.on ≠ i) → oi.apart ops ok = true := fun k ok hk hki hun hno => by
    refine hfree k ok hk hki ?_ hno
    by_cases hjk : j = k
    ·subst hjk;exact hjun
    ·rw [getD_set_ne true hjk] at hun;exact hun
   refine wpOp_mono (fun a' w' h3 => ⟨h3.2.1,ih (listed.setIfInBounds j true) a' w' hfree' (ready_mono hr (Ne.symm hji)) h3.1 (h3.2.1 hjz hS) ?_⟩) h2
   rw [Array.setIfInBounds_comm _ _ hji]
   exact h3.2.2
theorem wpAnyT_pure {i z : Nat} {oi : Oper} {v : Value} (hi : ops[i]? = some oi) (hsel : ∀ (j : Nat) (o : Oper) cs b,ops[j]? = some o → o.op ≠ .select cs b)
  (hQ : ∀ c a w,Q (.panic c) (a.put oi.dst v) w → Q (.panic c) a w) :
  ∀ (fuel : Nat) (listed : Array Bool) (a : Act) (w : World),
   (∀ j oj,ops[j]? = some oj → j ≠ i → listed.getD j true = false → (∀ e ∈ oj.after,Region.binds md e = true → e.on ≠ i) → oi.apart ops oj = true) →
   i ∈ Region.ready md ops listed → Yields P ops oi v a →
   wpAnyT P md ops Q S z fuel (listed.setIfInBounds i true) (a.put oi.dst v) w → wpAnyT P md ops Q S z (fuel + 1) listed a w := by
 intro fuel
 induction fuel with
 | zero =>
  intro listed a w _ hr hy H
  refine ⟨fun h => (by rw [h] at hr;cases hr),fun j hj => ?_⟩
  by_cases hji : j = i
  ·subst hji;exact hy.wpOp hi ⟨fun _ h => h,H⟩
  ·have := ready_mono hj hji
   rw [H.1] at this
   cases this
 | succ fuel ih =>
  intro listed a w hfree hr hy H
  have hun := (mem_ready.1 hr).1
  refine ⟨fun h => (by rw [h] at hr;cases hr),fun j hj => ?_⟩
  by_cases hji : j = i
  ·subst hji;exact hy.wpOp hi ⟨fun _ h => h,H⟩
  ·obtain ⟨hjun,oj,hoj,hall⟩ := mem_ready.1 hj
   have hnot : ∀ e ∈ oj.after,Region.binds md e = true → e.on ≠ i := fun e he hb heq => by
    have h3 := hall e he hb
    rw [heq,getD_both hun] at h3
    cases h3
   have h1 := H.2 j (ready_mono hj hji)
   have h2 := wpOp_put hoj (hfree j oj hoj hji hjun hnot) (fun cs b => hsel i oi cs b hi) (fun cs b => hsel j oj cs b hoj) hQ hy h1
   have hfree' : ∀ k ok,ops[k]? = some ok → k ≠ i → (listed.setIfInBounds j true).getD k true = false →
     (∀ e ∈ ok.after,Region.binds md e = true → e.on ≠ i) → oi.apart ops ok = true := fun k ok hk hki hun hno => by
    refine hfree k ok hk hki ?_ hno
    by_cases hjk : j = k
    ·subst hjk;exact hjun
    ·rw [getD_set_ne true hjk] at hun;exact hun
   refine wpOp_mono (fun a' w' h3 => ⟨h3.2.1,ih (listed.setIfInBounds j true) a' w' hfree' (ready_mono hr (Ne.symm hji)) h3.1 ?_⟩) h2
   rw [Array.setIfInBounds_comm _ _ hji]
   exact h3.2.2
end
section
variable {P : Program} {l : List Oper} {Q : Exit → Act → World → Prop} {S : World → Prop}
def GT (P : Program) (l : List Oper) (Q : Exit → Act → World → Prop) (S : World → Prop) (z fuel : Nat) (listed : Array Bool) (a : Act) (w : World) : Prop := wpAnyT P .any l.toArray Q S z fuel listed a w
theorem gt_begin {id : Nat} {a : Act} {w : World} (z : Nat) (hm : P.follows .mixedOrders = true) (hlen : (l.length == l.length) = true)
  (h : GT P l Q S z l.length (Array.replicate l.length false) a w.drew) : (Code.region id l.toArray true).wp P Q a w := by
 refine wp_region_any hm (wpAny_of_T (z := z) (S := S) _ _ _ _ ?_)
 unfold GT at h
 simpa using h
theorem gt_take {i z : Nat} {oi : Oper} {v : Value} {fuel : Nat} {listed : Array Bool} {a : Act} {w : World} (hi : l[i]? = some oi) (hs : Region.noSelect l.toArray = true)
  (hsk : (Region.waitsFor .any l.toArray z i && (i != z)) = true) (hf : Region.free .any l.toArray listed i = true) (hr : (Region.ready .any l.toArray listed).contains i = true)
  (hQ : ∀ c a w,Q (.panic c) (a.put oi.dst v) w → Q (.panic c) a w) (hy : YieldsIf P l.toArray S oi v a) (hS : S w)
  (h : GT P l Q S z fuel (listed.setIfInBounds i true) (a.put oi.dst v) w) : GT P l Q S z (fuel + 1) listed a w := by
 simp only [Bool.and_eq_true,bne_iff_ne] at hsk
 have hi' : l.toArray[i]? = some oi := by simpa using hi
 exact wpAnyT_first hi' (Region.noSelect_spec hs) hQ hsk.1 hsk.2 fuel listed a w (Region.free_spec hi' hf) (by simpa using hr) hy hS h
theorem gt_pure {i z : Nat} {oi : Oper} {v : Value} {fuel : Nat} {listed : Array Bool} {a : Act} {w : World} (hi : l[i]? = some oi) (hs : Region.noSelect l.toArray = true)
  (hf : Region.free .any l.toArray listed i = true) (hr : (Region.ready .any l.toArray listed).contains i = true)
  (hQ : ∀ c a w,Q (.panic c) (a.put oi.dst v) w → Q (.panic c) a w) (hy : Yields P l.toArray oi v a)
  (h : GT P l Q S z fuel (listed.setIfInBounds i true) (a.put oi.dst v) w) : GT P l Q S z (fuel + 1) listed a w := by
 have hi' : l.toArray[i]? = some oi := by simpa using hi
 exact wpAnyT_pure hi' (Region.noSelect_spec hs) hQ fuel listed a w (Region.free_spec hi' hf) (by simpa using hr) hy h
theorem gt_one {i z : Nat} {o : Oper} {fuel : Nat} {listed : Array Bool} {a : Act} {w : World} (hi : l[i]? = some o) (hr : Region.ready .any l.toArray listed = [i]) (hiz : (i != z) = true)
  (h : ∀ K' : Act → World → Prop,Shut (∀ a w,S w → (S w → GT P l Q S z fuel (listed.setIfInBounds i true) a w) → K' a w) → if Region.wanted o (yielded l.toArray a.tmps) = true then Oper.wp P o a w K' Q else K' (a.put o.dst undef) w) : GT P l Q S z (fuel + 1) listed a w := by
 have hi' : l.toArray[i]? = some o := by simpa using hi
 refine ⟨fun h0 => (by rw [hr] at h0;cases h0),fun j hj => ?_⟩
 rw [hr] at hj
 simp at hj
 subst hj
 exact wpOp_step hi' (fun K' hK => h K' (fun a w hS hW => hK a w ⟨fun _ _ => hS,hW hS⟩))
theorem gt_last {z : Nat} {o : Oper} {fuel : Nat} {listed : Array Bool} {a : Act} {w : World} (hi : l[z]? = some o) (hr : Region.ready .any l.toArray listed = [z]) (hr2 : Region.ready .any l.toArray (listed.setIfInBounds z true) = [])
  (h : ∀ K' : Act → World → Prop,Shut (∀ a w,Q .normal a w → K' a w) → if Region.wanted o (yielded l.toArray a.tmps) = true then Oper.wp P o a w K' Q else K' (a.put o.dst undef) w) : GT P l Q S z (fuel + 1) listed a w := by
 have hi' : l.toArray[z]? = some o := by simpa using hi
 refine ⟨fun h0 => (by rw [hr] at h0;cases h0),fun j hj => ?_⟩
 rw [hr] at hj
 simp at hj
 subst hj
 refine wpOp_step hi' (fun K' hK => h K' (fun a w hq => hK a w ⟨fun h => absurd rfl h, ?_⟩))
 cases fuel with
 | zero => exact ⟨hr2,hq⟩
 | succ f => exact ⟨fun _ => hq,by rw [hr2];simp⟩
end
end Go.Proofs.YthioodpmgifomaaGreat
namespace Go.Proofs.YthioodpmgifomaaGreat
set_option linter.unusedVariables false
set_option linter.unusedSimpArgs false
open Go.RowKit Go.Sort
section
variable {P : Program} {l : List Oper} {Q : Exit → Act → World → Prop} {S : World → Prop}
end
section
variable {P : Program} {ops : Array Oper} {Q : Exit → Act → World → Prop} {md : Region.Mode} {S : World → Prop}
end
section
variable {P : Program} {l : List Oper} {Q : Exit → Act → World → Prop} {S : World → Prop}
theorem gt_end {z : Nat} {fuel : Nat} {listed : Array Bool} {a : Act} {w : World} (hr : Region.ready .any l.toArray listed = []) (h : Q .normal a w) : GT P l Q S z fuel listed a w := by
 cases fuel with
 | zero => exact ⟨hr,h⟩
 | succ f => exact ⟨fun _ => h,by rw [hr];simp⟩
end
end Go.Proofs.YthioodpmgifomaaGreat
namespace Go.Proofs.YthioodpmgifomaaGreat
set_option linter.unusedVariables false
set_option linter.unusedSimpArgs false
open Go.RowKit Go.Sort
theorem Tryz.infoRw : (Tryz.prog.info? 37).map (fun i => (i.zero,i.size,i.bytes)) = some (some (.agg #[.int .i64 0,.slice none 0 0,.slice none 0 0,.slice none 0 0,.bool false,.bool false,.int .i64 0,.slice none 0 0]),8,120) := by kernel_rfl
theorem mixed17 : Tryz.prog.follows .mixedOrders = true := by kernel_rfl
theorem info_partsG {P : Program} {t : TypeId} {z : Value} {s b : Nat} (h : (P.info? t).map (fun i => (i.zero,i.size,i.bytes)) = some (some z,s,b)) : ∃ i,P.info? t = some i ∧ i.zero = some z ∧ i.size = s ∧ i.bytes = b := by
 cases e : P.info? t with
 | none => rw [e] at h;cases h
 | some i =>
  rw [e] at h
  simp only [Option.map_some,Option.some.injEq,Prod.mk.injEq] at h
  exact ⟨i,rfl,h.1,h.2.1,h.2.2⟩
theorem owL_v {w : World} {x : Value} {cs : List Cel} {us : List Value} {f : Fp} (h : owL w cs us f) : owL w (.v x :: cs) (x :: us) f := ⟨x,us,fun _ => False,f,rfl,⟨rfl,fun _ h => h⟩,h,fun _ h => absurd h id,fun b => by simp⟩
theorem owL_v' {w : World} {x : Value} {cs : List Cel} {us : List Value} {f : Fp} (h : owL w (.v x :: cs) us f) : ∃ us',us = x :: us' ∧ owL w cs us' f := by
 obtain ⟨u,us',f1,f2,rfl,⟨rfl,h1⟩,h2,hd,hf⟩ := h
 exact ⟨us',rfl,owL_congr h2 (fun b => (hf b).trans ⟨fun h => h.elim (fun h => absurd h (h1 b)) id,.inr⟩)⟩
theorem owL_c {w : World} {c : Cel} {u : Value} {cs : List Cel} {us : List Value} {f1 f2 : Fp} (h1 : Cel.ow w c u f1) (h2 : owL w cs us f2) (hd : ∀ b,f1 b → ¬ f2 b) : owL w (c :: cs) (u :: us) (fun b => f1 b ∨ f2 b) := ⟨u,us,f1,f2,rfl,h1,h2,hd,fun b => Iff.rfl⟩
theorem ow_rw8 {w : World} {A : Ra} {r : Rw} {f : Fp} (h : owL w (rwCels r) (rwVals A r) f) : owL w (rw8 r) (rwC A r).toList f := by
 obtain ⟨u1,us1,f1,g1,e1,o1,h2,d1,i1⟩ := h
 cases e1
 obtain ⟨u2,us2,f2,g2,e2,o2,h3,d2,i2⟩ := h2
 cases e2
 obtain ⟨u3,us3,f3,g3,e3,o3,h4,d3,i3⟩ := h3
 cases e3
 exact owL_v ⟨_,_,f1,g1,rfl,o1,⟨_,_,f2,g2,rfl,o2,⟨_,_,f3,g3,rfl,o3,owL_v (owL_v (owL_v h4)),d3,i3⟩,d2,i2⟩,d1,i1⟩
theorem rw8_ow {w : World} {r : Rw} {us : List Value} {f : Fp} (h : owL w (rw8 r) us f) : ∃ A : Ra,us = (rwC A r).toList ∧ owL w (rwCels r) (rwVals A r) f := by
 obtain ⟨us0,rfl,hq0⟩ := owL_v' h
 obtain ⟨u1,us1,f1,g1,rfl,o1,h2,d1,i1⟩ := hq0
 obtain ⟨u2,us2,f2,g2,rfl,o2,h3,d2,i2⟩ := h2
 obtain ⟨u3,us3,f3,g3,rfl,o3,h4,d3,i3⟩ := h3
 obtain ⟨us4,rfl,hq4⟩ := owL_v' h4
 obtain ⟨us5,rfl,hq5⟩ := owL_v' hq4
 obtain ⟨us6,rfl,hq6⟩ := owL_v' hq5
 obtain ⟨u7,us7,f7,g7,rfl,o7,⟨rfl,h8⟩,d7,i7⟩ := hq6
 obtain ⟨ta,tc,_,rfl,_⟩ := ow_scl.1 o1
 obtain ⟨ga,gc,_,rfl,_⟩ := ow_icl.1 o2
 obtain ⟨sa,sc,_,rfl,_⟩ := ow_icl.1 o3
 obtain ⟨ma,mc,_,rfl,_⟩ := ow_icl.1 o7
 exact ⟨⟨ta,tc,ga,gc,sa,sc,ma,mc⟩,rfl,⟨_,_,f1,g1,rfl,o1,⟨_,_,f2,g2,rfl,o2,⟨_,_,f3,g3,rfl,o3,⟨_,_,f7,g7,rfl,o7,⟨rfl,h8⟩,d7,i7⟩,d3,i3⟩,d2,i2⟩,d1,i1⟩⟩
theorem ow_mb5 {w : World} {A : Ma} {m : Mb} {f : Fp} (h : owL w (mbCels m) (mbVals A m) f) : owL w (mb5 m) (mbC A m).toList f := by
 obtain ⟨u1,us1,f1,g1,e1,o1,h2,d1,i1⟩ := h
 cases e1
 obtain ⟨u2,us2,f2,g2,e2,o2,h3,d2,i2⟩ := h2
 cases e2
 exact owL_v (owL_v ⟨_,_,f1,g1,rfl,o1,⟨_,_,f2,g2,rfl,o2,owL_v h3,d2,i2⟩,d1,i1⟩)
theorem mb5_ow {w : World} {m : Mb} {us : List Value} {f : Fp} (h : owL w (mb5 m) us f) : ∃ A : Ma,us = (mbC A m).toList ∧ owL w (mbCels m) (mbVals A m) f := by
 obtain ⟨us0,rfl,hq0⟩ := owL_v' h
 obtain ⟨us9,rfl,hq1⟩ := owL_v' hq0
 obtain ⟨u1,us1,f1,g1,rfl,o1,h2,d1,i1⟩ := hq1
 obtain ⟨u2,us2,f2,g2,rfl,o2,h3,d2,i2⟩ := h2
 obtain ⟨us4,rfl,⟨rfl,h4⟩⟩ := owL_v' h3
 have o1' := o1
 obtain ⟨ra,rc,_,_,_,rfl,_⟩ := o1'
 obtain ⟨sa,sc,_,rfl,_⟩ := ow_icl.1 o2
 exact ⟨⟨ra,rc,sa,sc⟩,rfl,⟨_,_,f1,g1,rfl,o1,⟨_,_,f2,g2,rfl,o2,⟨rfl,h4⟩,d2,i2⟩,d1,i1⟩⟩
theorem ow_pushF {P : Program} {α : Type} {F : α → List Cel} {s : Nat} (hF : ∀ x,(F x).length = s) {w : World} (t ty e : TypeId) (z : Value) (bytes : Nat) (ht : P.underlying t = some (.slice e)) (hi : (P.info? e).map (fun i => (i.zero,i.size,i.bytes)) = some (some z,s,bytes)) (hzs : z.cells.size = s) (hsz : 0 < s)
  {a : Option Addr} {c : Nat} {L : List α} {x : α} {fp fd : Fp} (hO : Cel.ow w (lcl s F L) (.slice a L.length c) fp) {vals : List Value} (hd : owL w (F x) vals fd) (hdis : ∀ b,fp b → ¬ fd b) (h1 : ∀ u ∈ vals,u.oneCell' = true)
  (nb : Nat) (T : TypeId) (hnb : w.heap[nb]? = some (.cells vals.toArray T (0,0))) (h63 : L.length + 1 ≤ maxLen) (hbytes : (L.length + 1) * bytes ≤ 140737488355328) :
  ∃ a' c' w' fp',(Builtin.append_ #[t,t] ty #[.slice a L.length c,.slice (some ⟨nb,0,none⟩) 1 1]).run P w = .ok (.slice a' (L.length + 1) c') w' ∧ Cel.ow w' (lcl s F (L ++ [x])) (.slice a' (L.length + 1) c') fp' ∧ Wrt fp w w' ∧ ∀ b,fp' b → fp b ∨ fd b ∨ b = w.heap.size := by
 obtain ⟨i,hi0,hz,hs,hb⟩ := info_partsG hi
 obtain ⟨a',c',w',fp',h2,h3,h4,h5⟩ := ow_push (P := P) (w := w) t ty e i z s bytes ht hi0 hz hs hb hzs hsz hO hd hdis (by rw [owL_len hd,hF]) h1 nb T hnb h63 hbytes
 refine ⟨a',c',w',fp',h2, ?_,h4,h5⟩
 unfold lcl
 rw [List.flatMap_append,List.length_append]
 simpa using h3
structure MO (w X : World) (o : Nat) (A : Ma) (m : Mb) (fp : Fp) : Prop where
 own : Bx X o 27 (mbC A m)
 ls : owL X (mbCels m) (mbVals A m) fp
 fpl : ∀ b,fp b → o < b
 lo : w.heap.size ≤ o
 below : Below w.heap.size w X
theorem MO.step {w X X' : World} {o : Nat} {A : Ma} {m : Mb} {fp : Fp} (h : MO w X o A m fp) (hb : Below X.heap.size X X') : MO w X' o A m fp := ⟨h.own.below hb,owL_below h.ls hb,h.fpl,h.lo,h.below.trans (hb.mono h.below.size)⟩
theorem MO.push {w X X1 : World} {o : Nat} {A : Ma} {m : Mb} {fp : Fp} (h : MO w X o A m fp) (hb : Below X.heap.size X X1) {r : Rw} {Ar : Ra} {fr : Fp} (hr : owL X1 (rwCels r) (rwVals Ar r) fr) (hfr : ∀ b,fr b → X.heap.size ≤ b) (hl : m.rows.length ≤ 1000000) :
  ∀ Y,Same Y (X1.alloc (.cells (rwC Ar r) 37)) → ∃ v' w4,(Builtin.append_ #[24,24] 24 #[.slice A.ra m.rows.length A.rc,.slice (some ⟨X1.heap.size,0,none⟩) 1 1]).run Tryz.prog Y = .ok v' w4 ∧
   ∃ a' c',v' = .slice a' (m.rows.length + 1) c' ∧ w4.cell? ⟨o,2,none⟩ = some (.slice A.ra m.rows.length A.rc) ∧ w4.frozen? ⟨o,2,none⟩ = false ∧ Below o X w4 ∧ Below o X (w4.setCell ⟨o,2,none⟩ (.slice a' (m.rows.length + 1) c')) ∧ ∃ fp',MO w (w4.setCell ⟨o,2,none⟩ (.slice a' (m.rows.length + 1) c')) o ⟨a',c',A.sa,A.sc⟩ { m with rows := m.rows ++ [r] } fp' := by
 intro Y hY
 have h1 := h.step hb
 have hbY : Below X1.heap.size X1 Y := (oneA16 X1 _).trans (hY.below.mono (oneA16 X1 _).size)
 have h2 := h1.step hbY
 have hls := h2.ls
 obtain ⟨u1,us1,f1,g1,e1,o1,l2,d1,i1⟩ := hls
 cases e1
 have hrY := ow_rw8 (owL_below hr hbY)
 have hol : o < X.heap.size := h.own.lt
 have hpl : ∀ b,fp b → b < X.heap.size := owL_lt h.ls
 have hXs := hb.size
 obtain ⟨a',c',w4,fp',k1,k2,k3,k4⟩ := ow_pushF (P := Tryz.prog) rw8_len (w := Y) 24 24 37 _ 120 Tryz.underlying24 Tryz.infoRw rfl (by omega) (x := r) o1 hrY (fun b hb1 hb2 => by have := hpl b ((i1 b).2 (.inl hb1));have := hfr b hb2;omega) (by intro u hu;simp [rwC] at hu;rcases hu with h | h | h | h | h | h | h | h <;> rw [h] <;> rfl) X1.heap.size 37 (by rw [hY.heap];exact heap_alloc_new X1 _) (by unfold maxLen;omega) (by omega)
 have hf1 : ∀ b,f1 b → o < b := fun b hb1 => h.fpl b ((i1 b).2 (.inl hb1))
 have hg1 : ∀ b,g1 b → o < b := fun b hb1 => h.fpl b ((i1 b).2 (.inr hb1))
 have hYs : X1.heap.size < Y.heap.size := by rw [hY.size];simp
 have ho4 : Bx w4 o 27 (mbC A m) := h2.own.wrt k3 (fun hb1 => by have := hf1 _ hb1;omega)
 have hXY : Below X.heap.size X Y := hb.trans (hbY.mono hb.size)
 have b4 : Below o X w4 := k3.below (hXY.mono (by omega : o ≤ X.heap.size)) (by omega) (fun b hb1 => by have := hf1 _ hb1;omega)
 have hfp' : ∀ b,fp' b → o < b := fun b hb1 => by
  rcases k4 b hb1 with k | k | k
  ·exact hf1 b k
  ·have := hfr b k;omega
  ·omega
 refine ⟨_,w4,k1,a',c',rfl,ho4.at 2 rfl,ho4.f 2,b4,b4.setCell (p := ⟨o,2,none⟩) (Nat.le_refl _) _,fun b => fp' b ∨ g1 b, ?_, ?_,fun b hb1 => hb1.elim (hfp' b) (hg1 b),h.lo, ?_⟩
 ·have := ho4.setC 2 (.slice a' (m.rows.length + 1) c')
  have e : (mbC A m).setIfInBounds 2 (.slice a' (m.rows.length + 1) c') = mbC ⟨a',c',A.sa,A.sc⟩ { m with rows := m.rows ++ [r] } := by simp [mbC]
  rw [e] at this
  exact this
 ·have hw := Wrt.set w4 o 2 (.slice a' (m.rows.length + 1) c')
  have k2' : Cel.ow w4 (lcl 8 rw8 (m.rows ++ [r])) (.slice a' (m.rows ++ [r]).length c') fp' := by
   rw [List.length_append]
   exact k2
  exact owL_wrt (owL_c k2' (owL_wrt l2 k3 (fun b hb1 hb2 => d1 b hb2 hb1)) (fun b hb1 hb2 => by
   rcases k4 b hb1 with k | k | k
   ·exact d1 b k hb2
   ·have := hfr b k;have := hpl b ((i1 b).2 (.inr hb2));omega
   ·have := hpl b ((i1 b).2 (.inr hb2));omega)) hw (fun b hb1 e => by have := hb1.elim (hfp' b) (hg1 b);omega)
 ·have := h.below
  have hlo := h.lo
  exact ((this.mono (Nat.le_refl _)).trans (b4.mono hlo)).setCell (p := ⟨o,2,none⟩) hlo _
def AnsMb (w w' : World) (e : Ending) (m : Mb) : Prop := ∃ A : Ma,e = .returned (mbV A m) ∧ NewL w w' (mbCels m) (mbVals A m)
def AnsMf (w w' : World) (e : Ending) (m : Mb) (b : Bool) : Prop := ∃ A : Ma,e = .returned (.tuple #[mbV A m,.bool b]) ∧ NewL w w' (mbCels m) (mbVals A m)
theorem ow_lcl0 (w : World) {α : Type} (s : Nat) (F : α → List Cel) : Cel.ow w (lcl s F []) (.slice none 0 0) (fun _ => False) := ⟨none,0,[],none,fun _ => False,rfl,OSo.nil _ _ plainN,⟨rfl,fun _ h => h⟩,fun _ _ h => h,fun b => by simp⟩
theorem ow_mb0 (w : World) : owL w (mbCels zeroMb) (mbVals ⟨none,0,none,0⟩ zeroMb) (fun _ => False) :=
 owL_congr (owL_c (ow_lcl0 w 8 rw8) (owL_c (ow_none_i w) (⟨rfl,fun _ h => h⟩ : owL w [] [] (fun _ => False)) (fun _ _ h => h)) (fun _ h => absurd h id)) (fun b => by simp)
theorem ansM_zero {w w' : World} (hb : Below w.heap.size w w') : NewL w w' (mbCels zeroMb) (mbVals ⟨none,0,none,0⟩ zeroMb) := ⟨_,ow_mb0 w',fun b h => absurd h id,hb⟩
theorem wrt5 (w : World) (g : Nat) {a b c d e : Value} : Wrt (fun x => x = g) w (((((w.setCell ⟨g,0,none⟩ a).setCell ⟨g,1,none⟩ b).setCell ⟨g,2,none⟩ c).setCell ⟨g,3,none⟩ d).setCell ⟨g,4,none⟩ e) :=
 ((((Wrt.set w g 0 a).trans (Wrt.set _ g 1 b) (fun _ _ h => h)).trans (Wrt.set _ g 2 c) (fun _ _ h => h)).trans (Wrt.set _ g 3 d) (fun _ _ h => h)).trans (Wrt.set _ g 4 e) (fun _ _ h => h)
theorem Bx.f5 {w : World} {B : Nat} {T : TypeId} {cs : Array Value} (h : Bx w B T cs) : w.frozen? ⟨B,0,none⟩ = false ∧ w.frozen? ⟨B,1,none⟩ = false ∧ w.frozen? ⟨B,2,none⟩ = false ∧ w.frozen? ⟨B,3,none⟩ = false ∧ w.frozen? ⟨B,4,none⟩ = false := ⟨h.f 0,h.f 1,h.f 2,h.f 3,h.f 4⟩
theorem MO.ans {w X : World} {o r : Nat} {A : Ma} {m : Mb} {fp : Fp} (h : MO w X o A m fp) (hr : w.heap.size ≤ r) (hro : r ≤ o) {a b c d e : Value} :
  NewL w (((((X.setCell ⟨r,0,none⟩ a).setCell ⟨r,1,none⟩ b).setCell ⟨r,2,none⟩ c).setCell ⟨r,3,none⟩ d).setCell ⟨r,4,none⟩ e) (mbCels m) (mbVals A m) :=
 ⟨fp,owL_wrt h.ls (wrt5 X r) (fun b hb e => by have := h.fpl b hb;omega),fun b hb => by have := h.fpl b hb;have := h.lo;omega,(wrt5 X r).below h.below h.below.size (fun b e => by omega)⟩
end Go.Proofs.YthioodpmgifomaaGreat
namespace Go.Proofs.YthioodpmgifomaaGreat
set_option linter.unusedVariables false
set_option linter.unusedSimpArgs false
open Go.RowKit Go.Sort
structure CR (w X : World) (O : Array Value) (cs : List Cel) (vs : List Value) (fp : Fp) : Prop where
 out : Bx X w.heap.size 37 O
 res : Bx X (w.heap.size + 1) 37 #[.int .i64 0,.slice none 0 0,.slice none 0 0,.slice none 0 0,.bool false,.bool false,.int .i64 0,.slice none 0 0]
 own : owL X cs vs fp
 fpl : ∀ b,fp b → w.heap.size + 1 < b
 below : Below w.heap.size w X
theorem CR.put {w X Z X' : World} {O : Array Value} {cs : List Cel} {vs : List Value} {fp f : Fp} {c : Cel} {v : Value} (h : CR w X O cs vs fp) (hbZ : Below X.heap.size X Z) (hw : Wrt (fun _ => False) Z X') (ho : Cel.ow X' c v f) (hf : ∀ b,f b → b = Z.heap.size) (i : Nat) :
  CR w X' O cs vs fp ∧ ∃ fp',CR w (X'.setCell ⟨w.heap.size,i,none⟩ v) (O.setIfInBounds i v) (cs ++ [c]) (vs ++ [v]) fp' := by
 have hb : Below X.heap.size X X' := hw.below hbZ hbZ.size (fun b h => absurd h id)
 have hol := h.res.lt
 have hZ := hbZ.size
 have h1 : CR w X' O cs vs fp := ⟨h.out.below hb,h.res.below hb,owL_below h.own hb,h.fpl,h.below.trans (hb.mono h.below.size)⟩
 refine ⟨h1,fun b => fp b ∨ f b,h1.out.setC i v,h1.res.far (by omega) v,owL_wrt (owL_append h1.own (owL_one.2 ho) (fun b h2 h3 => by have := owL_lt h.own b h2;have := hf b h3;omega)) (Wrt.set X' w.heap.size i v) (fun b hb e => ?_),fun b hb => ?_,h1.below.setCell (p := ⟨w.heap.size,i,none⟩) (Nat.le_refl _) v⟩
 ·rcases hb with hb | hb
  ·have := h.fpl b hb;omega
  ·have := hf b hb;omega
 ·rcases hb with hb | hb
  ·exact h.fpl b hb
  ·have := hf b hb;omega
theorem CR.ints {w X : World} {O : Array Value} {cs : List Cel} {vs : List Value} {fp : Fp} (h : CR w X O cs vs fp) {x : Option Addr} {c : Nat} {l : List Int} (hv : Vec w x l.length l) (hl : l.length ≤ 1000000) (i : Nat) (o : Value) (hi : O[i]? = some o) (i0 : TypeInfo) (hi0 : Tryz.prog.info? 2 = some i0) (hz0 : i0.zero = some (.int .i64 0)) (hz1 : i0.size = 1) (hz2 : i0.bytes = 8) :
  ∀ Z,Same Z (X.alloc (.cells #[] 2)) → ∃ v' w4,(Builtin.append_ #[25,25] 25 #[.slice (some ⟨X.heap.size,0,none⟩) 0 0,.slice x l.length c]).run Tryz.prog Z = .ok v' w4 ∧
   ∃ a' c',v' = .slice a' l.length c' ∧ w4.cell? ⟨w.heap.size,i,none⟩ = some o ∧ w4.frozen? ⟨w.heap.size,i,none⟩ = false ∧ ∃ fp',CR w (w4.setCell ⟨w.heap.size,i,none⟩ (.slice a' l.length c')) (O.setIfInBounds i (.slice a' l.length c')) (cs ++ [icl l]) (vs ++ [.slice a' l.length c']) fp' := by
 intro Z hZ
 have hbZ : Below X.heap.size X Z := (oneA16 X _).trans (hZ.below.mono (oneA16 X _).size)
 obtain ⟨a6,c6,w6,fp6,hr6,ho6,hw6,hf6⟩ := ints_copied (P := Tryz.prog) (w := Z) 25 25 2 i0 Tryz.underlying25 hi0 hz0 hz1 hz2 (plainS X.heap.size 0) (x := x) (c := c) (hv.below (h.below.trans (hbZ.mono h.below.size)) (Nat.le_refl _)) hl
 obtain ⟨h1,fp',h2⟩ := h.put hbZ hw6 ho6 hf6 i
 exact ⟨_,w6,hr6,a6,c6,rfl,h1.out.at i hi,h1.out.f i,fp',h2⟩
theorem CR.txts {w X : World} {O : Array Value} {cs : List Cel} {vs : List Value} {fp : Fp} (h : CR w X O cs vs fp) {x : Option Addr} {c : Nat} {l : List (List UInt8)} (hv : TxS w x l) (hl : l.length ≤ 1000000) (i : Nat) (o : Value) (hi : O[i]? = some o) (i0 : TypeInfo) (hi0 : Tryz.prog.info? 9 = some i0) (hz0 : i0.zero = some (.string ⟨#[]⟩)) (hz1 : i0.size = 1) (hz2 : i0.bytes = 16) :
  ∀ Z,Same Z (X.alloc (.cells #[] 9)) → ∃ v' w4,(Builtin.append_ #[35,35] 35 #[.slice (some ⟨X.heap.size,0,none⟩) 0 0,.slice x l.length c]).run Tryz.prog Z = .ok v' w4 ∧
   ∃ a' c',v' = .slice a' l.length c' ∧ w4.cell? ⟨w.heap.size,i,none⟩ = some o ∧ w4.frozen? ⟨w.heap.size,i,none⟩ = false ∧ ∃ fp',CR w (w4.setCell ⟨w.heap.size,i,none⟩ (.slice a' l.length c')) (O.setIfInBounds i (.slice a' l.length c')) (cs ++ [scl l]) (vs ++ [.slice a' l.length c']) fp' := by
 intro Z hZ
 have hbZ : Below X.heap.size X Z := (oneA16 X _).trans (hZ.below.mono (oneA16 X _).size)
 obtain ⟨a6,c6,w6,fp6,hr6,ho6,hw6,hf6⟩ := txs_copied (P := Tryz.prog) (w := Z) 35 35 9 i0 Tryz.underlying35 hi0 hz0 hz1 hz2 (plainS X.heap.size 0) (x := x) (c := c) (hv.below (h.below.trans (hbZ.mono h.below.size))) (by omega)
 obtain ⟨h1,fp',h2⟩ := h.put hbZ hw6 ho6 hf6 i
 exact ⟨_,w6,hr6,a6,c6,rfl,h1.out.at i hi,h1.out.f i,fp',h2⟩
attribute [local irreducible] sv
set_option maxRecDepth 100000 in
set_option maxHeartbeats 3200000 in
theorem cpyRw_any (A : Ra) (r : Rw) (w : World) (hv : RwS w A r) (h1 : r.txt.length ≤ 1000000) (h2 : r.got.length ≤ 1000000) (h3 : r.sus.length ≤ 1000000) (h4 : r.trm.length ≤ 1000000) :
  Calls Tryz.prog 127 #[rwV A r] w fun e w' => AnsRw w w' e r := by
 obtain ⟨i0,hi0,hz0,hz1,hz2⟩ := info_parts9 Tryz.info9
 obtain ⟨i2,hi2,hy0,hy1,hy2⟩ := info_parts2n Tryz.info2n
 have HV : Hid (RwS w A r) := hv
 have T0 : CR w ((w.alloc (.cells (rwC A r) 37)).alloc (.cells #[.int .i64 0,.slice none 0 0,.slice none 0 0,.slice none 0 0,.bool false,.bool false,.int .i64 0,.slice none 0 0] 37)) (rwC A r) [] [] (fun _ => False) := by
  have x1 := Bx.new (w.alloc (.cells (rwC A r) 37)) 37 #[.int .i64 0,.slice none 0 0,.slice none 0 0,.slice none 0 0,.bool false,.bool false,.int .i64 0,.slice none 0 0]
  rw [World.size_alloc] at x1
  exact ⟨(Bx.new w _ _).alloc _,x1,⟨rfl,fun _ h => h⟩,fun b h => absurd h id,(oneA16 w _).trans ((oneA16 _ _).mono (oneA16 w _).size)⟩
 obtain ⟨ver,txt,got,sus,wed,rdy,by_,trm⟩ := r
 obtain ⟨ta,tc,ga,gc,sa,sc,ma,mc⟩ := A
 unfold rwV
 unfold rwC at *
 simp only at *
 generalize hWW : (w.alloc (.cells #[.int .i64 ver,.slice ta txt.length tc,.slice ga got.length gc,.slice sa sus.length sc,.bool wed,.bool rdy,.int .i64 by_,.slice ma trm.length mc] 37)).alloc (.cells #[.int .i64 0,.slice none 0 0,.slice none 0 0,.slice none 0 0,.bool false,.bool false,.int .i64 0,.slice none 0 0] 37) = W at *
 have hA := T0.txts (x := ta) (c := tc) (l := txt) HV.out.txt h1 1 (.slice ta txt.length tc) rfl i0 hi0 hz0 hz1 hz2
 have c1 : W.cell? ⟨w.heap.size,1,none⟩ = some (.slice ta txt.length tc) := T0.out.at 1 rfl
 have d1 : (W.alloc (.cells #[] 9)).cell? ⟨w.heap.size,1,none⟩ = some (.slice ta txt.length tc) := (T0.out.below (oneA16 W (.cells #[] 9))).at 1 rfl
 clear T0
 clear hv
 go_enter Tryz.func127,Tryz.ntmps127
 go_upto_region 1 with fail
 go_upto_region 2 with (at_builtin;refine wpList_append_of (by rfl) _ _ _ _ (by rfl) _ _ (by rfl) (by rfl) hA ⟨rfl,rfl,rfl,rfl⟩ ?_;rintro v1 w1 ⟨a1,e1,rfl,q1a,q1b,fp1,hR1⟩;have HR1 : Hid (CR w (w1.setCell ⟨w.heap.size,1,none⟩ (.slice a1 txt.length e1)) (#[.int .i64 ver,.slice ta txt.length tc,.slice ga got.length gc,.slice sa sus.length sc,.bool wed,.bool rdy,.int .i64 by_,.slice ma trm.length mc].setIfInBounds 1 (.slice a1 txt.length e1)) ([] ++ [scl txt]) ([] ++ [.slice a1 txt.length e1]) fp1) := hR1;clear hR1 hA c1 d1)
 clear q1a q1b
 generalize w1.setCell ⟨w.heap.size,1,none⟩ (.slice a1 txt.length e1) = W1 at *
 have T1 : CR w W1 #[.int .i64 ver,.slice a1 txt.length e1,.slice ga got.length gc,.slice sa sus.length sc,.bool wed,.bool rdy,.int .i64 by_,.slice ma trm.length mc] ([] ++ [scl txt]) ([] ++ [.slice a1 txt.length e1]) fp1 := by simpa using HR1.out
 clear HR1
 have hA := T1.ints (x := ga) (c := gc) (l := got) HV.out.got h2 2 (.slice ga got.length gc) rfl i2 hi2 hy0 hy1 hy2
 have c2 : W1.cell? ⟨w.heap.size,2,none⟩ = some (.slice ga got.length gc) := T1.out.at 2 rfl
 have d2 : (W1.alloc (.cells #[] 2)).cell? ⟨w.heap.size,2,none⟩ = some (.slice ga got.length gc) := (T1.out.below (oneA16 W1 (.cells #[] 2))).at 2 rfl
 clear T1
 go_upto_region 3 with (at_builtin;refine wpList_append_of (by rfl) _ _ _ _ (by rfl) _ _ (by rfl) (by rfl) hA ⟨rfl,rfl,rfl,rfl⟩ ?_;rintro v2 w2 ⟨a2,e2,rfl,q2a,q2b,fp2,hR2⟩;have HR2 : Hid (CR w (w2.setCell ⟨w.heap.size,2,none⟩ (.slice a2 got.length e2)) (#[.int .i64 ver,.slice a1 txt.length e1,.slice ga got.length gc,.slice sa sus.length sc,.bool wed,.bool rdy,.int .i64 by_,.slice ma trm.length mc].setIfInBounds 2 (.slice a2 got.length e2)) (([] ++ [scl txt]) ++ [icl got]) (([] ++ [.slice a1 txt.length e1]) ++ [.slice a2 got.length e2]) fp2) := hR2;clear hR2 hA c2 d2)
 clear q2a q2b
 generalize w2.setCell ⟨w.heap.size,2,none⟩ (.slice a2 got.length e2) = W2 at *
 have T2 : CR w W2 #[.int .i64 ver,.slice a1 txt.length e1,.slice a2 got.length e2,.slice sa sus.length sc,.bool wed,.bool rdy,.int .i64 by_,.slice ma trm.length mc] (([] ++ [scl txt]) ++ [icl got]) (([] ++ [.slice a1 txt.length e1]) ++ [.slice a2 got.length e2]) fp2 := by simpa using HR2.out
 clear HR2
 have hA := T2.ints (x := sa) (c := sc) (l := sus) HV.out.sus h3 3 (.slice sa sus.length sc) rfl i2 hi2 hy0 hy1 hy2
 have c3 : W2.cell? ⟨w.heap.size,3,none⟩ = some (.slice sa sus.length sc) := T2.out.at 3 rfl
 have d3 : (W2.alloc (.cells #[] 2)).cell? ⟨w.heap.size,3,none⟩ = some (.slice sa sus.length sc) := (T2.out.below (oneA16 W2 (.cells #[] 2))).at 3 rfl
 clear T2
 go_upto_region 4 with (at_builtin;refine wpList_append_of (by rfl) _ _ _ _ (by rfl) _ _ (by rfl) (by rfl) hA ⟨rfl,rfl,rfl,rfl⟩ ?_;rintro v3 w3 ⟨a3,e3,rfl,q3a,q3b,fp3,hR3⟩;have HR3 : Hid (CR w (w3.setCell ⟨w.heap.size,3,none⟩ (.slice a3 sus.length e3)) (#[.int .i64 ver,.slice a1 txt.length e1,.slice a2 got.length e2,.slice sa sus.length sc,.bool wed,.bool rdy,.int .i64 by_,.slice ma trm.length mc].setIfInBounds 3 (.slice a3 sus.length e3)) ((([] ++ [scl txt]) ++ [icl got]) ++ [icl sus]) ((([] ++ [.slice a1 txt.length e1]) ++ [.slice a2 got.length e2]) ++ [.slice a3 sus.length e3]) fp3) := hR3;clear hR3 hA c3 d3)
 clear q3a q3b
 generalize w3.setCell ⟨w.heap.size,3,none⟩ (.slice a3 sus.length e3) = W3 at *
 have T3 : CR w W3 #[.int .i64 ver,.slice a1 txt.length e1,.slice a2 got.length e2,.slice a3 sus.length e3,.bool wed,.bool rdy,.int .i64 by_,.slice ma trm.length mc] ((([] ++ [scl txt]) ++ [icl got]) ++ [icl sus]) ((([] ++ [.slice a1 txt.length e1]) ++ [.slice a2 got.length e2]) ++ [.slice a3 sus.length e3]) fp3 := by simpa using HR3.out
 clear HR3
 have hA := T3.ints (x := ma) (c := mc) (l := trm) HV.out.trm h4 7 (.slice ma trm.length mc) rfl i2 hi2 hy0 hy1 hy2
 have c4 : W3.cell? ⟨w.heap.size,7,none⟩ = some (.slice ma trm.length mc) := T3.out.at 7 rfl
 have d4 : (W3.alloc (.cells #[] 2)).cell? ⟨w.heap.size,7,none⟩ = some (.slice ma trm.length mc) := (T3.out.below (oneA16 W3 (.cells #[] 2))).at 7 rfl
 clear T3
 go_upto_region 5 with (at_builtin;refine wpList_append_of (by rfl) _ _ _ _ (by rfl) _ _ (by rfl) (by rfl) hA ⟨rfl,rfl,rfl,rfl⟩ ?_;rintro v4 w4 ⟨a4,e4,rfl,q4a,q4b,fp4,hR4⟩;have HR4 : Hid (CR w (w4.setCell ⟨w.heap.size,7,none⟩ (.slice a4 trm.length e4)) (#[.int .i64 ver,.slice a1 txt.length e1,.slice a2 got.length e2,.slice a3 sus.length e3,.bool wed,.bool rdy,.int .i64 by_,.slice ma trm.length mc].setIfInBounds 7 (.slice a4 trm.length e4)) (((([] ++ [scl txt]) ++ [icl got]) ++ [icl sus]) ++ [icl trm]) (((([] ++ [.slice a1 txt.length e1]) ++ [.slice a2 got.length e2]) ++ [.slice a3 sus.length e3]) ++ [.slice a4 trm.length e4]) fp4) := hR4;clear hR4 hA c4 d4)
 clear q4a q4b
 generalize w4.setCell ⟨w.heap.size,7,none⟩ (.slice a4 trm.length e4) = W4 at *
 have T4 : CR w W4 #[.int .i64 ver,.slice a1 txt.length e1,.slice a2 got.length e2,.slice a3 sus.length e3,.bool wed,.bool rdy,.int .i64 by_,.slice a4 trm.length e4] (((([] ++ [scl txt]) ++ [icl got]) ++ [icl sus]) ++ [icl trm]) (((([] ++ [.slice a1 txt.length e1]) ++ [.slice a2 got.length e2]) ++ [.slice a3 sus.length e3]) ++ [.slice a4 trm.length e4]) fp4 := by simpa using HR4.out
 clear HR4
 obtain ⟨⟨o0,o1,o2,o3⟩,o4,o5,o6,o7⟩ := Bx.r8 T4.out
 obtain ⟨⟨r0,r1,r2,r3⟩,r4,r5,r6,r7⟩ := Bx.r8 T4.res
 obtain ⟨⟨f0,f1,f2,f3⟩,f4,f5,f6,f7⟩ := T4.res.f8
 have HT : Hid (CR w W4 #[.int .i64 ver,.slice a1 txt.length e1,.slice a2 got.length e2,.slice a3 sus.length e3,.bool wed,.bool rdy,.int .i64 by_,.slice a4 trm.length e4] (((([] ++ [scl txt]) ++ [icl got]) ++ [icl sus]) ++ [icl trm]) (((([] ++ [.slice a1 txt.length e1]) ++ [.slice a2 got.length e2]) ++ [.slice a3 sus.length e3]) ++ [.slice a4 trm.length e4]) fp4) := T4
 clear T4
 go_wp2
 refine bodyPost_ret (v := .agg #[.int .i64 ver,.slice a1 txt.length e1,.slice a2 got.length e2,.slice a3 sus.length e3,.bool wed,.bool rdy,.int .i64 by_,.slice a4 trm.length e4]) (by simp [results,Tryz.results127,go_sem, *]) rfl ?_
 refine ⟨⟨a1,e1,a2,e2,a3,e3,a4,e4⟩,rfl,fp4,owL_wrt HT.out.own (wrt8 _ (w.heap.size + 1)) (fun b hb e => by have := HT.out.fpl b hb;omega),fun b hb => by have := HT.out.fpl b hb;omega,(wrt8 _ (w.heap.size + 1)).below HT.out.below HT.out.below.size (fun b e => by rw [e];omega)⟩
end Go.Proofs.YthioodpmgifomaaGreat