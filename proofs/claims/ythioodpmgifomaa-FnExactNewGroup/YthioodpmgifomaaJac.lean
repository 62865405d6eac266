/-
  Texts in one: Mbw Grp Grq Mbx Mbm Mbk Tlr Tlt Mbo Rcy Mbc Mbf Gma Gmb Olx Gmc Gmd Grr Gme Gmf Gmg Mbn.
-/
import Derived.Test.YthioodpmgifomaaJab
import Derived.Test.YthioodpmgifomaaJaa
import Derived.BigQuiet
import Derived.StillTail
import Derived.OrdersHeld
import Derived.Deep.RegionHeld
import Derived.Deep.Cut
import Derived.Deep.CutRange
namespace Go.Proofs.Ythioodpmgifomaa
set_option linter.unusedVariables false
set_option linter.unusedSimpArgs false
open Go.RowKit Go.Sort
structure OkM (m : Mb) (i n : Nat) : Prop where
 hid : m.id = (i : Int)
 hn : m.n = (n : Int)
 n5 : 1 ≤ n ∧ n ≤ 5
 lt : i < n
 len : m.rows.length = n
 sl : m.sung.length ≤ 60
 ris : m.sung.Pairwise (· < ·)
 ok : ∀ j,j < n → OkR (rowN m.rows j) n
 sg : ∀ q,q < m.sung.length → (0 ≤ el m.sung q ∧ el m.sung q ≤ 59) ∧ (m.done = false → el m.sung q = (q : Int))
 gown : el (rowN m.rows i).got i = ((rowN m.rows i).txt.length : Int)
 self : (i : Int) ∉ (rowN m.rows i).sus
 dn : m.done = true → (rowN m.rows i).rdy = true
theorem rowN_mem {R : List Rw} {j : Nat} (h : j < R.length) : rowN R j ∈ R := by
 unfold rowN
 rw [List.getD_eq_getElem?_getD,List.getElem?_eq_getElem h]
 exact List.getElem_mem h
theorem mem_rowN {R : List Rw} {r : Rw} (h : r ∈ R) : ∃ j,j < R.length ∧ r = rowN R j := by
 obtain ⟨j,hj,rfl⟩ := List.mem_iff_getElem.1 h
 exact ⟨j,hj,by simp [rowN,hj]⟩
theorem okMb_iff {m : Mb} : okMb m = true ↔ ∃ i n,OkM m i n := by
 constructor
 ·intro h
  simp only [okMb,okSg,Bool.and_eq_true,decide_eq_true_eq,List.all_eq_true,List.mem_range,Bool.or_eq_true] at h
  obtain ⟨h1,h2,h3,h4,h5,h6,h7,h8,h9,h10⟩ := h
  have h1 := inB7.1 h1
  have h2 := inB7.1 h2
  have hid : m.id = ((m.id.toNat : Nat) : Int) := by omega
  have hn : m.n = ((m.n.toNat : Nat) : Int) := by omega
  refine ⟨m.id.toNat,m.n.toNat,hid,hn,by omega,by omega,by omega,h4,ris_iff.1 h5,fun j hj => okRw_iff.1 (by rw [← hn];exact h6 _ (rowN_mem (by omega))),fun q hq => ?_,h8,by rw [← hid];exact h9,fun hd => ?_⟩
  ·obtain ⟨q1,q2⟩ := h7 q hq
   have := inB7.1 q1
   refine ⟨this,fun hd => ?_⟩
   rcases q2 with q2 | q2
   ·rw [hd] at q2;cases q2
   ·exact q2
  ·rw [hd] at h10
   have h11 : m.own.rdy = true := by simpa using h10
   exact h11
 ·rintro ⟨i,n,M⟩
  have hlt := M.lt
  have hn5 := M.n5
  have hi : m.i = i := by rw [Mb.i,M.hid];rfl
  simp only [okMb,okSg,Bool.and_eq_true,decide_eq_true_eq,List.all_eq_true,List.mem_range,Bool.or_eq_true]
  refine ⟨inB7.2 (by rw [M.hn];omega),inB7.2 (by rw [M.hid,M.hn];omega),by rw [M.len,M.hn],M.sl,ris_iff.2 M.ris,fun r hr => ?_,fun q hq => ?_, ?_, ?_, ?_⟩
  ·obtain ⟨j,hj,rfl⟩ := mem_rowN hr
   rw [M.hn]
   exact okRw_iff.2 (M.ok j (by rw [← M.len];exact hj))
  ·obtain ⟨q1,q2⟩ := M.sg q hq
   refine ⟨inB7.2 q1, ?_⟩
   cases hd : m.done with
   | true => exact .inl rfl
   | false => exact .inr (q2 hd)
  ·rw [Mb.own,hi];exact M.gown
  ·rw [Mb.own,hi,M.hid];exact M.self
  ·cases hd : m.done with
   | false => exact .inl rfl
   | true => exact .inr (by rw [Mb.own,hi];exact M.dn hd)
end Go.Proofs.Ythioodpmgifomaa
namespace Go.Proofs.Ythioodpmgifomaa
set_option linter.unusedVariables false
set_option linter.unusedSimpArgs false
open Go.RowKit Go.Sort
structure Ml where
 fr : Int
 «to» : Int
 row : Rw
structure Gr where
 mem : List Mb
 up : List Bool
 mail : List Ml
def zeroGr : Gr := ⟨[],[],[]⟩
def memN (g : Gr) (i : Nat) : Mb := g.mem.getD i zeroMb
def newGr (n : Int) : Gr × Bool := if inB n 1 5 = true then (⟨(List.range n.toNat).map (fun (i : Nat) => (newMb (i : Int) n).1),List.replicate n.toNat true,[]⟩,true) else (zeroGr,false)
def okMl (x : Ml) (n : Int) : Bool := inB x.fr 0 (n - 1) && (inB x.to 0 (n - 1) && (decide (x.fr ≠ x.to) && okRw x.row n))
def okGr (g : Gr) : Bool :=
 decide (1 ≤ g.mem.length) && (decide (g.mem.length ≤ 5) && (decide (g.up.length = g.mem.length) && (decide (g.mail.length ≤ 200) &&
  ((List.range g.mem.length).all (fun i => okMb (memN g i) && (decide ((memN g i).id = (i : Int)) && decide ((memN g i).n = (g.mem.length : Int)))) && g.mail.all (fun x => okMl x (g.mem.length : Int))))))
def mailN (g : Gr) (i : Nat) : Ml := g.mail.getD i ⟨0,0,zeroRw⟩
structure GInv (n : Nat) (g : Gr) (h : Hs) (log : List Pp) : Prop where
 S : Story n h log
 n5 : 1 ≤ n ∧ n ≤ 5
 ml : g.mem.length = n
 ul : g.up.length = n
 mem : ∀ i,i < n → MInv n h i (memN g i)
 mails : ∀ x ∈ g.mail,∃ a b : Nat,x.fr = (a : Int) ∧ x.to = (b : Int) ∧ a < n ∧ b < n ∧ a ≠ b ∧ x.row ∈ h a ∧ OkR x.row n
 m200 : g.mail.length ≤ 200
def GOk (n : Nat) (g : Gr) : Prop := ∃ h log,GInv n g h log
theorem inB_nat {x : Int} {n : Nat} (h : inB x 0 ((n : Int) - 1) = true) : ∃ a : Nat,x = (a : Int) ∧ a < n := by
 have := inB7.1 h
 exact ⟨x.toNat,by omega,by omega⟩
end Go.Proofs.Ythioodpmgifomaa
namespace Go.Proofs.Ythioodpmgifomaa
set_option linter.unusedVariables false
set_option linter.unusedSimpArgs false
open Go.RowKit Go.Sort
theorem newRw_ok {n : Nat} (hn : 1 ≤ n ∧ n ≤ 5) : OkR (newRw (n : Int)) n ∧ newRw (n : Int) = ⟨0,[],List.replicate n 0,[],false,false,0,[]⟩ := by
 have e : newRw (n : Int) = ⟨0,[],List.replicate n 0,[],false,false,0,[]⟩ := by rw [newRw,if_pos (inB7.2 (by omega))];simp
 rw [e]
 have hg := (small_iff (v := List.replicate n 0) hn (by simp)).2 (fun j hj => by simp [el,List.getElem?_replicate,hj])
 exact ⟨⟨hn,by simp,by simp,fun t ht => (by cases ht),hg.1,by simp,hg.2,fun x hx => (by cases hx),by simp [risB],fun h => (by cases h),fun _ => ⟨rfl,rfl⟩⟩,rfl⟩
theorem newGr_ok {n : Nat} (hn : 1 ≤ n ∧ n ≤ 5) : GOk n (newGr (n : Int)).1 := by
 obtain ⟨ok,e⟩ := newRw_ok hn
 have hb : inB (n : Int) 1 5 = true := inB7.2 (by omega)
 have hmN : ∀ i,i < n → memN (newGr (n : Int)).1 i = ⟨(i : Int),(n : Int),List.replicate n (newRw (n : Int)),[],false⟩ := fun i hi => by
  rw [newGr,if_pos hb]
  unfold memN
  simp only [Int.toNat_natCast]
  rw [List.getD_eq_getElem?_getD,List.getElem?_map,List.getElem?_range hi]
  simp only [Option.map_some,Option.getD_some]
  rw [newMb,if_pos ⟨hb,inB7.2 (by omega)⟩]
  simp
 have hrow : ∀ j,j < n → rowN (List.replicate n (newRw (n : Int))) j = newRw (n : Int) := fun j hj => by simp [rowN,List.getElem?_replicate,hj]
 refine ⟨fun _ => [newRw (n : Int)],[],⟨fun j => List.pairwise_singleton _ _,fun j r hr hrd => ?_,fun j r hr hrd => ?_,trivial⟩,hn, ?_, ?_,fun i hi => ?_, ?_, ?_⟩
 ·rw [List.mem_singleton.1 hr,e] at hrd;cases hrd
 ·rw [List.mem_singleton.1 hr,e] at hrd;cases hrd
 ·rw [newGr,if_pos hb];simp
 ·rw [newGr,if_pos hb];simp
 ·rw [hmN i hi]
  refine ⟨rfl,rfl,hi,by simp,⟨[],by simp only [hrow i hi]⟩,fun j hj => by simp only [hrow j hj];exact List.mem_singleton.2 rfl,fun j hj => by simp only [hrow j hj];exact ok,by simp only [hrow i hi];rw [e];simp,fun j hj => ?_, ?_,fun _ => ⟨by simp,fun q hq => by simp at hq⟩,fun h => by cases h⟩
  ·simp only [hrow i hi,hrow j hj];rw [e];simp [el,List.getElem?_replicate,hj]
  ·simp only [hrow i hi];rw [e];simp [el,List.getElem?_replicate,hi]
 ·rw [newGr,if_pos hb];intro x hx;cases hx
 ·rw [newGr,if_pos hb];simp
theorem wov_nn {T : List Int} {n : Nat} (hl : T.length = n) (hn : n ≤ 5) {x : Int} (hx : x ∈ wovs T 12) : ∃ q : Nat,x = (q : Int) ∧ q < 12 * n := by
 obtain ⟨k,i,h1,h2,h3,h4⟩ := mem_wovs.1 hx
 rw [hl] at h2 h4
 refine ⟨n * k + i,by rw [h4];push_cast;rfl, ?_⟩
 have : n * k ≤ n * 11 := Nat.mul_le_mul_left n (by omega)
 omega
end Go.Proofs.Ythioodpmgifomaa
namespace Go.Proofs.Ythioodpmgifomaa
set_option linter.unusedVariables false
set_option linter.unusedSimpArgs false
open Go.RowKit Go.Sort
theorem ris_ge : ∀ {l : List Int} {a : Int},l.Pairwise (· < ·) → (∀ x ∈ l,a ≤ x) → ∀ q,q < l.length → a + (q : Int) ≤ el l q
 | x :: l,a,h,hx,0,_ => by
  have := hx x List.mem_cons_self
  simpa [el] using this
 | x :: l,a,h,hx,q + 1,hq => by
  have h1 := List.pairwise_cons.1 h
  have hxa := hx x List.mem_cons_self
  have ih := ris_ge (l := l) (a := a + 1) h1.2 (fun y hy => by have := h1.1 y hy;omega) q (by simp at hq;omega)
  have e : el (x :: l) (q + 1) = el l q := by simp [el]
  rw [e]
  push_cast
  omega
theorem ris_short {l : List Int} {k : Nat} (h : l.Pairwise (· < ·)) (hx : ∀ x ∈ l,0 ≤ x ∧ x < (k : Int)) : l.length ≤ k := by
 refine Classical.byContradiction fun hn => ?_
 have h1 := ris_ge h (fun x hx2 => (hx x hx2).1) (l.length - 1) (by omega)
 have h2 := (hx _ (el_mem (i := l.length - 1) (xs := l) (by omega))).2
 omega
theorem new_okM {id n : Int} (h : (newMb id n).2 = true) : okMb (newMb id n).1 = true := by
 unfold newMb at h ⊢
 split at h
 ·rename_i hc
  rw [if_pos hc]
  have h1 := inB7.1 hc.1
  have h2 := inB7.1 hc.2
  have hid : id = ((id.toNat : Nat) : Int) := by omega
  have hn : n = ((n.toNat : Nat) : Int) := by omega
  have hlt : id.toNat < n.toNat := by omega
  obtain ⟨ok,e⟩ := newRw_ok (n := n.toNat) (by omega)
  rw [← hn] at ok e
  have hr : ∀ j,j < n.toNat → rowN (List.replicate n.toNat (newRw n)) j = newRw n := fun j hj => by simp [rowN,List.getElem?_replicate,hj]
  refine okMb_iff.2 ⟨id.toNat,n.toNat,hid,hn,by omega,hlt,by simp,by simp,List.Pairwise.nil,fun j hj => ?_,fun q hq => (by simp at hq), ?_, ?_,fun h => (by cases h)⟩
  ·simp only [hr j hj];exact ok
  ·simp only [hr _ hlt]
   rw [e]
   simp [el,List.getElem?_replicate,hlt]
  ·simp only [hr _ hlt]
   rw [e]
   simp
 ·cases h
end Go.Proofs.Ythioodpmgifomaa
namespace Go.Proofs.Ythioodpmgifomaa
set_option linter.unusedVariables false
set_option linter.unusedSimpArgs false
open Go.RowKit Go.Sort
def Pv (w : World) (B o : Nat) (cs : List Cel) : Prop := ∃ vs,(∀ j,j < vs.length → w.cell? ⟨B,o + j,none⟩ = vs[j]?) ∧ vwL w cs vs
theorem Pv.at {w : World} {B o : Nat} {cs : List Cel} (h : Pv w B o cs) {j : Nat} {c : Cel} (hj : cs[j]? = some c) : ∃ u,w.cell? ⟨B,o + j,none⟩ = some u ∧ Cel.vw w c u := by
 obtain ⟨vs,h1,h2⟩ := h
 obtain ⟨u,hu,hv⟩ := vwL_at h2 hj
 refine ⟨u,(h1 j ?_).trans hu,hv⟩
 rcases Nat.lt_or_ge j vs.length with h | h
 ·exact h
 ·rw [List.getElem?_eq_none h] at hu;cases hu
theorem vwL_split {w : World} : ∀ {cs ds : List Cel} {ws : List Value},vwL w (cs ++ ds) ws → ∃ us vs,ws = us ++ vs ∧ vwL w cs us ∧ vwL w ds vs
 | [],ds,ws,h => ⟨[],ws,rfl,rfl,h⟩
 | c :: cs,ds,ws,h => by
  obtain ⟨u,us',rfl,h1,h2⟩ := h
  obtain ⟨us,vs,rfl,h3,h4⟩ := vwL_split h2
  exact ⟨u :: us,vs,rfl,⟨u,us,rfl,h1,h3⟩,h4⟩
theorem vw_elF {α : Type} {F : α → List Cel} {s : Nat} (hF : ∀ x,(F x).length = s) {w : World} {a : Option Addr} {c : Nat} {L : List α} (h : Cel.vw w (lcl s F L) (.slice a L.length c)) {k : Nat} {x : α} (hk : L[k]? = some x) : ∃ g off,a = some ⟨g,off,none⟩ ∧ Pv w g (off + k * s) (F x) := by
 obtain ⟨a0,c0,us,e0,h1,h2,h3,h4,h5⟩ := h
 cases e0
 have hkl : k < L.length := by
  rcases Nat.lt_or_ge k L.length with h | h
  ·exact h
  ·rw [List.getElem?_eq_none h] at hk;cases hk
 rcases h4 with h4 | ⟨b,off,rfl,hc⟩
 ·omega
 have hks : k * s + s ≤ L.length * s := by
  have : (k + 1) * s ≤ L.length * s := Nat.mul_le_mul_right s hkl
  rw [Nat.add_mul,Nat.one_mul] at this
  exact this
 have e1 : L.flatMap F = (L.flatMap F).take (k * s) ++ (((L.flatMap F).drop (k * s)).take s ++ (L.flatMap F).drop (k * s + s)) := by
  rw [← List.drop_drop,List.take_append_drop,List.take_append_drop]
 rw [e1] at h5
 obtain ⟨u1,u23,rfl,l1,l23⟩ := vwL_split h5
 obtain ⟨u2,u3,rfl,l2,l3⟩ := vwL_split l23
 rw [flat_take hF hk] at l2
 have hd := flat_len hF L
 have n1 : u1.length = k * s := by rw [vwL_len l1,List.length_take];omega
 have n2 : u2.length = s := by rw [vwL_len l2,hF]
 refine ⟨b,off,rfl,u2,fun j hj => ?_,l2⟩
 rw [Nat.add_assoc,hc (k * s + j) (by omega),List.getElem?_append_right (by omega),List.getElem?_append_left (by omega),n1]
 congr 1
 omega
def rw8 (r : Rw) : List Cel := [.v (.int .i64 r.ver),scl r.txt,icl r.got,icl r.sus,.v (.bool r.wed),.v (.bool r.rdy),.v (.int .i64 r.by_),icl r.trm]
theorem rw8_len (r : Rw) : (rw8 r).length = 8 := rfl
def C8 (w : World) (g o : Nat) (x0 x1 x2 x3 x4 x5 x6 x7 : Value) : Prop := (w.cell? ⟨g,o,none⟩ = some x0 ∧ w.cell? ⟨g,o + 1,none⟩ = some x1 ∧ w.cell? ⟨g,o + 2,none⟩ = some x2 ∧ w.cell? ⟨g,o + 3,none⟩ = some x3) ∧ w.cell? ⟨g,o + 4,none⟩ = some x4 ∧ w.cell? ⟨g,o + 5,none⟩ = some x5 ∧ w.cell? ⟨g,o + 6,none⟩ = some x6 ∧ w.cell? ⟨g,o + 7,none⟩ = some x7
theorem Pv.row {w : World} {g o : Nat} {r : Rw} (h : Pv w g o (rw8 r)) (hf : FitR r) : ∃ A : Ra,C8 w g o (.int .i64 r.ver) (.slice A.ta r.txt.length A.tc) (.slice A.ga r.got.length A.gc) (.slice A.sa r.sus.length A.sc) (.bool r.wed) (.bool r.rdy) (.int .i64 r.by_) (.slice A.ma r.trm.length A.mc) ∧ RwS w A r := by
 obtain ⟨u0,c0,rfl⟩ := h.at (j := 0) rfl
 obtain ⟨u1,c1,v1⟩ := h.at (j := 1) rfl
 obtain ⟨u2,c2,v2⟩ := h.at (j := 2) rfl
 obtain ⟨u3,c3,v3⟩ := h.at (j := 3) rfl
 obtain ⟨u4,c4,rfl⟩ := h.at (j := 4) rfl
 obtain ⟨u5,c5,rfl⟩ := h.at (j := 5) rfl
 obtain ⟨u6,c6,rfl⟩ := h.at (j := 6) rfl
 obtain ⟨u7,c7,v7⟩ := h.at (j := 7) rfl
 obtain ⟨ta,tc,rfl,t1,t2,t3⟩ := vw_scl v1
 obtain ⟨ga,gc,rfl,g1,g2,g3⟩ := vw_icl v2 hf.1
 obtain ⟨sa,sc,rfl,s1,s2,s3⟩ := vw_icl v3 hf.2.1
 obtain ⟨ma,mc,rfl,m1,m2,m3⟩ := vw_icl v7 hf.2.2
 exact ⟨⟨ta,tc,ga,gc,sa,sc,ma,mc⟩,⟨⟨c0,c1,c2,c3⟩,c4,c5,c6,c7⟩,t1,g1,s1,m1,by omega,by omega,by omega,by omega⟩
structure Ma where
 ra : Option Addr
 rc : Nat
 sa : Option Addr
 sc : Nat
def mbC (A : Ma) (m : Mb) : Array Value := #[.int .i64 m.id,.int .i64 m.n,.slice A.ra m.rows.length A.rc,.slice A.sa m.sung.length A.sc,.bool m.done]
def mbV (A : Ma) (m : Mb) : Value := .agg (mbC A m)
def mbCels (m : Mb) : List Cel := [lcl 8 rw8 m.rows,icl m.sung]
def mbVals (A : Ma) (m : Mb) : List Value := [.slice A.ra m.rows.length A.rc,.slice A.sa m.sung.length A.sc]
def mb5 (m : Mb) : List Cel := [.v (.int .i64 m.id),.v (.int .i64 m.n),lcl 8 rw8 m.rows,icl m.sung,.v (.bool m.done)]
theorem mb5_len (m : Mb) : (mb5 m).length = 5 := rfl
def FitM (m : Mb) : Prop := (∀ r ∈ m.rows,FitR r) ∧ Fits m.sung
structure MbS (w : World) (A : Ma) (m : Mb) : Prop where
 rows : Cel.vw w (lcl 8 rw8 m.rows) (.slice A.ra m.rows.length A.rc)
 sung : Vec w A.sa m.sung.length m.sung
 mr : m.rows.length ≤ maxLen
 ms : m.sung.length ≤ maxLen
 fit : ∀ r ∈ m.rows,FitR r
theorem MbS.below {w w' : World} {A : Ma} {m : Mb} (h : MbS w A m) (hb : Below w.heap.size w w') : MbS w' A m := ⟨Cel.vw_below h.rows hb,h.sung.below hb (Nat.le_refl _),h.mr,h.ms,h.fit⟩
theorem mbs_of {w : World} {A : Ma} {m : Mb} (h : vwL w (mbCels m) (mbVals A m)) (hf : FitM m) : MbS w A m := by
 obtain ⟨u1,us1,e1,h1,h2⟩ := h
 cases e1
 obtain ⟨u2,us2,e2,h3,_⟩ := h2
 cases e2
 obtain ⟨a,c,e,h4,h5,h6⟩ := vw_icl h3 hf.2
 cases e
 have k := h1
 obtain ⟨_,_,_,e,k1,k2,_⟩ := k
 cases e
 exact ⟨h1,h4,by omega,by omega,hf.1⟩
end Go.Proofs.Ythioodpmgifomaa
namespace Go.Proofs.Ythioodpmgifomaa
set_option linter.unusedVariables false
set_option linter.unusedSimpArgs false
open Go.RowKit Go.Sort
theorem Bx.r5 {w : World} {B : Nat} {T : TypeId} {x0 x1 x2 x3 x4 : Value} (h : Bx w B T #[x0,x1,x2,x3,x4]) : w.cell? ⟨B,0,none⟩ = some x0 ∧ w.cell? ⟨B,1,none⟩ = some x1 ∧ w.cell? ⟨B,2,none⟩ = some x2 ∧ w.cell? ⟨B,3,none⟩ = some x3 ∧ w.cell? ⟨B,4,none⟩ = some x4 :=
 ⟨h.at 0 rfl,h.at 1 rfl,h.at 2 rfl,h.at 3 rfl,h.at 4 rfl⟩
theorem rowN_at {R : List Rw} {k : Nat} (hk : k < R.length) : R[k]? = some (rowN R k) := by simp [rowN,List.getD,hk]
end Go.Proofs.Ythioodpmgifomaa
namespace Go.Proofs.Ythioodpmgifomaa
set_option linter.unusedSimpArgs false
set_option linter.unusedVariables false
open Go.RowKit Go.Sort
section
variable {P : Program} {ops : Array Oper} {Q : Exit → Act → World → Prop} {md : Region.Mode} {S : World → Prop}
def wpAnyT (P : Program) (md : Region.Mode) (ops : Array Oper) (Q : Exit → Act → World → Prop) (S : World → Prop) (z : Nat) : Nat → Array Bool → Act → World → Prop
 | 0,listed,a,w => Region.ready md ops listed = [] ∧ Q .normal a w
 | fuel + 1,listed,a,w =>
  (Region.ready md ops listed = [] → Q .normal a w) ∧
  ∀ i ∈ Region.ready md ops listed,wpOp P ops Q i (fun a' w' => (i ≠ z → S w → S w') ∧ wpAnyT P md ops Q S z fuel (listed.setIfInBounds i true) a' w') a w
theorem wpAny_of_T {z : Nat} : ∀ (fuel : Nat) (listed : Array Bool) (a : Act) (w : World),wpAnyT P md ops Q S z fuel listed a w → wpAny P md ops Q fuel listed a w
 | 0,_,_,_,h => h
 | fuel + 1,_,_,_,h => ⟨h.1,fun i hi => wpOp_mono (fun a' w' h' => wpAny_of_T fuel _ a' w' h'.2) (h.2 i hi)⟩
theorem wpAnyT_first {i z : Nat} {oi : Oper} {v : Value} (hi : ops[i]? = some oi) (hsel : ∀ (j : Nat) (o : Oper) cs b,ops[j]? = some o → o.op ≠ .select cs b)
  (hQ : ∀ c a w,Q (.panic c) (a.put oi.dst v) w → Q (.panic c) a w) (hz : Region.waitsFor md ops z i = true) (hiz : i ≠ z) :
  ∀ (fuel : Nat) (listed : Array Bool) (a : Act) (w : World),
   (∀ j oj,ops[j]? = some oj → j ≠ i → listed.getD j true = false → (∀ e ∈ oj.after,Region.binds md e = true → e.on ≠ i) → oi.apart ops oj = true) →
   i ∈ Region.ready md ops listed → YieldsIf P ops S oi v a → S w →
   wpAnyT P md ops Q S z fuel (listed.setIfInBounds i true) (a.put oi.dst v) w → wpAnyT P md ops Q S z (fuel + 1) listed a w := by
 intro fuel
 induction fuel with
 | zero =>
  intro listed a w _ hr hy hS H
  refine ⟨fun h => (by rw [h] at hr;cases hr),fun j hj => ?_⟩
  by_cases hji : j = i
  ·subst hji;exact hy.wpOp hi hS ⟨fun _ h => h,H⟩
  ·have := ready_mono hj hji
   rw [H.1] at this
   cases this
 | succ fuel ih =>
  intro listed a w hfree hr hy hS H
  have hun := (mem_ready.1 hr).1
  refine ⟨fun h => (by rw [h] at hr;cases hr),fun j hj => ?_⟩
  by_cases hji : j = i
  ·subst hji;exact hy.wpOp hi hS ⟨fun _ h => h,H⟩
  ·obtain ⟨hjun,oj,hoj,hall⟩ := mem_ready.1 hj
   have hnot : ∀ e ∈ oj.after,Region.binds md e = true → e.on ≠ i := fun e he hb heq => by
    have h3 := hall e he hb
    rw [heq,getD_both hun] at h3
    cases h3
   have hjz : j ≠ z := fun e => by
    subst e
    obtain ⟨o',ho',e,he,hb,hon⟩ := Region.waitsFor_spec hz
    have : o' = oj := Option.some.inj (ho'.symm.trans hoj)
    subst this
    exact hnot e he hb hon
   have h1 := H.2 j (ready_mono hj hji)
   have h2 := wpOp_putIf hoj (hfree j oj hoj hji hjun hnot) (fun cs b => hsel i oi cs b hi) (fun cs b => hsel j oj cs b hoj) hQ hy h1
   have hfree' : ∀ k ok,ops[k]? = some ok → k ≠ i → (listed.setIfInBounds j true).getD k true = false →
     (∀ e ∈ ok.after,Region.binds md e = true → e.on ≠ i) → oi.apart ops ok = true := fun k ok hk hki hun hno => by
    refine hfree k ok hk hki ?_ hno
    by_cases hjk : j = k
    ·subst hjk;exact hjun
    ·rw [getD_set_ne true hjk] at hun;exact hun
   refine wpOp_mono (fun a' w' h3 => ⟨h3.2.1,ih (listed.setIfInBounds j true) a' w' hfree' (ready_mono hr (Ne.symm hji)) h3.1 (h3.2.1 hjz hS) ?_⟩) h2
   rw [Array.setIfInBounds_comm _ _ hji]
   exact h3.2.2
theorem wpAnyT_pure {i z : Nat} {oi : Oper} {v : Value} (hi : ops[i]? = some oi) (hsel : ∀ (j : Nat) (o : Oper) cs b,ops[j]? = some o → o.op ≠ .select cs b)
  (hQ : ∀ c a w,Q (.panic c) (a.put oi.dst v) w → Q (.panic c) a w) :
  ∀ (fuel : Nat) (listed : Array Bool) (a : Act) (w : World),
   (∀ j oj,ops[j]? = some oj → j ≠ i → listed.getD j true = false → (∀ e ∈ oj.after,Region.binds md e = true → e.on ≠ i) → oi.apart ops oj = true) →
   i ∈ Region.ready md ops listed → Yields P ops oi v a →
   wpAnyT P md ops Q S z fuel (listed.setIfInBounds i true) (a.put oi.dst v) w → wpAnyT P md ops Q S z (fuel + 1) listed a w := by
 intro fuel
 induction fuel with
 | zero =>
  intro listed a w _ hr hy H
  refine ⟨fun h => (by rw [h] at hr;cases hr),fun j hj => ?_⟩
  by_cases hji : j = i
  ·subst hji;exact hy.wpOp hi ⟨fun _ h => h,H⟩
  ·have := ready_mono hj hji
   rw [H.1] at this
   cases this
 | succ fuel ih =>
  intro listed a w hfree hr hy H
  have hun := (mem_ready.1 hr).1
  refine ⟨fun h => (by rw [h] at hr;cases hr),fun j hj => ?_⟩
  by_cases hji : j = i
  ·subst hji;exact hy.wpOp hi ⟨fun _ h => h,H⟩
  ·obtain ⟨hjun,oj,hoj,hall⟩ := mem_ready.1 hj
   have hnot : ∀ e ∈ oj.after,Region.binds md e = true → e.on ≠ i := fun e he hb heq => by
    have h3 := hall e he hb
    rw [heq,getD_both hun] at h3
    cases h3
   have h1 := H.2 j (ready_mono hj hji)
   have h2 := wpOp_put hoj (hfree j oj hoj hji hjun hnot) (fun cs b => hsel i oi cs b hi) (fun cs b => hsel j oj cs b hoj) hQ hy h1
   have hfree' : ∀ k ok,ops[k]? = some ok → k ≠ i → (listed.setIfInBounds j true).getD k true = false →
     (∀ e ∈ ok.after,Region.binds md e = true → e.on ≠ i) → oi.apart ops ok = true := fun k ok hk hki hun hno => by
    refine hfree k ok hk hki ?_ hno
    by_cases hjk : j = k
    ·subst hjk;exact hjun
    ·rw [getD_set_ne true hjk] at hun;exact hun
   refine wpOp_mono (fun a' w' h3 => ⟨h3.2.1,ih (listed.setIfInBounds j true) a' w' hfree' (ready_mono hr (Ne.symm hji)) h3.1 ?_⟩) h2
   rw [Array.setIfInBounds_comm _ _ hji]
   exact h3.2.2
end
section
variable {P : Program} {l : List Oper} {Q : Exit → Act → World → Prop} {S : World → Prop}
def GT (P : Program) (l : List Oper) (Q : Exit → Act → World → Prop) (S : World → Prop) (z fuel : Nat) (listed : Array Bool) (a : Act) (w : World) : Prop := wpAnyT P .any l.toArray Q S z fuel listed a w
theorem gt_begin {id : Nat} {a : Act} {w : World} (z : Nat) (hm : P.follows .mixedOrders = true) (hlen : (l.length == l.length) = true)
  (h : GT P l Q S z l.length (Array.replicate l.length false) a w.drew) : (Code.region id l.toArray true).wp P Q a w := by
 refine wp_region_any hm (wpAny_of_T (z := z) (S := S) _ _ _ _ ?_)
 unfold GT at h
 simpa using h
theorem gt_take {i z : Nat} {oi : Oper} {v : Value} {fuel : Nat} {listed : Array Bool} {a : Act} {w : World} (hi : l[i]? = some oi) (hs : Region.noSelect l.toArray = true)
  (hsk : (Region.waitsFor .any l.toArray z i && (i != z)) = true) (hf : Region.free .any l.toArray listed i = true) (hr : (Region.ready .any l.toArray listed).contains i = true)
  (hQ : ∀ c a w,Q (.panic c) (a.put oi.dst v) w → Q (.panic c) a w) (hy : YieldsIf P l.toArray S oi v a) (hS : S w)
  (h : GT P l Q S z fuel (listed.setIfInBounds i true) (a.put oi.dst v) w) : GT P l Q S z (fuel + 1) listed a w := by
 simp only [Bool.and_eq_true,bne_iff_ne] at hsk
 have hi' : l.toArray[i]? = some oi := by simpa using hi
 exact wpAnyT_first hi' (Region.noSelect_spec hs) hQ hsk.1 hsk.2 fuel listed a w (Region.free_spec hi' hf) (by simpa using hr) hy hS h
theorem gt_pure {i z : Nat} {oi : Oper} {v : Value} {fuel : Nat} {listed : Array Bool} {a : Act} {w : World} (hi : l[i]? = some oi) (hs : Region.noSelect l.toArray = true)
  (hf : Region.free .any l.toArray listed i = true) (hr : (Region.ready .any l.toArray listed).contains i = true)
  (hQ : ∀ c a w,Q (.panic c) (a.put oi.dst v) w → Q (.panic c) a w) (hy : Yields P l.toArray oi v a)
  (h : GT P l Q S z fuel (listed.setIfInBounds i true) (a.put oi.dst v) w) : GT P l Q S z (fuel + 1) listed a w := by
 have hi' : l.toArray[i]? = some oi := by simpa using hi
 exact wpAnyT_pure hi' (Region.noSelect_spec hs) hQ fuel listed a w (Region.free_spec hi' hf) (by simpa using hr) hy h
theorem gt_one {i z : Nat} {o : Oper} {fuel : Nat} {listed : Array Bool} {a : Act} {w : World} (hi : l[i]? = some o) (hr : Region.ready .any l.toArray listed = [i]) (hiz : (i != z) = true)
  (h : ∀ K' : Act → World → Prop,Shut (∀ a w,S w → (S w → GT P l Q S z fuel (listed.setIfInBounds i true) a w) → K' a w) → if Region.wanted o (yielded l.toArray a.tmps) = true then Oper.wp P o a w K' Q else K' (a.put o.dst undef) w) : GT P l Q S z (fuel + 1) listed a w := by
 have hi' : l.toArray[i]? = some o := by simpa using hi
 refine ⟨fun h0 => (by rw [hr] at h0;cases h0),fun j hj => ?_⟩
 rw [hr] at hj
 simp at hj
 subst hj
 exact wpOp_step hi' (fun K' hK => h K' (fun a w hS hW => hK a w ⟨fun _ _ => hS,hW hS⟩))
theorem gt_last {z : Nat} {o : Oper} {fuel : Nat} {listed : Array Bool} {a : Act} {w : World} (hi : l[z]? = some o) (hr : Region.ready .any l.toArray listed = [z]) (hr2 : Region.ready .any l.toArray (listed.setIfInBounds z true) = [])
  (h : ∀ K' : Act → World → Prop,Shut (∀ a w,Q .normal a w → K' a w) → if Region.wanted o (yielded l.toArray a.tmps) = true then Oper.wp P o a w K' Q else K' (a.put o.dst undef) w) : GT P l Q S z (fuel + 1) listed a w := by
 have hi' : l.toArray[z]? = some o := by simpa using hi
 refine ⟨fun h0 => (by rw [hr] at h0;cases h0),fun j hj => ?_⟩
 rw [hr] at hj
 simp at hj
 subst hj
 refine wpOp_step hi' (fun K' hK => h K' (fun a w hq => hK a w ⟨fun h => absurd rfl h, ?_⟩))
 cases fuel with
 | zero => exact ⟨hr2,hq⟩
 | succ f => exact ⟨fun _ => hq,by rw [hr2];simp⟩
end
end Go.Proofs.Ythioodpmgifomaa
namespace Go.Proofs.Ythioodpmgifomaa
set_option linter.unusedVariables false
set_option linter.unusedSimpArgs false
open Go.RowKit Go.Sort
section
variable {P : Program} {l : List Oper} {Q : Exit → Act → World → Prop} {S : World → Prop}
theorem gt_two {i j z : Nat} {o o' : Oper} {fuel : Nat} {listed : Array Bool} {a : Act} {w : World} (hi : l[i]? = some o) (hj : l[j]? = some o') (hr : Region.ready .any l.toArray listed = [i,j]) (hiz : (i != z && j != z) = true)
  (h : ∀ K' : Act → World → Prop,Shut (∀ a w,S w → (S w → GT P l Q S z fuel (listed.setIfInBounds i true) a w) → K' a w) → if Region.wanted o (yielded l.toArray a.tmps) = true then Oper.wp P o a w K' Q else K' (a.put o.dst undef) w)
  (h' : ∀ K' : Act → World → Prop,Shut (∀ a w,S w → (S w → GT P l Q S z fuel (listed.setIfInBounds j true) a w) → K' a w) → if Region.wanted o' (yielded l.toArray a.tmps) = true then Oper.wp P o' a w K' Q else K' (a.put o'.dst undef) w) : GT P l Q S z (fuel + 1) listed a w := by
 have hi' : l.toArray[i]? = some o := by simpa using hi
 have hj' : l.toArray[j]? = some o' := by simpa using hj
 refine ⟨fun h0 => (by rw [hr] at h0;cases h0),fun k hk => ?_⟩
 rw [hr] at hk
 simp at hk
 rcases hk with rfl | rfl
 ·exact wpOp_step hi' (fun K' hK => h K' (fun a w hS hW => hK a w ⟨fun _ _ => hS,hW hS⟩))
 ·exact wpOp_step hj' (fun K' hK => h' K' (fun a w hS hW => hK a w ⟨fun _ _ => hS,hW hS⟩))
end
section
variable {P : Program} {ops : Array Oper} {Q : Exit → Act → World → Prop} {md : Region.Mode} {S : World → Prop}
theorem wpAnyT_firstA {i z : Nat} {oi : Oper} {v : Value} (hi : ops[i]? = some oi) (hsel : ∀ (j : Nat) (o : Oper) cs b,ops[j]? = some o → o.op ≠ .select cs b)
  (hQ : ∀ c a w,Q (.panic c) (a.put oi.dst v) w → Q (.panic c) a w) (hz : ops.size ≤ z) :
  ∀ (fuel : Nat) (listed : Array Bool) (a : Act) (w : World),
   (∀ j oj,ops[j]? = some oj → j ≠ i → listed.getD j true = false → (∀ e ∈ oj.after,Region.binds md e = true → e.on ≠ i) → oi.apart ops oj = true) →
   i ∈ Region.ready md ops listed → YieldsIf P ops S oi v a → S w →
   wpAnyT P md ops Q S z fuel (listed.setIfInBounds i true) (a.put oi.dst v) w → wpAnyT P md ops Q S z (fuel + 1) listed a w := by
 intro fuel
 induction fuel with
 | zero =>
  intro listed a w _ hr hy hS H
  refine ⟨fun h => (by rw [h] at hr;cases hr),fun j hj => ?_⟩
  by_cases hji : j = i
  ·subst hji;exact hy.wpOp hi hS ⟨fun _ h => h,H⟩
  ·have := ready_mono hj hji
   rw [H.1] at this
   cases this
 | succ fuel ih =>
  intro listed a w hfree hr hy hS H
  have hun := (mem_ready.1 hr).1
  refine ⟨fun h => (by rw [h] at hr;cases hr),fun j hj => ?_⟩
  by_cases hji : j = i
  ·subst hji;exact hy.wpOp hi hS ⟨fun _ h => h,H⟩
  ·obtain ⟨hjun,oj,hoj,hall⟩ := mem_ready.1 hj
   have hnot : ∀ e ∈ oj.after,Region.binds md e = true → e.on ≠ i := fun e he hb heq => by
    have h3 := hall e he hb
    rw [heq,getD_both hun] at h3
    cases h3
   have hjz : j ≠ z := fun e => by
    have := (Array.getElem?_eq_some_iff.1 hoj).1
    omega
   have h1 := H.2 j (ready_mono hj hji)
   have h2 := wpOp_putIf hoj (hfree j oj hoj hji hjun hnot) (fun cs b => hsel i oi cs b hi) (fun cs b => hsel j oj cs b hoj) hQ hy h1
   have hfree' : ∀ k ok,ops[k]? = some ok → k ≠ i → (listed.setIfInBounds j true).getD k true = false →
     (∀ e ∈ ok.after,Region.binds md e = true → e.on ≠ i) → oi.apart ops ok = true := fun k ok hk hki hun hno => by
    refine hfree k ok hk hki ?_ hno
    by_cases hjk : j = k
    ·subst hjk;exact hjun
    ·rw [getD_set_ne true hjk] at hun;exact hun
   refine wpOp_mono (fun a' w' h3 => ⟨h3.2.1,ih (listed.setIfInBounds j true) a' w' hfree' (ready_mono hr (Ne.symm hji)) h3.1 (h3.2.1 hjz hS) ?_⟩) h2
   rw [Array.setIfInBounds_comm _ _ hji]
   exact h3.2.2
end
section
variable {P : Program} {l : List Oper} {Q : Exit → Act → World → Prop} {S : World → Prop}
theorem gt_takeA {i z : Nat} {oi : Oper} {v : Value} {fuel : Nat} {listed : Array Bool} {a : Act} {w : World} (hi : l[i]? = some oi) (hs : Region.noSelect l.toArray = true)
  (hsk : decide (l.length ≤ z) = true) (hf : Region.free .any l.toArray listed i = true) (hr : (Region.ready .any l.toArray listed).contains i = true)
  (hQ : ∀ c a w,Q (.panic c) (a.put oi.dst v) w → Q (.panic c) a w) (hy : YieldsIf P l.toArray S oi v a) (hS : S w)
  (h : GT P l Q S z fuel (listed.setIfInBounds i true) (a.put oi.dst v) w) : GT P l Q S z (fuel + 1) listed a w := by
 have hi' : l.toArray[i]? = some oi := by simpa using hi
 exact wpAnyT_firstA hi' (Region.noSelect_spec hs) hQ (by simpa using hsk) fuel listed a w (Region.free_spec hi' hf) (by simpa using hr) hy hS h
theorem gt_end {z : Nat} {fuel : Nat} {listed : Array Bool} {a : Act} {w : World} (hr : Region.ready .any l.toArray listed = []) (h : Q .normal a w) : GT P l Q S z fuel listed a w := by
 cases fuel with
 | zero => exact ⟨hr,h⟩
 | succ f => exact ⟨fun _ => h,by rw [hr];simp⟩
end
end Go.Proofs.Ythioodpmgifomaa
namespace Go.Proofs.Ythioodpmgifomaa
set_option linter.unusedVariables false
set_option linter.unusedSimpArgs false
open Go.RowKit Go.Sort
theorem Try.infoRw : (Try.prog.info? 51).map (fun i => (i.zero,i.size,i.bytes)) = some (some (.agg #[.int .i64 0,.slice none 0 0,.slice none 0 0,.slice none 0 0,.bool false,.bool false,.int .i64 0,.slice none 0 0]),8,120) := by kernel_rfl
theorem mixed17 : Try.prog.follows .mixedOrders = true := by kernel_rfl
theorem info_partsG {P : Program} {t : TypeId} {z : Value} {s b : Nat} (h : (P.info? t).map (fun i => (i.zero,i.size,i.bytes)) = some (some z,s,b)) : ∃ i,P.info? t = some i ∧ i.zero = some z ∧ i.size = s ∧ i.bytes = b := by
 cases e : P.info? t with
 | none => rw [e] at h;cases h
 | some i =>
  rw [e] at h
  simp only [Option.map_some,Option.some.injEq,Prod.mk.injEq] at h
  exact ⟨i,rfl,h.1,h.2.1,h.2.2⟩
theorem owL_v {w : World} {x : Value} {cs : List Cel} {us : List Value} {f : Fp} (h : owL w cs us f) : owL w (.v x :: cs) (x :: us) f := ⟨x,us,fun _ => False,f,rfl,⟨rfl,fun _ h => h⟩,h,fun _ h => absurd h id,fun b => by simp⟩
theorem owL_v' {w : World} {x : Value} {cs : List Cel} {us : List Value} {f : Fp} (h : owL w (.v x :: cs) us f) : ∃ us',us = x :: us' ∧ owL w cs us' f := by
 obtain ⟨u,us',f1,f2,rfl,⟨rfl,h1⟩,h2,hd,hf⟩ := h
 exact ⟨us',rfl,owL_congr h2 (fun b => (hf b).trans ⟨fun h => h.elim (fun h => absurd h (h1 b)) id,.inr⟩)⟩
theorem owL_c {w : World} {c : Cel} {u : Value} {cs : List Cel} {us : List Value} {f1 f2 : Fp} (h1 : Cel.ow w c u f1) (h2 : owL w cs us f2) (hd : ∀ b,f1 b → ¬ f2 b) : owL w (c :: cs) (u :: us) (fun b => f1 b ∨ f2 b) := ⟨u,us,f1,f2,rfl,h1,h2,hd,fun b => Iff.rfl⟩
theorem ow_rw8 {w : World} {A : Ra} {r : Rw} {f : Fp} (h : owL w (rwCels r) (rwVals A r) f) : owL w (rw8 r) (rwC A r).toList f := by
 obtain ⟨u1,us1,f1,g1,e1,o1,h2,d1,i1⟩ := h
 cases e1
 obtain ⟨u2,us2,f2,g2,e2,o2,h3,d2,i2⟩ := h2
 cases e2
 obtain ⟨u3,us3,f3,g3,e3,o3,h4,d3,i3⟩ := h3
 cases e3
 exact owL_v ⟨_,_,f1,g1,rfl,o1,⟨_,_,f2,g2,rfl,o2,⟨_,_,f3,g3,rfl,o3,owL_v (owL_v (owL_v h4)),d3,i3⟩,d2,i2⟩,d1,i1⟩
theorem rw8_ow {w : World} {r : Rw} {us : List Value} {f : Fp} (h : owL w (rw8 r) us f) : ∃ A : Ra,us = (rwC A r).toList ∧ owL w (rwCels r) (rwVals A r) f := by
 obtain ⟨us0,rfl,hq0⟩ := owL_v' h
 obtain ⟨u1,us1,f1,g1,rfl,o1,h2,d1,i1⟩ := hq0
 obtain ⟨u2,us2,f2,g2,rfl,o2,h3,d2,i2⟩ := h2
 obtain ⟨u3,us3,f3,g3,rfl,o3,h4,d3,i3⟩ := h3
 obtain ⟨us4,rfl,hq4⟩ := owL_v' h4
 obtain ⟨us5,rfl,hq5⟩ := owL_v' hq4
 obtain ⟨us6,rfl,hq6⟩ := owL_v' hq5
 obtain ⟨u7,us7,f7,g7,rfl,o7,⟨rfl,h8⟩,d7,i7⟩ := hq6
 obtain ⟨ta,tc,_,rfl,_⟩ := ow_scl.1 o1
 obtain ⟨ga,gc,_,rfl,_⟩ := ow_icl.1 o2
 obtain ⟨sa,sc,_,rfl,_⟩ := ow_icl.1 o3
 obtain ⟨ma,mc,_,rfl,_⟩ := ow_icl.1 o7
 exact ⟨⟨ta,tc,ga,gc,sa,sc,ma,mc⟩,rfl,⟨_,_,f1,g1,rfl,o1,⟨_,_,f2,g2,rfl,o2,⟨_,_,f3,g3,rfl,o3,⟨_,_,f7,g7,rfl,o7,⟨rfl,h8⟩,d7,i7⟩,d3,i3⟩,d2,i2⟩,d1,i1⟩⟩
theorem ow_mb5 {w : World} {A : Ma} {m : Mb} {f : Fp} (h : owL w (mbCels m) (mbVals A m) f) : owL w (mb5 m) (mbC A m).toList f := by
 obtain ⟨u1,us1,f1,g1,e1,o1,h2,d1,i1⟩ := h
 cases e1
 obtain ⟨u2,us2,f2,g2,e2,o2,h3,d2,i2⟩ := h2
 cases e2
 exact owL_v (owL_v ⟨_,_,f1,g1,rfl,o1,⟨_,_,f2,g2,rfl,o2,owL_v h3,d2,i2⟩,d1,i1⟩)
theorem mb5_ow {w : World} {m : Mb} {us : List Value} {f : Fp} (h : owL w (mb5 m) us f) : ∃ A : Ma,us = (mbC A m).toList ∧ owL w (mbCels m) (mbVals A m) f := by
 obtain ⟨us0,rfl,hq0⟩ := owL_v' h
 obtain ⟨us9,rfl,hq1⟩ := owL_v' hq0
 obtain ⟨u1,us1,f1,g1,rfl,o1,h2,d1,i1⟩ := hq1
 obtain ⟨u2,us2,f2,g2,rfl,o2,h3,d2,i2⟩ := h2
 obtain ⟨us4,rfl,⟨rfl,h4⟩⟩ := owL_v' h3
 have o1' := o1
 obtain ⟨ra,rc,_,_,_,rfl,_⟩ := o1'
 obtain ⟨sa,sc,_,rfl,_⟩ := ow_icl.1 o2
 exact ⟨⟨ra,rc,sa,sc⟩,rfl,⟨_,_,f1,g1,rfl,o1,⟨_,_,f2,g2,rfl,o2,⟨rfl,h4⟩,d2,i2⟩,d1,i1⟩⟩
theorem ow_pushF {P : Program} {α : Type} {F : α → List Cel} {s : Nat} (hF : ∀ x,(F x).length = s) {w : World} (t ty e : TypeId) (z : Value) (bytes : Nat) (ht : P.underlying t = some (.slice e)) (hi : (P.info? e).map (fun i => (i.zero,i.size,i.bytes)) = some (some z,s,bytes)) (hzs : z.cells.size = s) (hsz : 0 < s)
  {a : Option Addr} {c : Nat} {L : List α} {x : α} {fp fd : Fp} (hO : Cel.ow w (lcl s F L) (.slice a L.length c) fp) {vals : List Value} (hd : owL w (F x) vals fd) (hdis : ∀ b,fp b → ¬ fd b) (h1 : ∀ u ∈ vals,u.oneCell' = true)
  (nb : Nat) (T : TypeId) (hnb : w.heap[nb]? = some (.cells vals.toArray T (0,0))) (h63 : L.length + 1 ≤ maxLen) (hbytes : (L.length + 1) * bytes ≤ 140737488355328) :
  ∃ a' c' w' fp',(Builtin.append_ #[t,t] ty #[.slice a L.length c,.slice (some ⟨nb,0,none⟩) 1 1]).run P w = .ok (.slice a' (L.length + 1) c') w' ∧ Cel.ow w' (lcl s F (L ++ [x])) (.slice a' (L.length + 1) c') fp' ∧ Wrt fp w w' ∧ ∀ b,fp' b → fp b ∨ fd b ∨ b = w.heap.size := by
 obtain ⟨i,hi0,hz,hs,hb⟩ := info_partsG hi
 obtain ⟨a',c',w',fp',h2,h3,h4,h5⟩ := ow_push (P := P) (w := w) t ty e i z s bytes ht hi0 hz hs hb hzs hsz hO hd hdis (by rw [owL_len hd,hF]) h1 nb T hnb h63 hbytes
 refine ⟨a',c',w',fp',h2, ?_,h4,h5⟩
 unfold lcl
 rw [List.flatMap_append,List.length_append]
 simpa using h3
structure MO (w X : World) (o : Nat) (A : Ma) (m : Mb) (fp : Fp) : Prop where
 own : Bx X o 39 (mbC A m)
 ls : owL X (mbCels m) (mbVals A m) fp
 fpl : ∀ b,fp b → o < b
 lo : w.heap.size ≤ o
 below : Below w.heap.size w X
theorem MO.step {w X X' : World} {o : Nat} {A : Ma} {m : Mb} {fp : Fp} (h : MO w X o A m fp) (hb : Below X.heap.size X X') : MO w X' o A m fp := ⟨h.own.below hb,owL_below h.ls hb,h.fpl,h.lo,h.below.trans (hb.mono h.below.size)⟩
theorem MO.push {w X X1 : World} {o : Nat} {A : Ma} {m : Mb} {fp : Fp} (h : MO w X o A m fp) (hb : Below X.heap.size X X1) {r : Rw} {Ar : Ra} {fr : Fp} (hr : owL X1 (rwCels r) (rwVals Ar r) fr) (hfr : ∀ b,fr b → X.heap.size ≤ b) (hl : m.rows.length ≤ 1000000) :
  ∀ Y,Same Y (X1.alloc (.cells (rwC Ar r) 51)) → ∃ v' w4,(Builtin.append_ #[37,37] 37 #[.slice A.ra m.rows.length A.rc,.slice (some ⟨X1.heap.size,0,none⟩) 1 1]).run Try.prog Y = .ok v' w4 ∧
   ∃ a' c',v' = .slice a' (m.rows.length + 1) c' ∧ w4.cell? ⟨o,2,none⟩ = some (.slice A.ra m.rows.length A.rc) ∧ w4.frozen? ⟨o,2,none⟩ = false ∧ Below o X w4 ∧ Below o X (w4.setCell ⟨o,2,none⟩ (.slice a' (m.rows.length + 1) c')) ∧ ∃ fp',MO w (w4.setCell ⟨o,2,none⟩ (.slice a' (m.rows.length + 1) c')) o ⟨a',c',A.sa,A.sc⟩ { m with rows := m.rows ++ [r] } fp' := by
 intro Y hY
 have h1 := h.step hb
 have hbY : Below X1.heap.size X1 Y := (oneA16 X1 _).trans (hY.below.mono (oneA16 X1 _).size)
 have h2 := h1.step hbY
 have hls := h2.ls
 obtain ⟨u1,us1,f1,g1,e1,o1,l2,d1,i1⟩ := hls
 cases e1
 have hrY := ow_rw8 (owL_below hr hbY)
 have hol : o < X.heap.size := h.own.lt
 have hpl : ∀ b,fp b → b < X.heap.size := owL_lt h.ls
 have hXs := hb.size
 obtain ⟨a',c',w4,fp',k1,k2,k3,k4⟩ := ow_pushF (P := Try.prog) rw8_len (w := Y) 37 37 51 _ 120 Try.underlying37 Try.infoRw rfl (by omega) (x := r) o1 hrY (fun b hb1 hb2 => by have := hpl b ((i1 b).2 (.inl hb1));have := hfr b hb2;omega) (by intro u hu;simp [rwC] at hu;rcases hu with h | h | h | h | h | h | h | h <;> rw [h] <;> rfl) X1.heap.size 51 (by rw [hY.heap];exact heap_alloc_new X1 _) (by unfold maxLen;omega) (by omega)
 have hf1 : ∀ b,f1 b → o < b := fun b hb1 => h.fpl b ((i1 b).2 (.inl hb1))
 have hg1 : ∀ b,g1 b → o < b := fun b hb1 => h.fpl b ((i1 b).2 (.inr hb1))
 have hYs : X1.heap.size < Y.heap.size := by rw [hY.size];simp
 have ho4 : Bx w4 o 39 (mbC A m) := h2.own.wrt k3 (fun hb1 => by have := hf1 _ hb1;omega)
 have hXY : Below X.heap.size X Y := hb.trans (hbY.mono hb.size)
 have b4 : Below o X w4 := k3.below (hXY.mono (by omega : o ≤ X.heap.size)) (by omega) (fun b hb1 => by have := hf1 _ hb1;omega)
 have hfp' : ∀ b,fp' b → o < b := fun b hb1 => by
  rcases k4 b hb1 with k | k | k
  ·exact hf1 b k
  ·have := hfr b k;omega
  ·omega
 refine ⟨_,w4,k1,a',c',rfl,ho4.at 2 rfl,ho4.f 2,b4,b4.setCell (p := ⟨o,2,none⟩) (Nat.le_refl _) _,fun b => fp' b ∨ g1 b, ?_, ?_,fun b hb1 => hb1.elim (hfp' b) (hg1 b),h.lo, ?_⟩
 ·have := ho4.setC 2 (.slice a' (m.rows.length + 1) c')
  have e : (mbC A m).setIfInBounds 2 (.slice a' (m.rows.length + 1) c') = mbC ⟨a',c',A.sa,A.sc⟩ { m with rows := m.rows ++ [r] } := by simp [mbC]
  rw [e] at this
  exact this
 ·have hw := Wrt.set w4 o 2 (.slice a' (m.rows.length + 1) c')
  have k2' : Cel.ow w4 (lcl 8 rw8 (m.rows ++ [r])) (.slice a' (m.rows ++ [r]).length c') fp' := by
   rw [List.length_append]
   exact k2
  exact owL_wrt (owL_c k2' (owL_wrt l2 k3 (fun b hb1 hb2 => d1 b hb2 hb1)) (fun b hb1 hb2 => by
   rcases k4 b hb1 with k | k | k
   ·exact d1 b k hb2
   ·have := hfr b k;have := hpl b ((i1 b).2 (.inr hb2));omega
   ·have := hpl b ((i1 b).2 (.inr hb2));omega)) hw (fun b hb1 e => by have := hb1.elim (hfp' b) (hg1 b);omega)
 ·have := h.below
  have hlo := h.lo
  exact ((this.mono (Nat.le_refl _)).trans (b4.mono hlo)).setCell (p := ⟨o,2,none⟩) hlo _
def AnsMf (w w' : World) (e : Ending) (m : Mb) (b : Bool) : Prop := ∃ A : Ma,e = .returned (.tuple #[mbV A m,.bool b]) ∧ NewL w w' (mbCels m) (mbVals A m)
theorem ow_lcl0 (w : World) {α : Type} (s : Nat) (F : α → List Cel) : Cel.ow w (lcl s F []) (.slice none 0 0) (fun _ => False) := ⟨none,0,[],none,fun _ => False,rfl,OSo.nil _ _ plainN,⟨rfl,fun _ h => h⟩,fun _ _ h => h,fun b => by simp⟩
theorem ow_mb0 (w : World) : owL w (mbCels zeroMb) (mbVals ⟨none,0,none,0⟩ zeroMb) (fun _ => False) :=
 owL_congr (owL_c (ow_lcl0 w 8 rw8) (owL_c (ow_none_i w) (⟨rfl,fun _ h => h⟩ : owL w [] [] (fun _ => False)) (fun _ _ h => h)) (fun _ h => absurd h id)) (fun b => by simp)
theorem ansM_zero {w w' : World} (hb : Below w.heap.size w w') : NewL w w' (mbCels zeroMb) (mbVals ⟨none,0,none,0⟩ zeroMb) := ⟨_,ow_mb0 w',fun b h => absurd h id,hb⟩
theorem wrt5 (w : World) (g : Nat) {a b c d e : Value} : Wrt (fun x => x = g) w (((((w.setCell ⟨g,0,none⟩ a).setCell ⟨g,1,none⟩ b).setCell ⟨g,2,none⟩ c).setCell ⟨g,3,none⟩ d).setCell ⟨g,4,none⟩ e) :=
 ((((Wrt.set w g 0 a).trans (Wrt.set _ g 1 b) (fun _ _ h => h)).trans (Wrt.set _ g 2 c) (fun _ _ h => h)).trans (Wrt.set _ g 3 d) (fun _ _ h => h)).trans (Wrt.set _ g 4 e) (fun _ _ h => h)
theorem Bx.f5 {w : World} {B : Nat} {T : TypeId} {cs : Array Value} (h : Bx w B T cs) : w.frozen? ⟨B,0,none⟩ = false ∧ w.frozen? ⟨B,1,none⟩ = false ∧ w.frozen? ⟨B,2,none⟩ = false ∧ w.frozen? ⟨B,3,none⟩ = false ∧ w.frozen? ⟨B,4,none⟩ = false := ⟨h.f 0,h.f 1,h.f 2,h.f 3,h.f 4⟩
theorem MO.ans {w X : World} {o r : Nat} {A : Ma} {m : Mb} {fp : Fp} (h : MO w X o A m fp) (hr : w.heap.size ≤ r) (hro : r ≤ o) {a b c d e : Value} :
  NewL w (((((X.setCell ⟨r,0,none⟩ a).setCell ⟨r,1,none⟩ b).setCell ⟨r,2,none⟩ c).setCell ⟨r,3,none⟩ d).setCell ⟨r,4,none⟩ e) (mbCels m) (mbVals A m) :=
 ⟨fp,owL_wrt h.ls (wrt5 X r) (fun b hb e => by have := h.fpl b hb;omega),fun b hb => by have := h.fpl b hb;have := h.lo;omega,(wrt5 X r).below h.below h.below.size (fun b e => by omega)⟩
end Go.Proofs.Ythioodpmgifomaa
namespace Go.Proofs.Ythioodpmgifomaa
set_option linter.unusedVariables false
set_option linter.unusedSimpArgs false
open Go.RowKit Go.Sort
attribute [local irreducible] sv
end Go.Proofs.Ythioodpmgifomaa
namespace Go.Proofs.Ythioodpmgifomaa
set_option linter.unusedVariables false
set_option linter.unusedSimpArgs false
open Go.RowKit Go.Sort
theorem pair_len {hi : Int} : ∀ {l : List Int} {lo : Int},l.Pairwise (· < ·) → (∀ x ∈ l,lo ≤ x ∧ x < hi) → (l.length : Int) ≤ max 0 (hi - lo)
 | [],lo,_,_ => by simp;omega
 | x :: l,lo,hp,h => by
  have h1 := List.pairwise_cons.1 hp
  have hx := h x List.mem_cons_self
  have := pair_len (lo := x + 1) h1.2 (fun y hy => ⟨by have := h1.1 y hy;omega,(h y (List.mem_cons_of_mem _ hy)).2⟩)
  simp only [List.length_cons]
  omega
theorem OkR.sl {r : Rw} {n : Nat} (h : OkR r n) : r.sus.length ≤ n := by
 have := pair_len (lo := 0) (hi := (n : Int)) (ris_iff.1 h.ris) h.sus
 omega
theorem OkR.ml {r : Rw} {n : Nat} (h : OkR r n) : r.trm.length ≤ n := by
 cases e : r.rdy with
 | true => have := (h.rdy e).2.2.2.1;omega
 | false => rw [(h.not e).2];simp
theorem OkM.rowOk {m : Mb} {i n : Nat} (h : OkM m i n) : ∀ r ∈ m.rows,OkR r n := by
 intro r hr
 obtain ⟨j,hj,rfl⟩ := List.mem_iff_getElem.1 hr
 have := h.ok j (by rw [← h.len];exact hj)
 simpa [rowN,List.getD,hj] using this
end Go.Proofs.Ythioodpmgifomaa
namespace Go.Proofs.Ythioodpmgifomaa
set_option linter.unusedVariables false
set_option linter.unusedSimpArgs false
open Go.RowKit Go.Sort
theorem OkR.fit {r : Rw} {n : Nat} (h : OkR r n) : FitR r := by
 have h5 := h.n5
 have ok : ∀ v,okB v = true → Fits v := fun v h1 x hx => by
  simp only [okB,Bool.and_eq_true,decide_eq_true_eq,List.all_eq_true] at h1
  have := inB7.1 (h1.2 x hx)
  omega
 refine ⟨ok _ h.got,fun x hx => by have := h.sus x hx;omega, ?_⟩
 cases e : r.rdy with
 | true => exact ok _ (h.rdy e).2.2.1
 | false => rw [(h.not e).2];exact fun x hx => absurd hx List.not_mem_nil
theorem OkM.fit {m : Mb} {i n : Nat} (h : OkM m i n) : FitM m := ⟨fun r hr => (h.rowOk r hr).fit,fun x hx => by
 obtain ⟨j,hj,rfl⟩ := List.mem_iff_getElem.1 hx
 have := (h.sg j hj).1
 simp [el,hj] at this
 omega⟩
def C5 (w : World) (B o : Nat) (x0 x1 x2 x3 x4 : Value) : Prop := w.cell? ⟨B,o,none⟩ = some x0 ∧ w.cell? ⟨B,o + 1,none⟩ = some x1 ∧ w.cell? ⟨B,o + 2,none⟩ = some x2 ∧ w.cell? ⟨B,o + 3,none⟩ = some x3 ∧ w.cell? ⟨B,o + 4,none⟩ = some x4
end Go.Proofs.Ythioodpmgifomaa
namespace Go.Proofs.Ythioodpmgifomaa
set_option linter.unusedVariables false
set_option linter.unusedSimpArgs false
open Go.RowKit Go.Sort
def ocl (L : List Bool) : Cel := .sl 1 L.length (pl (L.map Value.bool))
def UpS (w : World) (a : Option Addr) (L : List Bool) : Prop := L.length = 0 ∨ ∃ b off,a = some ⟨b,off,none⟩ ∧ ∀ i,i < L.length → w.cell? ⟨b,off + i,none⟩ = some (.bool (L.getD i false))
theorem UpS.below {w w' : World} {a : Option Addr} {L : List Bool} (h : UpS w a L) (hb : Below w.heap.size w w') : UpS w' a L := by
 rcases h with h | ⟨b,off,ha,hc⟩
 ·exact .inl h
 ·exact .inr ⟨b,off,ha,fun i hi => (hb.cell (World.block_lt_of_cell? _ _ (hc i hi))).trans (hc i hi)⟩
theorem ow_ocl {w : World} {L : List Bool} {u : Value} {fp : Fp} : Cel.ow w (ocl L) u fp ↔ ∃ a c G,u = .slice a L.length c ∧ OSo w 1 a L.length c (L.map Value.bool) G ∧ ∀ b,fp b ↔ G = some b := by
 constructor
 ·rintro ⟨a,c,us,G,f,rfl,ho,hl,hn,hf⟩
  obtain ⟨rfl,h0⟩ := owL_pl.1 hl
  exact ⟨a,c,G,rfl,ho,fun b => (hf b).trans ⟨fun h => h.elim id (fun h => absurd h (h0 b)),.inl⟩⟩
 ·rintro ⟨a,c,G,rfl,ho,hf⟩
  exact ⟨a,c,_,G,fun _ => False,rfl,ho,owL_pl.2 ⟨rfl,fun _ h => h⟩,fun _ _ h => h,fun b => (hf b).trans ⟨.inl,fun h => h.elim id False.elim⟩⟩
theorem vw_ocl {w : World} {L : List Bool} {u : Value} (h : Cel.vw w (ocl L) u) : ∃ a c,u = .slice a L.length c ∧ UpS w a L ∧ L.length ≤ c ∧ c ≤ maxLen := by
 obtain ⟨a,c,us,rfl,h1,h2,h3,h,hl⟩ := h
 have e := vwL_pl.1 hl
 subst e
 refine ⟨a,c,rfl, ?_,h1,h2⟩
 rcases h with h | ⟨b,off,ha,hc⟩
 ·exact .inl h
 ·refine .inr ⟨b,off,ha,fun i hi => ?_⟩
  rw [hc i (by omega)]
  simp [List.getD,hi]
def ml10 (x : Ml) : List Cel := .v (.int .i64 x.fr) :: .v (.int .i64 x.to) :: rw8 x.row
theorem ml10_len (x : Ml) : (ml10 x).length = 10 := rfl
structure Ga where
 ma : Option Addr
 mc : Nat
 ua : Option Addr
 uc : Nat
 la : Option Addr
 lc : Nat
def grC (A : Ga) (g : Gr) : Array Value := #[.slice A.ma g.mem.length A.mc,.slice A.ua g.up.length A.uc,.slice A.la g.mail.length A.lc]
def grV (A : Ga) (g : Gr) : Value := .agg (grC A g)
def gr3 (g : Gr) : List Cel := [lcl 5 mb5 g.mem,ocl g.up,lcl 10 ml10 g.mail]
def grVals (A : Ga) (g : Gr) : List Value := [.slice A.ma g.mem.length A.mc,.slice A.ua g.up.length A.uc,.slice A.la g.mail.length A.lc]
def FitG (g : Gr) : Prop := (∀ m ∈ g.mem,FitM m) ∧ ∀ x ∈ g.mail,FitR x.row
structure GrS (w : World) (A : Ga) (g : Gr) : Prop where
 mem : Cel.vw w (lcl 5 mb5 g.mem) (.slice A.ma g.mem.length A.mc)
 up : UpS w A.ua g.up
 mail : Cel.vw w (lcl 10 ml10 g.mail) (.slice A.la g.mail.length A.lc)
 lm : g.mem.length ≤ maxLen
 lu : g.up.length ≤ maxLen
 ll : g.mail.length ≤ maxLen
 fit : FitG g
theorem GrS.below {w w' : World} {A : Ga} {g : Gr} (h : GrS w A g) (hb : Below w.heap.size w w') : GrS w' A g := ⟨Cel.vw_below h.mem hb,h.up.below hb,Cel.vw_below h.mail hb,h.lm,h.lu,h.ll,h.fit⟩
theorem grs_of {w : World} {A : Ga} {g : Gr} (h : vwL w (gr3 g) (grVals A g)) (hf : FitG g) : GrS w A g := by
 obtain ⟨u1,us1,e1,h1,h2⟩ := h
 cases e1
 obtain ⟨u2,us2,e2,h3,h4⟩ := h2
 cases e2
 obtain ⟨u3,us3,e3,h5,_⟩ := h4
 cases e3
 obtain ⟨a,c,e,k1,k2,k3⟩ := vw_ocl h3
 cases e
 have l1 := h1
 obtain ⟨_,_,_,e,m1,m2,_⟩ := l1
 cases e
 have l5 := h5
 obtain ⟨_,_,_,e,n1,n2,_⟩ := l5
 cases e
 exact ⟨h1,k1,h5,by omega,by omega,by omega,hf⟩
theorem Pv.mem {w : World} {b o : Nat} {m : Mb} (h : Pv w b o (mb5 m)) (hf : FitM m) : ∃ A : Ma,C5 w b o (.int .i64 m.id) (.int .i64 m.n) (.slice A.ra m.rows.length A.rc) (.slice A.sa m.sung.length A.sc) (.bool m.done) ∧ MbS w A m := by
 obtain ⟨u0,c0,rfl⟩ := h.at (j := 0) rfl
 obtain ⟨u1,c1,rfl⟩ := h.at (j := 1) rfl
 obtain ⟨u2,c2,v2⟩ := h.at (j := 2) rfl
 obtain ⟨u3,c3,v3⟩ := h.at (j := 3) rfl
 obtain ⟨u4,c4,rfl⟩ := h.at (j := 4) rfl
 have k2 := v2
 obtain ⟨ra,rc,_,rfl,r1,r2,_⟩ := k2
 obtain ⟨sa,sc,rfl,s1,s2,s3⟩ := vw_icl v3 hf.2
 exact ⟨⟨ra,rc,sa,sc⟩,⟨c0,c1,c2,c3,c4⟩,v2,s1,by omega,by omega,hf.1⟩
theorem memN_at {g : Gr} {k : Nat} (hk : k < g.mem.length) : g.mem[k]? = some (memN g k) := by simp [memN,List.getD,hk]
theorem mailN_at {g : Gr} {k : Nat} (hk : k < g.mail.length) : g.mail[k]? = some (mailN g k) := by simp [mailN,List.getD,hk]
theorem Pv.mail {w : World} {b o : Nat} {x : Ml} (h : Pv w b o (ml10 x)) (hf : FitR x.row) : ∃ A : Ra,w.cell? ⟨b,o,none⟩ = some (.int .i64 x.fr) ∧ w.cell? ⟨b,o + 1,none⟩ = some (.int .i64 x.to) ∧ C8 w b (o + 2) (.int .i64 x.row.ver) (.slice A.ta x.row.txt.length A.tc) (.slice A.ga x.row.got.length A.gc) (.slice A.sa x.row.sus.length A.sc) (.bool x.row.wed) (.bool x.row.rdy) (.int .i64 x.row.by_) (.slice A.ma x.row.trm.length A.mc) ∧ RwS w A x.row := by
 obtain ⟨u0,c0,rfl⟩ := h.at (j := 0) rfl
 obtain ⟨u1,c1,rfl⟩ := h.at (j := 1) rfl
 have hp : Pv w b (o + 2) (rw8 x.row) := by
  obtain ⟨vs,h1,h2⟩ := h
  obtain ⟨v0,vs0,rfl,_,h3⟩ := h2
  obtain ⟨v1,vs1,rfl,_,h4⟩ := h3
  refine ⟨vs1,fun j hj => ?_,h4⟩
  have := h1 (j + 2) (by simp;omega)
  rw [show o + 2 + j = o + (j + 2) by omega,this]
  rfl
 obtain ⟨A,h3,h4⟩ := hp.row hf
 exact ⟨A,c0,c1,h3,h4⟩
end Go.Proofs.Ythioodpmgifomaa
namespace Go.Proofs.Ythioodpmgifomaa
set_option linter.unusedVariables false
set_option linter.unusedSimpArgs false
open Go.RowKit Go.Sort
end Go.Proofs.Ythioodpmgifomaa
namespace Go.Proofs.Ythioodpmgifomaa
set_option linter.unusedVariables false
set_option linter.unusedSimpArgs false
open Go.RowKit Go.Sort
end Go.Proofs.Ythioodpmgifomaa
namespace Go.Proofs.Ythioodpmgifomaa
set_option linter.unusedVariables false
set_option linter.unusedSimpArgs false
open Go.RowKit Go.Sort
end Go.Proofs.Ythioodpmgifomaa
namespace Go.Proofs.Ythioodpmgifomaa
set_option linter.unusedVariables false
set_option linter.unusedSimpArgs false
open Go.RowKit Go.Sort
def Cel.one : Cel → Prop
 | .v x => x.oneCell' = true
 | .sl _ _ _ => True
theorem owL_ones {w : World} : ∀ {cs : List Cel} {us : List Value} {f : Fp},owL w cs us f → (∀ c ∈ cs,c.one) → ∀ u ∈ us,u.oneCell' = true
 | [],us,f,h,_,u,hu => by
  obtain ⟨rfl,_⟩ := h
  cases hu
 | c :: cs,us,f,h,h1,u,hu => by
  obtain ⟨u0,us',f1,f2,rfl,h2,h3,_⟩ := h
  rcases List.mem_cons.1 hu with e | e
  ·subst e
   have := h1 c List.mem_cons_self
   cases c with
   | v x =>
    obtain ⟨rfl,_⟩ := h2
    exact this
   | sl s n cs =>
    obtain ⟨a,c,us,G,f,rfl,_⟩ := h2
    rfl
  ·exact owL_ones h3 (fun c hc => h1 c (List.mem_cons_of_mem _ hc)) u e
theorem mb5_one (m : Mb) : ∀ c ∈ mb5 m,c.one := by
 intro c hc
 simp only [mb5,List.mem_cons,List.not_mem_nil,or_false] at hc
 rcases hc with h | h | h | h | h <;> subst h <;> first | rfl | trivial
end Go.Proofs.Ythioodpmgifomaa
namespace Go.Proofs.Ythioodpmgifomaa
set_option linter.unusedVariables false
set_option linter.unusedSimpArgs false
open Go.RowKit Go.Sort
structure OkG (g : Gr) (n : Nat) : Prop where
 n5 : 1 ≤ n ∧ n ≤ 5
 ml : g.mem.length = n
 ul : g.up.length = n
 m200 : g.mail.length ≤ 200
 mem : ∀ i,i < n → OkM (memN g i) i n
 mails : ∀ x ∈ g.mail,∃ a b : Nat,x.fr = (a : Int) ∧ x.to = (b : Int) ∧ a < n ∧ b < n ∧ a ≠ b ∧ OkR x.row n
theorem okGr_iff {g : Gr} : okGr g = true ↔ ∃ n,OkG g n := by
 constructor
 ·intro h
  simp only [okGr,okMl,Bool.and_eq_true,decide_eq_true_eq,List.all_eq_true,List.mem_range] at h
  obtain ⟨h1,h2,h3,h4,h5,h6⟩ := h
  refine ⟨g.mem.length,⟨h1,h2⟩,rfl,h3,h4,fun i hi => ?_,fun x hx => ?_⟩
  ·obtain ⟨k1,k2,k3⟩ := h5 i hi
   obtain ⟨i',n',M⟩ := okMb_iff.1 k1
   have e1 : i' = i := by have := M.hid;omega
   have e2 : n' = g.mem.length := by have := M.hn;omega
   rw [e1,e2] at M
   exact M
  ·obtain ⟨k1,k2,k3,k4⟩ := h6 x hx
   obtain ⟨a,ea,ha⟩ := inB_nat k1
   obtain ⟨b,eb,hb⟩ := inB_nat k2
   exact ⟨a,b,ea,eb,ha,hb,fun e => k3 (by rw [ea,eb,e]),okRw_iff.1 k4⟩
 ·rintro ⟨n,G⟩
  have hn5 := G.n5
  simp only [okGr,okMl,Bool.and_eq_true,decide_eq_true_eq,List.all_eq_true,List.mem_range]
  rw [G.ml]
  refine ⟨hn5.1,hn5.2,G.ul,G.m200,fun i hi => ⟨okMb_iff.2 ⟨i,n,G.mem i hi⟩,(G.mem i hi).hid,(G.mem i hi).hn⟩,fun x hx => ?_⟩
  obtain ⟨a,b,h1,h2,h3,h4,h5,h6⟩ := G.mails x hx
  exact ⟨inB7.2 (by rw [h1];omega),inB7.2 (by rw [h2];omega),by rw [h1,h2];omega,okRw_iff.2 h6⟩
theorem MInv.okM {n : Nat} {h : Hs} {i : Nat} {m : Mb} (M : MInv n h i m) (n5 : 1 ≤ n ∧ n ≤ 5) : OkM m i n := by
 have ok := M.ok i M.lt
 obtain ⟨s1,s2,s3⟩ : m.sung.length ≤ 60 ∧ m.sung.Pairwise (· < ·) ∧ ∀ q,q < m.sung.length → (0 ≤ el m.sung q ∧ el m.sung q ≤ 59) ∧ (m.done = false → el m.sung q = (q : Int)) := by
  cases hd : m.done with
  | false =>
   obtain ⟨h1,h2⟩ := M.song hd
   exact ⟨h1,upto_rises (fun q hq => (h2 q hq).1),fun q hq => ⟨by rw [(h2 q hq).1];omega,fun _ => (h2 q hq).1⟩⟩
  | true =>
   obtain ⟨h1,h2,h3,h4⟩ := M.fin hd
   have hx : ∀ x ∈ m.sung,0 ≤ x ∧ x < ((60 : Nat) : Int) := fun x hx => by
    rw [h4] at hx
    obtain ⟨q,rfl,hq⟩ := wov_nn (ok.rdy h1).2.2.2.1 n5.2 hx
    have := n5.2
    omega
   have hr : m.sung.Pairwise (· < ·) := by rw [h4];exact wovs_rises _ _
   exact ⟨ris_short hr hx,hr,fun q hq => ⟨by have := hx _ (el_mem hq);omega,fun h => (by cases h)⟩⟩
 exact ⟨M.hid,M.hn,n5,M.lt,M.len,s1,s2,M.ok,s3,M.gown,M.self,fun hd => (M.fin hd).1⟩
theorem GInv.okG {n : Nat} {g : Gr} {h : Hs} {log : List Pp} (G : GInv n g h log) : OkG g n :=
 ⟨G.n5,G.ml,G.ul,G.m200,fun i hi => (G.mem i hi).okM G.n5,fun x hx => by obtain ⟨a,b,h1,h2,h3,h4,h5,_,h7⟩ := G.mails x hx;exact ⟨a,b,h1,h2,h3,h4,h5,h7⟩⟩
theorem GOk.okG {n : Nat} {g : Gr} (h : GOk n g) : OkG g n := by obtain ⟨_,_,G⟩ := h;exact G.okG
end Go.Proofs.Ythioodpmgifomaa
namespace Go.Proofs.Ythioodpmgifomaa
set_option linter.unusedVariables false
set_option linter.unusedSimpArgs false
open Go.RowKit Go.Sort
def oneMb (g : Gr) (k : Nat) : Bool := okMb (memN g k) && (decide ((memN g k).id = (k : Int)) && decide ((memN g k).n = (g.mem.length : Int)))
theorem okGr_1 {g : Gr} (h : ¬ 1 ≤ g.mem.length) : okGr g = false := by simp only [okGr,decide_eq_false h,Bool.false_and]
theorem okGr_2 {g : Gr} (h : ¬ g.mem.length ≤ 5) : okGr g = false := by simp only [okGr,decide_eq_false h,Bool.false_and,Bool.and_false]
theorem okGr_3 {g : Gr} (h : ¬ g.up.length = g.mem.length) : okGr g = false := by simp only [okGr,decide_eq_false h,Bool.false_and,Bool.and_false]
theorem okGr_4 {g : Gr} (h : ¬ g.mail.length ≤ 200) : okGr g = false := by simp only [okGr,decide_eq_false h,Bool.false_and,Bool.and_false]
theorem okGr_5 {g : Gr} {k : Nat} (hk : k < g.mem.length) (h : oneMb g k = false) : okGr g = false := by
 have : (List.range g.mem.length).all (fun i => okMb (memN g i) && (decide ((memN g i).id = (i : Int)) && decide ((memN g i).n = (g.mem.length : Int)))) = false := by
  rw [List.all_eq_false]
  exact ⟨k,List.mem_range.2 hk,by rw [show (okMb (memN g k) && (decide ((memN g k).id = (k : Int)) && decide ((memN g k).n = (g.mem.length : Int)))) = oneMb g k from rfl,h];simp⟩
 simp only [okGr,this,Bool.false_and,Bool.and_false]
theorem okGr_6 {g : Gr} {k : Nat} (hk : k < g.mail.length) (h : okMl (mailN g k) (g.mem.length : Int) = false) : okGr g = false := by
 have : g.mail.all (fun x => okMl x (g.mem.length : Int)) = false := by
  rw [List.all_eq_false]
  exact ⟨mailN g k,List.mem_of_getElem? (mailN_at hk),by simp [h]⟩
 simp only [okGr,this,Bool.false_and,Bool.and_false]
theorem okGr_yes {g : Gr} (h1 : 1 ≤ g.mem.length) (h2 : g.mem.length ≤ 5) (h3 : g.up.length = g.mem.length) (h4 : g.mail.length ≤ 200) (h5 : ∀ k,k < g.mem.length → oneMb g k = true) (h6 : ∀ k,k < g.mail.length → okMl (mailN g k) (g.mem.length : Int) = true) : okGr g = true := by
 have e5 : (List.range g.mem.length).all (fun i => okMb (memN g i) && (decide ((memN g i).id = (i : Int)) && decide ((memN g i).n = (g.mem.length : Int)))) = true := by
  rw [List.all_eq_true]
  intro k hk
  exact h5 k (List.mem_range.1 hk)
 have e6 : g.mail.all (fun x => okMl x (g.mem.length : Int)) = true := by
  rw [List.all_eq_true]
  intro x hx
  obtain ⟨j,hj,rfl⟩ := List.mem_iff_getElem.1 hx
  have := h6 j hj
  simpa [mailN,List.getD,hj] using this
 simp only [okGr,h1,h2,h3,h4,e5,e6,decide_true,Bool.true_and]
end Go.Proofs.Ythioodpmgifomaa
namespace Go.Proofs.Ythioodpmgifomaa
set_option linter.unusedVariables false
set_option linter.unusedSimpArgs false
open Go.RowKit Go.Sort
theorem Bx.g3 {w : World} {B : Nat} {T : TypeId} {x0 x1 x2 : Value} (h : Bx w B T #[x0,x1,x2]) : w.cell? ⟨B,0,none⟩ = some x0 ∧ w.cell? ⟨B,1,none⟩ = some x1 ∧ w.cell? ⟨B,2,none⟩ = some x2 :=
 ⟨h.at 0 rfl,h.at 1 rfl,h.at 2 rfl⟩
theorem Bx.r10 {w : World} {B : Nat} {T : TypeId} {x0 x1 x2 x3 x4 x5 x6 x7 x8 x9 : Value} (h : Bx w B T #[x0,x1,x2,x3,x4,x5,x6,x7,x8,x9]) : (w.cell? ⟨B,0,none⟩ = some x0 ∧ w.cell? ⟨B,1,none⟩ = some x1) ∧ (w.cell? ⟨B,2,none⟩ = some x2 ∧ w.cell? ⟨B,3,none⟩ = some x3 ∧ w.cell? ⟨B,4,none⟩ = some x4 ∧ w.cell? ⟨B,5,none⟩ = some x5) ∧ w.cell? ⟨B,6,none⟩ = some x6 ∧ w.cell? ⟨B,7,none⟩ = some x7 ∧ w.cell? ⟨B,8,none⟩ = some x8 ∧ w.cell? ⟨B,9,none⟩ = some x9 :=
 ⟨⟨h.at 0 rfl,h.at 1 rfl⟩,⟨h.at 2 rfl,h.at 3 rfl,h.at 4 rfl,h.at 5 rfl⟩,h.at 6 rfl,h.at 7 rfl,h.at 8 rfl,h.at 9 rfl⟩
end Go.Proofs.Ythioodpmgifomaa
namespace Go.Proofs.Ythioodpmgifomaa
set_option linter.unusedVariables false
set_option linter.unusedSimpArgs false
open Go.RowKit Go.Sort
def mlC (x : Ml) (A : Ra) : Array Value := #[.int .i64 x.fr,.int .i64 x.to,.int .i64 x.row.ver,.slice A.ta x.row.txt.length A.tc,.slice A.ga x.row.got.length A.gc,.slice A.sa x.row.sus.length A.sc,.bool x.row.wed,.bool x.row.rdy,.int .i64 x.row.by_,.slice A.ma x.row.trm.length A.mc]
end Go.Proofs.Ythioodpmgifomaa
namespace Go.Proofs.Ythioodpmgifomaa
set_option linter.unusedVariables false
set_option linter.unusedSimpArgs false
open Go.RowKit Go.Sort
theorem newMb_no {id n : Int} (h : inB n 1 5 = false ∨ inB id 0 (n - 1) = false) : newMb id n = (zeroMb,false) := by
 unfold newMb
 rw [if_neg]
 rintro ⟨h1,h2⟩
 rcases h with h | h
 ·rw [h] at h1;cases h1
 ·rw [h] at h2;cases h2
theorem newMb_yes {id n : Int} (h1 : inB n 1 5 = true) (h2 : inB id 0 (n - 1) = true) : newMb id n = (⟨id,n,List.replicate n.toNat (newRw n),[],false⟩,true) := by
 unfold newMb
 rw [if_pos ⟨h1,h2⟩]
theorem mb_start (w : World) (id n : Int) : MO w ((w.alloc (.cells #[.int .i64 0,.int .i64 0,.slice none 0 0,.slice none 0 0,.bool false] 39)).alloc (.cells #[.int .i64 id,.int .i64 n,.slice none 0 0,.slice none 0 0,.bool false] 39)) (w.heap.size + 1) ⟨none,0,none,0⟩ ⟨id,n,[],[],false⟩ (fun _ => False) := by
 have x1 := Bx.new (w.alloc (.cells #[.int .i64 0,.int .i64 0,.slice none 0 0,.slice none 0 0,.bool false] 39)) 39 #[.int .i64 id,.int .i64 n,.slice none 0 0,.slice none 0 0,.bool false]
 rw [World.size_alloc] at x1
 exact ⟨x1,ow_mb0 _,fun b h => h.elim,by omega,(oneA16 w _).trans ((oneA16 _ _).mono (oneA16 w _).size)⟩
set_option maxRecDepth 100000 in
set_option maxHeartbeats 3200000 in
theorem nmbS_any (id n : Int) (w : World) :
  Calls Try.prog 104 #[.int .i64 id,.int .i64 n] w fun e w' => AnsMf w w' e (newMb id n).1 (newMb id n).2 := by
 have hmix := mixed17
 have hb0 := oneA16 w (.cells #[.int .i64 0,.int .i64 0,.slice none 0 0,.slice none 0 0,.bool false] 39)
 have hx := Bx.new w 39 #[.int .i64 0,.int .i64 0,.slice none 0 0,.slice none 0 0,.bool false]
 have T0 := mb_start w id n
 have HR0 : Hid (Bx ((w.alloc (.cells #[.int .i64 0,.int .i64 0,.slice none 0 0,.slice none 0 0,.bool false] 39)).alloc (.cells #[.int .i64 id,.int .i64 n,.slice none 0 0,.slice none 0 0,.bool false] 39)) w.heap.size 39 #[.int .i64 0,.int .i64 0,.slice none 0 0,.slice none 0 0,.bool false]) := hx.alloc _
 cases e1 : inB n 1 5 with
 | false =>
  have HZ : Hid (newMb id n = (zeroMb,false)) := newMb_no (.inl e1)
  generalize hW : w.alloc (.cells #[.int .i64 0,.int .i64 0,.slice none 0 0,.slice none 0 0,.bool false] 39) = W at *
  have HB0 : Hid (Below w.heap.size w W) := hb0
  obtain ⟨c0,c1,c2,c3,c4⟩ := Bx.r5 hx
  obtain ⟨f0,f1,f2,f3,f4⟩ := hx.f5
  clear hx hb0 T0 HR0
  go_enter Try.func104,Try.ntmps104
  go_wp2_with (go_at_call 65;refine (l1In_any _ _ _ _).mono ?_;rintro e w' ⟨rfl,hw'⟩;rw [hw'];clear hw')
  refine bodyPost_ret (v := .tuple #[mbV ⟨none,0,none,0⟩ zeroMb,.bool false]) (by simp [results,Try.results104,go_sem,mbV,mbC,zeroMb, *]) rfl ?_
  rw [HZ.out]
  exact ⟨_,rfl,ansM_zero ((wrt5 W w.heap.size).below HB0.out HB0.out.size (fun b h => by rw [h];exact Nat.le_refl _))⟩
 | true =>
 have hn5 := inB7.1 e1
 have wn : wrap64 (n - 1) = n - 1 := by unfold wrap64;omega
 cases e2 : inB id 0 (n - 1) with
 | false =>
  have HZ : Hid (newMb id n = (zeroMb,false)) := newMb_no (.inr e2)
  generalize hW : w.alloc (.cells #[.int .i64 0,.int .i64 0,.slice none 0 0,.slice none 0 0,.bool false] 39) = W at *
  have HB0 : Hid (Below w.heap.size w W) := hb0
  obtain ⟨c0,c1,c2,c3,c4⟩ := Bx.r5 hx
  obtain ⟨f0,f1,f2,f3,f4⟩ := hx.f5
  clear hx hb0 T0 HR0
  go_enter Try.func104,Try.ntmps104
  go_wp2_with (go_at_call 65;refine (l1In_any _ _ _ _).mono ?_;rintro e w' ⟨rfl,hw'⟩;rw [hw'];clear hw')
  refine bodyPost_ret (v := .tuple #[mbV ⟨none,0,none,0⟩ zeroMb,.bool false]) (by simp [results,Try.results104,go_sem,mbV,mbC,zeroMb, *]) rfl ?_
  rw [HZ.out]
  exact ⟨_,rfl,ansM_zero ((wrt5 W w.heap.size).below HB0.out HB0.out.size (fun b h => by rw [h];exact Nat.le_refl _))⟩
 | true =>
 obtain ⟨N,rfl⟩ : ∃ N : Nat,n = (N : Int) := ⟨n.toNat,by omega⟩
 have HZ : Hid (newMb id (N : Int) = (⟨id,(N : Int),List.replicate N (newRw (N : Int)),[],false⟩,true)) := by rw [Hid,newMb_yes e1 e2];rfl
 have HT0 : Hid (MO w ((w.alloc (.cells #[.int .i64 0,.int .i64 0,.slice none 0 0,.slice none 0 0,.bool false] 39)).alloc (.cells #[.int .i64 id,.int .i64 (N : Int),.slice none 0 0,.slice none 0 0,.bool false] 39)) (w.heap.size + 1) ⟨none,0,none,0⟩ ⟨id,(N : Int),[],[],false⟩ (fun _ => False)) := T0
 clear hx hb0 T0
 go_enter Try.func104,Try.ntmps104
 go_wp2_with (go_at_call 65;refine (l1In_any _ _ _ _).mono ?_;rintro e w' ⟨rfl,hw'⟩;rw [hw'];clear hw')
 clear e1 e2 wn
 go_loopw [7] (fun i wr => ∃ k : Nat,k ≤ N ∧ i = .int .i64 (k : Int) ∧ ∃ A R fp,Hid (R = List.replicate k (newRw (N : Int))) ∧ MO w wr (w.heap.size + 1) A ⟨id,(N : Int),R,[],false⟩ fp ∧ Bx wr w.heap.size 39 #[.int .i64 0,.int .i64 0,.slice none 0 0,.slice none 0 0,.bool false]) (fun i _ => N - (intOf i).toNat)
 case atStart => exact ⟨0,Nat.zero_le _,rfl,_,[],_,rfl,HT0.out,HR0.out⟩
 case round =>
  obtain ⟨k,hk,rfl,A,R,fp,hR,M,hres⟩ := hrel
  by_cases hlt : k < N
  ·have k1 : (k : Int) < (N : Int) := by omega
   have hRl : R.length ≤ 1000000 := by rw [hR.out,List.length_replicate];omega
   have HRes : Hid (Bx wr w.heap.size 39 #[.int .i64 0,.int .i64 0,.slice none 0 0,.slice none 0 0,.bool false]) := hres
   have HM : Hid (MO w wr (w.heap.size + 1) A ⟨id,(N : Int),R,[],false⟩ fp) := M
   have c2 : wr.drew.cell? ⟨w.heap.size + 1,2,none⟩ = some (.slice A.ra R.length A.rc) := M.own.at 2 rfl
   have hbd : Below wr.heap.size wr wr.drew := (Same.drewN wr 1).below
   clear M hres
   go_wp2_with fail
   refine gt_begin (S := fun X : World => X.cell? ⟨w.heap.size + 1,2,none⟩ = some (.slice A.ra R.length A.rc)) 7 hmix (by kernel_rfl) ?_
   have hHeld : (fun X : World => X.cell? ⟨w.heap.size + 1,2,none⟩ = some (.slice A.ra R.length A.rc)) wr.drew := c2
   refine gt_take (i := 0) (v := ?_) rfl (by kernel_rfl) (by kernel_rfl) (by kernel_rfl) (by kernel_rfl) (fun _ _ _ h => h) (Or.inl ⟨by rfl, ?_⟩) hHeld ?_
   rotate_left
   ·(intro X hSX;(try dsimp only at hSX);have g0 := hSX;go_simp;try with_reducible rfl)
   try simp only [Act.put,List.setIfInBounds_toArray,List.set_cons_zero,List.set_cons_succ]
   refine gt_take (i := 1) (v := ?_) rfl (by kernel_rfl) (by kernel_rfl) (by kernel_rfl) (by kernel_rfl) (fun _ _ _ h => h) (Or.inl ⟨by rfl, ?_⟩) hHeld ?_
   rotate_left
   ·(intro X hSX;(try dsimp only at hSX);have g0 := hSX;go_simp;try with_reducible rfl)
   try simp only [Act.put,List.setIfInBounds_toArray,List.set_cons_zero,List.set_cons_succ]
   refine gt_pure (i := 2) (v := ?_) rfl (by kernel_rfl) (by kernel_rfl) (by kernel_rfl) (fun _ _ _ h => h) (Or.inl ⟨by rfl, ?_⟩) ?_
   rotate_left
   ·(intro X;go_simp;try with_reducible rfl)
   try simp only [Act.put,List.setIfInBounds_toArray,List.set_cons_zero,List.set_cons_succ]
   refine gt_one (i := 3) rfl (by kernel_rfl) (by kernel_rfl) (fun K hK => ?_)
   go_simp
   go_at_call 141
   refine (nrwS_any _ _).mono ?_
   rintro e w1 ⟨Ar,rfl,fr,hr1,hr2,hr3⟩
   have hb1 : Below wr.heap.size wr w1 := hbd.trans (hr3.mono hbd.size)
   have hA := HM.out.push hb1 hr1 (fun b hb => hr2 b hb) hRl
   have d2 : w1.cell? ⟨w.heap.size + 1,2,none⟩ = some (.slice A.ra R.length A.rc) := (HM.out.own.below hb1).at 2 rfl
   have d3 := ((HM.out.own.below hb1).alloc (.cells (rwC Ar (newRw (N : Int))) 51)).at 2 rfl
   refine hK.out _ _ d2 (fun hHeldN => ?_)
   clear hK hHeld
   have hHeld := hHeldN
   try simp only [Act.put,List.setIfInBounds_toArray,List.set_cons_zero,List.set_cons_succ]
   unfold rwV
   unfold rwC at hA d3 ⊢
   refine gt_one (i := 4) rfl (by kernel_rfl) (by kernel_rfl) (fun K hK => ?_)
   go_simp
   refine hK.out _ _ d3 (fun hHeldN => ?_)
   clear hK hHeld
   have hHeld := hHeldN
   try simp only [Act.put,List.setIfInBounds_toArray,List.set_cons_zero,List.set_cons_succ]
   refine gt_one (i := 5) rfl (by kernel_rfl) (by kernel_rfl) (fun K hK => ?_)
   refine step_append_of (by rfl) _ _ _ _ (by rfl) (.slice A.ra R.length A.rc) _ (by rfl) (by rfl) hA ⟨rfl,rfl,rfl,rfl⟩ ?_
   rintro v9 w4 ⟨a9,c9,rfl,q1,q2,b4,b5,fp9,hM9⟩
   refine hK.out _ _ q1 (fun hHeldN => ?_)
   clear hK hHeld
   have hHeld := hHeldN
   try simp only [Act.put,List.setIfInBounds_toArray,List.set_cons_zero,List.set_cons_succ]
   refine gt_take (i := 6) (v := ?_) rfl (by kernel_rfl) (by kernel_rfl) (by kernel_rfl) (by kernel_rfl) (fun _ _ _ h => h) (Or.inl ⟨by rfl, ?_⟩) hHeld ?_
   rotate_left
   ·(intro X hSX;(try dsimp only at hSX);have g0 := hSX;go_simp;try with_reducible rfl)
   try simp only [Act.put,List.setIfInBounds_toArray,List.set_cons_zero,List.set_cons_succ]
   refine gt_last rfl (by kernel_rfl) (by kernel_rfl) (fun K hK => ?_)
   go_simp
   refine hK.out _ _ ?_
   have HM9 : Hid (MO w (w4.setCell ⟨w.heap.size + 1,2,none⟩ (.slice a9 (R.length + 1) c9)) (w.heap.size + 1) ⟨a9,c9,A.sa,A.sc⟩ ⟨id,(N : Int),R ++ [newRw (N : Int)],[],false⟩ fp9) := hM9
   have HRes9 : Hid (Bx (w4.setCell ⟨w.heap.size + 1,2,none⟩ (.slice a9 (R.length + 1) c9)) w.heap.size 39 #[.int .i64 0,.int .i64 0,.slice none 0 0,.slice none 0 0,.bool false]) := (b5.block w.heap.size (Nat.lt_succ_self _)).trans HRes.out
   have HR9 : Hid (R ++ [newRw (N : Int)] = List.replicate (k + 1) (newRw (N : Int))) := by rw [Hid,hR.out,List.replicate_succ']
   clear hM9 hA d2 d3 hr1 hr2 hr3
   generalize w4.setCell ⟨w.heap.size + 1,2,none⟩ (.slice a9 (R.length + 1) c9) = W9 at *
   go_wp2
   go_roundw
   case rel => exact ⟨k + 1,by omega,by go_num,_,_,_,HR9,HM9.out,HRes9.out⟩
   case measure => simp [intOf];omega
  ·have k1 : ¬ ((k : Int) < (N : Int)) := by omega
   have e : k = N := by omega
   have HRN : Hid (R = List.replicate N (newRw (N : Int))) := by rw [Hid,hR.out,e]
   clear e
   obtain ⟨o0,o1,o2,o3,o4⟩ := Bx.r5 M.own
   obtain ⟨r0,r1,r2,r3,r4⟩ := Bx.r5 hres
   obtain ⟨f0,f1,f2,f3,f4⟩ := hres.f5
   have HA : Hid (NewL w (((((wr.setCell ⟨w.heap.size,0,none⟩ (.int .i64 id)).setCell ⟨w.heap.size,1,none⟩ (.int .i64 (N : Int))).setCell ⟨w.heap.size,2,none⟩ (.slice A.ra R.length A.rc)).setCell ⟨w.heap.size,3,none⟩ (.slice A.sa 0 A.sc)).setCell ⟨w.heap.size,4,none⟩ (.bool false)) (mbCels ⟨id,(N : Int),R,[],false⟩) (mbVals A ⟨id,(N : Int),R,[],false⟩)) := M.ans (Nat.le_refl _) (Nat.le_succ _)
   simp only [List.length_nil] at o0 o1 o2 o3 o4
   clear M hres hR
   go_wp2
   refine bodyPost_ret (v := .tuple #[mbV A ⟨id,(N : Int),R,[],false⟩,.bool true]) (by simp [results,Try.results104,go_sem,mbV,mbC, *]) rfl ?_
   rw [HZ.out,← HRN.out]
   exact ⟨_,rfl,HA.out⟩
end Go.Proofs.Ythioodpmgifomaa