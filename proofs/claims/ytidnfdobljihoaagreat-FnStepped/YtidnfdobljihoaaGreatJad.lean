/-
  Texts in one: Mbp Fnp Mbs Mbt Mbu Mbv Mbw Grp Grq Mbx Mbm Mbk.
-/
import Derived.Test.YtidnfdobljihoaaGreatJac
import Derived.Test.YtidnfdobljihoaaGreatJab
import Derived.Test.YtidnfdobljihoaaGreatJaa
import Derived.BigQuiet
namespace Go.Proofs.YtidnfdobljihoaaGreat
set_option linter.unusedVariables false
set_option linter.unusedSimpArgs false
open Go.RowKit Go.Sort
structure Mb where
 id : Int
 n : Int
 rows : List Rw
 sung : List Int
 done : Bool
def zeroMb : Mb := ⟨0,0,[],[],false⟩
def rowN (R : List Rw) (j : Nat) : Rw := R.getD j zeroRw
def Mb.i (m : Mb) : Nat := m.id.toNat
def Mb.k (m : Mb) : Nat := m.n.toNat
def Mb.own (m : Mb) : Rw := rowN m.rows m.i
def okSg (m : Mb) : Bool := (List.range m.sung.length).all (fun i => inB (el m.sung i) 0 59 && (m.done || decide (el m.sung i = (i : Int))))
def okMb (m : Mb) : Bool :=
 inB m.n 1 5 && (inB m.id 0 (m.n - 1) && (decide ((m.rows.length : Int) = m.n) && (decide (m.sung.length ≤ 60) && (risB m.sung && (m.rows.all (fun r => okRw r m.n) && (okSg m &&
  (decide (el m.own.got m.i = (m.own.txt.length : Int)) && (decide (m.id ∉ m.own.sus) && (!m.done || m.own.rdy)))))))))
def newMb (id n : Int) : Mb × Bool := if inB n 1 5 = true ∧ inB id 0 (n - 1) = true then (⟨id,n,List.replicate n.toNat (newRw n),[],false⟩,true) else (zeroMb,false)
def Mb.put (m : Mb) (o : Rw) : Mb := { m with rows := m.rows.set m.i o }
def sayMb (m : Mb) (t : List UInt8) : Mb × Bool :=
 if m.own.wed = true ∨ m.done = true ∨ m.own.txt.length = 12 ∨ 20 < t.length ∨ m.own.ver = 1000000 then (m,false)
 else (m.put { m.own with txt := m.own.txt ++ [t],got := m.own.got.set m.i (el m.own.got m.i + 1),ver := m.own.ver + 1 },true)
def doubtMb (m : Mb) (who : Int) : Mb × Bool :=
 if inB who 0 (m.n - 1) = false ∨ who = m.id ∨ who ∈ m.own.sus ∨ m.done = true ∨ m.own.ver = 1000000 then (m,false)
 else (m.put { m.own with sus := putL m.own.sus who,wed := true,ver := m.own.ver + 1 },true)
def heardMb (m : Mb) (fr : Int) (r : Rw) : Mb × Bool :=
 if inB fr 0 (m.n - 1) = false ∨ fr = m.id ∨ fr ∈ m.own.sus ∨ m.done = true ∨ okRw r m.n = false ∨ r.ver ≤ (rowN m.rows fr.toNat).ver then (m,false)
 else ({ m with rows := m.rows.set fr.toNat r },true)
def leftN (n : Nat) (sus : List Int) : List Nat := (List.range n).filter (fun j => decide ((j : Int) ∉ sus))
def learnS (id : Nat) (s : List Int) (r : List Int) : List Int := r.foldl (fun s x => if x = (id : Int) then s else putL s x) s
def learn1 (id : Nat) (o : Rw) (k : Nat) (r : Rw) : Rw := if k = id ∨ (r.wed = false ∧ r.sus = []) then o else { o with wed := true,sus := learnS id o.sus r.sus }
def learn (R : List Rw) (id : Nat) (o : Rw) (L : List Nat) : Rw := L.foldl (fun o k => learn1 id o k (rowN R k)) o
def gotUp (R : List Rw) (o : Rw) (n : Nat) : List Int := (List.range n).map (fun j => max (el o.got j) ((rowN R j).txt.length : Int))
def sings (R : List Rw) (n q : Nat) : Bool := R.all (fun r => decide (((q / n : Nat) : Int) < el r.got (q % n)))
def sing (R : List Rw) (n : Nat) : Nat → List Int → List Int
 | 0,s => s
 | f + 1,s => if sings R n s.length = true then sing R n f (s ++ [(s.length : Int)]) else s
def leadOk (R : List Rw) (o : Rw) (L : List Nat) : Bool := L.all (fun k => (rowN R k).wed && o.sus.all (fun x => decide (x ∈ (rowN R k).sus)))
def best (R : List Rw) (L : List Nat) (a : Int × List Int) : Int × List Int := L.foldl (fun a k => if (rowN R k).rdy = true ∧ a.1 < (rowN R k).by_ then ((rowN R k).by_,(rowN R k).trm) else a) a
def meets (R : List Rw) : List Nat → List Int
 | [] => []
 | k :: t => t.foldl (fun acc j => pairB min acc (rowN R j).got) (rowN R k).got
def endOf (R : List Rw) (L : List Nat) : List Int := if (best R L (-1,[])).1 < 0 then meets R L else (best R L (-1,[])).2
def lead (R : List Rw) (id : Nat) (o : Rw) (L : List Nat) : Rw := if o.rdy = true ∧ (id : Int) ≤ o.by_ then o else if leadOk R o L = true then { o with rdy := true,by_ := (id : Int),trm := endOf R L } else o
def adopt (R : List Rw) (id : Nat) (o : Rw) (f : Nat) : Rw :=
 if (rowN R f).rdy = true ∧ (rowN R f).by_ = (f : Int) ∧ (id : Int) ∉ (rowN R f).sus ∧ ¬ (o.rdy = true ∧ (f : Int) ≤ o.by_) then { o with rdy := true,by_ := (f : Int),trm := (rowN R f).trm } else o
def ends (R : List Rw) (id : Nat) (o : Rw) (L : List Nat) : Bool := L.all (fun k => (rowN R k).rdy && (decide ((rowN R k).by_ = o.by_) && (decide ((rowN R k).trm = o.trm) && decide ((id : Int) ∉ (rowN R k).sus))))
def sameRw (a b : Rw) : Bool := decide (a.wed = b.wed ∧ a.rdy = b.rdy ∧ a.by_ = b.by_ ∧ a.got = b.got ∧ a.sus = b.sus ∧ a.trm = b.trm)
def songT (s T : List Int) : List Int := (wovs T 12).foldl (fun s q => if q ∈ s then s else putL s q) s
def mo1 (m : Mb) : Rw := learn m.rows m.i m.own (leftN m.k m.own.sus)
def mo2 (m : Mb) : Rw := if (mo1 m).wed = true then mo1 m else { mo1 m with got := gotUp m.rows (mo1 m) m.k }
def moS (m : Mb) : List Int := if (mo1 m).wed = true then m.sung else sing (m.rows.set m.i (mo2 m)) m.k (60 - m.sung.length) m.sung
def moL (m : Mb) : List Nat := leftN m.k (mo2 m).sus
def mo3 (m : Mb) : Rw := if (mo2 m).wed = true ∧ m.k < 2 * (moL m).length ∧ (moL m).head? = some m.i then lead (m.rows.set m.i (mo2 m)) m.i (mo2 m) (moL m) else mo2 m
def mo4 (m : Mb) : Rw := if (mo3 m).wed = true ∧ (moL m).head? ≠ some m.i then adopt (m.rows.set m.i (mo3 m)) m.i (mo3 m) ((moL m).headD 0) else mo3 m
def moE (m : Mb) : Bool := (mo4 m).rdy && (decide (m.k < 2 * (moL m).length) && ends (m.rows.set m.i (mo4 m)) m.i (mo4 m) (moL m))
def mo5 (m : Mb) : Rw := if sameRw m.own (mo4 m) = true then mo4 m else { mo4 m with ver := (mo4 m).ver + 1 }
def stepMb (m : Mb) : Mb := if m.done = true ∨ m.own.ver = 1000000 then m else { m with rows := m.rows.set m.i (mo5 m),sung := if moE m = true then songT (moS m) (mo4 m).trm else moS m,done := moE m }
theorem mem_learnS {id : Nat} {x : Int} : ∀ {r s : List Int},x ∈ learnS id s r ↔ x ∈ s ∨ (x ∈ r ∧ x ≠ (id : Int))
 | [],s => by simp [learnS]
 | y :: r,s => by
  have ih := mem_learnS (id := id) (x := x) (r := r) (s := if y = (id : Int) then s else putL s y)
  unfold learnS at ih ⊢
  rw [List.foldl_cons,ih]
  by_cases e : y = (id : Int)
  ·rw [if_pos e]
   constructor
   ·rintro (h | ⟨h,h2⟩)
    ·exact .inl h
    ·exact .inr ⟨List.mem_cons_of_mem _ h,h2⟩
   ·rintro (h | ⟨h,h2⟩)
    ·exact .inl h
    ·rcases List.mem_cons.1 h with h | h
     ·exact absurd (h.trans e) h2
     ·exact .inr ⟨h,h2⟩
  ·rw [if_neg e,mem_putL]
   constructor
   ·rintro ((h | h) | ⟨h,h2⟩)
    ·exact .inr ⟨by rw [h];exact List.mem_cons_self,by rw [h];exact e⟩
    ·exact .inl h
    ·exact .inr ⟨List.mem_cons_of_mem _ h,h2⟩
   ·rintro (h | ⟨h,h2⟩)
    ·exact .inl (.inr h)
    ·rcases List.mem_cons.1 h with h | h
     ·exact .inl (.inl h)
     ·exact .inr ⟨h,h2⟩
structure Lrn (o o' : Rw) : Prop where
 ver : o'.ver = o.ver
 txt : o'.txt = o.txt
 got : o'.got = o.got
 rdy : o'.rdy = o.rdy
 by_ : o'.by_ = o.by_
 trm : o'.trm = o.trm
 sus : ∀ x ∈ o.sus,x ∈ o'.sus
 wed : o.wed = true → o'.wed = true
 new : o'.wed = false → o'.sus = o.sus
theorem Lrn.refl (o : Rw) : Lrn o o := ⟨rfl,rfl,rfl,rfl,rfl,rfl,fun _ h => h,fun h => h,fun _ => rfl⟩
theorem learn1_lrn (id : Nat) (o : Rw) (k : Nat) (r : Rw) : Lrn o (learn1 id o k r) := by
 unfold learn1
 split
 ·exact Lrn.refl o
 ·exact ⟨rfl,rfl,rfl,rfl,rfl,rfl,fun x hx => mem_learnS.2 (.inl hx),fun _ => rfl,fun h => by cases h⟩
theorem Lrn.trans {a b c : Rw} (h : Lrn a b) (k : Lrn b c) : Lrn a c := ⟨k.ver.trans h.ver,k.txt.trans h.txt,k.got.trans h.got,k.rdy.trans h.rdy,k.by_.trans h.by_,k.trm.trans h.trm,fun x hx => k.sus x (h.sus x hx),fun hw => k.wed (h.wed hw),fun hw => by
 have hb : b.wed = false := by
  cases e : b.wed with
  | false => rfl
  | true => rw [k.wed e] at hw;cases hw
 rw [k.new hw,h.new hb]⟩
theorem learn_lrn (R : List Rw) (id : Nat) : ∀ (L : List Nat) (o : Rw),Lrn o (learn R id o L)
 | [],o => Lrn.refl o
 | k :: L,o => (learn1_lrn id o k (rowN R k)).trans (learn_lrn R id L (learn1 id o k (rowN R k)))
theorem learn_sus (R : List Rw) (id : Nat) : ∀ (L : List Nat) (o : Rw) {x : Int},x ∈ (learn R id o L).sus → x ∈ o.sus ∨ ∃ k ∈ L,k ≠ id ∧ x ∈ (rowN R k).sus ∧ x ≠ (id : Int)
 | [],o,x,h => .inl h
 | k :: L,o,x,h => by
  rcases learn_sus R id L (learn1 id o k (rowN R k)) h with h | ⟨k',h1,h2⟩
  ·unfold learn1 at h
   split at h
   ·exact .inl h
   ·rename_i hn
    rcases mem_learnS.1 h with h | ⟨h,h2⟩
    ·exact .inl h
    ·exact .inr ⟨k,List.mem_cons_self,fun e => hn (.inl e),h,h2⟩
  ·exact .inr ⟨k',List.mem_cons_of_mem _ h1,h2⟩
theorem Lrn.nx {o o' : Rw} (h : Lrn o o') : Nx o o' :=
 ⟨by rw [h.ver];exact Int.le_refl _,by rw [h.txt];exact List.prefix_refl _,fun i => by rw [h.got];exact Int.le_refl _,h.sus,fun hw => ⟨h.wed hw,h.got,h.txt⟩,fun hr => ⟨by rw [h.rdy,hr],by rw [h.by_];exact Int.le_refl _,fun _ => h.trm⟩⟩
theorem mem_leftN {n : Nat} {sus : List Int} {j : Nat} : j ∈ leftN n sus ↔ j < n ∧ (j : Int) ∉ sus := by simp [leftN]
end Go.Proofs.YtidnfdobljihoaaGreat
namespace Go.Proofs.YtidnfdobljihoaaGreat
set_option linter.unusedVariables false
set_option linter.unusedSimpArgs false
def fl (al : List Bool) (i : Nat) : Bool := al.getD i false
theorem pair_ok {f : Int → Int → Int} (hf : ∀ x y,(0 ≤ x ∧ x ≤ 1000000) → (0 ≤ y ∧ y ≤ 1000000) → 0 ≤ f x y ∧ f x y ≤ 1000000) {xs ys : List Int} (h1 : okB xs = true) (h2 : okB ys = true) (hl : xs.length = ys.length) : pairB f xs ys = jn f xs ys xs.length ∧ (pairB f xs ys).length = xs.length ∧ okB (pairB f xs ys) = true := by
 have ht : twoB xs ys = true := by simp [twoB,h1,h2,hl]
 have e : pairB f xs ys = jn f xs ys xs.length := by rw [pairB,if_pos ht]
 have hlen : (pairB f xs ys).length = xs.length := by rw [e,jn_length]
 refine ⟨e,hlen, ?_⟩
 have h8 := okB_len h1
 refine okB_true_of (by omega) (by omega) (fun j hj => ?_)
 rw [hlen] at hj
 rw [e,jn_el _ _ _ hj]
 have := hf _ _ (okB_el h1 hj) (okB_el h2 (i := j) (by omega))
 simp [inB]
 omega
theorem minOk : ∀ x y : Int,(0 ≤ x ∧ x ≤ 1000000) → (0 ≤ y ∧ y ≤ 1000000) → 0 ≤ min x y ∧ min x y ≤ 1000000 := fun x y h1 h2 => by omega
set_option linter.unusedVariables false
set_option linter.unusedSimpArgs false
open Go.RowKit Go.Sort
structure OkR (r : Rw) (n : Nat) : Prop where
 n5 : 1 ≤ n ∧ n ≤ 5
 ver : 0 ≤ r.ver ∧ r.ver ≤ 1000000
 tl : r.txt.length ≤ 12
 ts : ∀ t ∈ r.txt,t.length ≤ 20
 got : okB r.got = true
 gl : r.got.length = n
 g12 : ∀ x ∈ r.got,x ≤ 12
 sus : ∀ x ∈ r.sus,0 ≤ x ∧ x < (n : Int)
 ris : risB r.sus = true
 rdy : r.rdy = true → r.wed = true ∧ (0 ≤ r.by_ ∧ r.by_ < (n : Int)) ∧ okB r.trm = true ∧ r.trm.length = n ∧ ∀ x ∈ r.trm,x ≤ 12
 not : r.rdy = false → r.by_ = 0 ∧ r.trm = []
theorem smB_iff {v : List Int} {n : Nat} : smB v (n : Int) = true ↔ okB v = true ∧ v.length = n ∧ ∀ x ∈ v,x ≤ 12 := by
 simp only [smB,Bool.and_eq_true,decide_eq_true_eq,List.all_eq_true]
 constructor
 ·rintro ⟨h1,h2,h3⟩;exact ⟨h1,by omega,h3⟩
 ·rintro ⟨h1,h2,h3⟩;exact ⟨h1,by omega,h3⟩
theorem okRw_iff {r : Rw} {n : Nat} : okRw r (n : Int) = true ↔ OkR r n := by
 constructor
 ·intro h
  simp only [okRw,Bool.and_eq_true,decide_eq_true_eq,List.all_eq_true,susB] at h
  obtain ⟨h1,h2,h3,h4,⟨h5,h6⟩,h7,h8⟩ := h
  have h1 := inB7.1 h1
  have h2 := inB7.1 h2
  obtain ⟨g1,g2,g3⟩ := smB_iff.1 h4
  refine ⟨by omega,h2,h3,h7,g1,g2,g3,fun x hx => by have := inB7.1 (h5 x hx);omega,h6,fun hr => ?_,fun hr => ?_⟩
  ·rw [if_pos hr] at h8
   simp only [Bool.and_eq_true] at h8
   obtain ⟨k1,k2,k3⟩ := h8
   have k2 := inB7.1 k2
   obtain ⟨t1,t2,t3⟩ := smB_iff.1 k3
   exact ⟨k1,by omega,t1,t2,t3⟩
  ·rw [hr] at h8
   simp at h8
   exact h8
 ·intro h
  simp only [okRw,Bool.and_eq_true,decide_eq_true_eq,List.all_eq_true,susB]
  have := h.n5
  have := h.ver
  refine ⟨inB7.2 (by omega),inB7.2 (by omega),h.tl,smB_iff.2 ⟨h.got,h.gl,h.g12⟩,⟨fun x hx => inB7.2 (by have := h.sus x hx;omega),h.ris⟩,h.ts, ?_⟩
  cases hr : r.rdy with
  | true =>
   obtain ⟨k1,k2,k3,k4,k5⟩ := h.rdy hr
   rw [if_pos rfl]
   simp only [Bool.and_eq_true]
   exact ⟨k1,inB7.2 (by omega),smB_iff.2 ⟨k3,k4,k5⟩⟩
  | false =>
   obtain ⟨k1,k2⟩ := h.not hr
   simp [k1,k2]
theorem rowN_set {R : List Rw} {i j : Nat} {o : Rw} (hi : i < R.length) : rowN (R.set i o) j = if j = i then o else rowN R j := by
 unfold rowN
 rw [List.getD_eq_getElem?_getD,List.getD_eq_getElem?_getD,List.getElem?_set]
 by_cases e : i = j
 ·subst e;simp [hi]
 ·rw [if_neg e,if_neg (Ne.symm e)]
end Go.Proofs.YtidnfdobljihoaaGreat
namespace Go.Proofs.YtidnfdobljihoaaGreat
set_option linter.unusedVariables false
set_option linter.unusedSimpArgs false
open Go.RowKit Go.Sort
theorem ris_iff {xs : List Int} : risB xs = true ↔ xs.Pairwise (· < ·) := by rw [risB,decide_eq_true_iff,rises_pairwise]
theorem small_iff {v : List Int} {n : Nat} (hn : 1 ≤ n ∧ n ≤ 5) (hl : v.length = n) : (okB v = true ∧ ∀ x ∈ v,x ≤ 12) ↔ ∀ j,j < n → 0 ≤ el v j ∧ el v j ≤ 12 := by
 constructor
 ·rintro ⟨h1,h2⟩ j hj
  have := okB_el h1 (i := j) (by omega)
  exact ⟨this.1,h2 _ (el_mem (by omega))⟩
 ·intro h
  refine ⟨okB_true_of (by omega) (by omega) (fun j hj => ?_),fun x hx => ?_⟩
  ·have := h j (by omega)
   simp [inB]
   omega
  ·obtain ⟨j,hj,rfl⟩ := List.mem_iff_getElem.1 hx
   have := (h j (by omega)).2
   simpa [el,hj] using this
theorem OkR.g {r : Rw} {n : Nat} (h : OkR r n) : ∀ j,j < n → 0 ≤ el r.got j ∧ el r.got j ≤ 12 := (small_iff h.n5 h.gl).1 ⟨h.got,h.g12⟩
theorem OkR.t {r : Rw} {n : Nat} (h : OkR r n) (hr : r.rdy = true) : ∀ j,j < n → 0 ≤ el r.trm j ∧ el r.trm j ≤ 12 := (small_iff h.n5 (h.rdy hr).2.2.2.1).1 ⟨(h.rdy hr).2.2.1,(h.rdy hr).2.2.2.2⟩
theorem OkR.unr {r : Rw} {n : Nat} (h : OkR r n) (hw : r.wed = false) : r.rdy = false := by
 cases e : r.rdy with
 | false => rfl
 | true => rw [(h.rdy e).1] at hw;cases hw
theorem el_set {l : List Int} {i j : Nat} {x : Int} (hi : i < l.length) : el (l.set i x) j = if j = i then x else el l j := by
 unfold el
 rw [List.getD_eq_getElem?_getD,List.getD_eq_getElem?_getD,List.getElem?_set]
 by_cases e : i = j
 ·subst e;simp [hi]
 ·rw [if_neg e,if_neg (Ne.symm e)]
end Go.Proofs.YtidnfdobljihoaaGreat
namespace Go.Proofs.YtidnfdobljihoaaGreat
set_option linter.unusedVariables false
set_option linter.unusedSimpArgs false
open Go.RowKit Go.Sort
theorem el_snoc {s : List Int} {x : Int} {q : Nat} : el (s ++ [x]) q = if q = s.length then x else el s q := by
 unfold el
 rw [List.getD_eq_getElem?_getD,List.getD_eq_getElem?_getD]
 by_cases h : q < s.length
 ·rw [List.getElem?_append_left h,if_neg (by omega)]
 ·by_cases e : q = s.length
  ·subst e;simp
  ·rw [if_neg e,List.getElem?_append_right (by omega),List.getElem?_eq_none (by simp;omega),List.getElem?_eq_none (by omega)]
theorem sing_spec (R : List Rw) (n : Nat) : ∀ (f : Nat) (s : List Int),(∀ q,q < s.length → el s q = (q : Int)) → (sing R n f s).length ≤ s.length + f ∧ s.length ≤ (sing R n f s).length ∧ (∀ q,q < (sing R n f s).length → el (sing R n f s) q = (q : Int)) ∧ ∀ q,s.length ≤ q → q < (sing R n f s).length → sings R n q = true
 | 0,s,h => ⟨Nat.le_refl _,Nat.le_refl _,h,fun q h1 h2 => absurd h2 (by simp only [sing];omega)⟩
 | f + 1,s,h => by
  unfold sing
  split
  ·rename_i hs
   obtain ⟨h1,h2,h3,h4⟩ := sing_spec R n f (s ++ [(s.length : Int)]) (fun q hq => by
    rw [el_snoc]
    split
    ·rename_i e;rw [e]
    ·rename_i e;simp at hq;exact h q (by omega))
   rw [List.length_append,List.length_singleton] at h1 h2 h4
   refine ⟨by omega,by omega,h3,fun q q1 q2 => ?_⟩
   by_cases e : q = s.length
   ·rw [e];exact hs
   ·exact h4 q (by omega) q2
  ·exact ⟨by omega,Nat.le_refl _,h,fun q h1 h2 => absurd h2 (by omega)⟩
theorem best_spec (R : List Rw) : ∀ (L : List Nat) (a : Int × List Int),(best R L a = a ∨ ∃ k ∈ L,(rowN R k).rdy = true ∧ best R L a = ((rowN R k).by_,(rowN R k).trm)) ∧ a.1 ≤ (best R L a).1 ∧ ∀ k ∈ L,(rowN R k).rdy = true → (rowN R k).by_ ≤ (best R L a).1
 | [],a => ⟨.inl rfl,Int.le_refl _,fun k hk => by cases hk⟩
 | k :: L,a => by
  have e : best R (k :: L) a = best R L (if (rowN R k).rdy = true ∧ a.1 < (rowN R k).by_ then ((rowN R k).by_,(rowN R k).trm) else a) := rfl
  obtain ⟨h1,h2,h3⟩ := best_spec R L (if (rowN R k).rdy = true ∧ a.1 < (rowN R k).by_ then ((rowN R k).by_,(rowN R k).trm) else a)
  rw [e]
  by_cases c : (rowN R k).rdy = true ∧ a.1 < (rowN R k).by_
  ·rw [if_pos c] at h1 h2 h3 ⊢
   simp only at h2
   refine ⟨?_,by omega,fun k' hk' hr => ?_⟩
   ·rcases h1 with h1 | ⟨k',q1,q2,q3⟩
    ·exact .inr ⟨k,List.mem_cons_self,c.1,h1⟩
    ·exact .inr ⟨k',List.mem_cons_of_mem _ q1,q2,q3⟩
   ·rcases List.mem_cons.1 hk' with rfl | hk'
    ·exact h2
    ·exact h3 k' hk' hr
  ·rw [if_neg c] at h1 h2 h3 ⊢
   refine ⟨?_,h2,fun k' hk' hr => ?_⟩
   ·rcases h1 with h1 | ⟨k',q1,q2,q3⟩
    ·exact .inl h1
    ·exact .inr ⟨k',List.mem_cons_of_mem _ q1,q2,q3⟩
   ·rcases List.mem_cons.1 hk' with rfl | hk'
    ·have : ¬ a.1 < (rowN R k').by_ := fun h => c ⟨hr,h⟩
     omega
    ·exact h3 k' hk' hr
theorem meet_fold {R : List Rw} {n : Nat} (hn : 1 ≤ n ∧ n ≤ 5) : ∀ (L : List Nat) (acc : List Int),acc.length = n → (∀ s,s < n → 0 ≤ el acc s ∧ el acc s ≤ 12) → (∀ k ∈ L,(rowN R k).got.length = n ∧ ∀ s,s < n → 0 ≤ el (rowN R k).got s ∧ el (rowN R k).got s ≤ 12) →
  (L.foldl (fun acc j => pairB min acc (rowN R j).got) acc).length = n ∧ ∀ s,s < n → (0 ≤ el (L.foldl (fun acc j => pairB min acc (rowN R j).got) acc) s ∧ el (L.foldl (fun acc j => pairB min acc (rowN R j).got) acc) s ≤ el acc s) ∧ (∀ k ∈ L,el (L.foldl (fun acc j => pairB min acc (rowN R j).got) acc) s ≤ el (rowN R k).got s) ∧ (el (L.foldl (fun acc j => pairB min acc (rowN R j).got) acc) s = el acc s ∨ ∃ k ∈ L,el (L.foldl (fun acc j => pairB min acc (rowN R j).got) acc) s = el (rowN R k).got s)
 | [],acc,hl,ha,hL => ⟨hl,fun s hs => ⟨⟨(ha s hs).1,Int.le_refl _⟩,fun k hk => (by cases hk),.inl rfl⟩⟩
 | k :: L,acc,hl,ha,hL => by
  obtain ⟨k1,k2⟩ := hL k List.mem_cons_self
  have o1 := ((small_iff hn hl).2 ha).1
  have o2 := ((small_iff hn k1).2 k2).1
  obtain ⟨e1,e2,e3⟩ := pair_ok minOk o1 o2 (by rw [hl,k1])
  have hel : ∀ s,s < n → el (pairB min acc (rowN R k).got) s = min (el acc s) (el (rowN R k).got s) := fun s hs => by rw [e1,jn_el _ _ _ (by omega)]
  obtain ⟨h1,h2⟩ := meet_fold hn L (pairB min acc (rowN R k).got) (by rw [e2,hl]) (fun s hs => by rw [hel s hs];have := ha s hs;have := k2 s hs;omega) (fun j hj => hL j (List.mem_cons_of_mem _ hj))
  refine ⟨h1,fun s hs => ?_⟩
  obtain ⟨⟨a1,a2⟩,a3,a4⟩ := h2 s hs
  have hs2 := hel s hs
  simp only [List.foldl_cons]
  refine ⟨⟨a1,by omega⟩,fun j hj => ?_, ?_⟩
  ·rcases List.mem_cons.1 hj with rfl | hj
   ·omega
   ·exact a3 j hj
  ·rcases a4 with a4 | ⟨j,j1,j2⟩
   ·rcases Int.le_total (el acc s) (el (rowN R k).got s) with c | c
    ·exact .inl (by omega)
    ·exact .inr ⟨k,List.mem_cons_self,by omega⟩
   ·exact .inr ⟨j,List.mem_cons_of_mem _ j1,j2⟩
theorem meets_spec {R : List Rw} {n : Nat} (hn : 1 ≤ n ∧ n ≤ 5) {L : List Nat} (hne : L ≠ []) (hL : ∀ k ∈ L,(rowN R k).got.length = n ∧ ∀ s,s < n → 0 ≤ el (rowN R k).got s ∧ el (rowN R k).got s ≤ 12) :
  (meets R L).length = n ∧ ∀ s,s < n → 0 ≤ el (meets R L) s ∧ (∀ k ∈ L,el (meets R L) s ≤ el (rowN R k).got s) ∧ ∃ k ∈ L,el (meets R L) s = el (rowN R k).got s := by
 cases L with
 | nil => exact absurd rfl hne
 | cons k t =>
  obtain ⟨k1,k2⟩ := hL k List.mem_cons_self
  obtain ⟨h1,h2⟩ := meet_fold hn t (rowN R k).got k1 k2 (fun j hj => hL j (List.mem_cons_of_mem _ hj))
  refine ⟨h1,fun s hs => ?_⟩
  obtain ⟨⟨a1,a2⟩,a3,a4⟩ := h2 s hs
  refine ⟨a1,fun j hj => ?_, ?_⟩
  ·rcases List.mem_cons.1 hj with rfl | hj
   ·exact a2
   ·exact a3 j hj
  ·rcases a4 with a4 | ⟨j,j1,j2⟩
   ·exact ⟨k,List.mem_cons_self,a4⟩
   ·exact ⟨j,List.mem_cons_of_mem _ j1,j2⟩
end Go.Proofs.YtidnfdobljihoaaGreat
namespace Go.Proofs.YtidnfdobljihoaaGreat
set_option linter.unusedVariables false
set_option linter.unusedSimpArgs false
open Go.RowKit Go.Sort
theorem lead_keep (R : List Rw) (id : Nat) (o : Rw) (L : List Nat) : (lead R id o L).sus = o.sus ∧ (lead R id o L).wed = o.wed ∧ (lead R id o L).got = o.got ∧ (lead R id o L).txt = o.txt ∧ (lead R id o L).ver = o.ver := by
 unfold lead
 split
 ·exact ⟨rfl,rfl,rfl,rfl,rfl⟩
 ·split <;> exact ⟨rfl,rfl,rfl,rfl,rfl⟩
theorem adopt_keep (R : List Rw) (id : Nat) (o : Rw) (f : Nat) : (adopt R id o f).sus = o.sus ∧ (adopt R id o f).wed = o.wed ∧ (adopt R id o f).got = o.got ∧ (adopt R id o f).txt = o.txt ∧ (adopt R id o f).ver = o.ver := by
 unfold adopt
 split <;> exact ⟨rfl,rfl,rfl,rfl,rfl⟩
theorem mem_songF {x : Int} : ∀ {W s : List Int},x ∈ W.foldl (fun s q => if q ∈ s then s else putL s q) s ↔ x ∈ s ∨ x ∈ W
 | [],s => by simp
 | q :: W,s => by
  rw [List.foldl_cons,mem_songF]
  by_cases c : q ∈ s
  ·rw [if_pos c,List.mem_cons]
   constructor
   ·rintro (h | h)
    ·exact .inl h
    ·exact .inr (.inr h)
   ·rintro (h | h | h)
    ·exact .inl h
    ·rw [h];exact .inl c
    ·exact .inr h
  ·rw [if_neg c,mem_putL,List.mem_cons]
   constructor
   ·rintro ((h | h) | h)
    ·exact .inr (.inl h)
    ·exact .inl h
    ·exact .inr (.inr h)
   ·rintro (h | h | h)
    ·exact .inl (.inr h)
    ·exact .inl (.inl h)
    ·exact .inr h
theorem ris_songF : ∀ {W s : List Int},s.Pairwise (· < ·) → (W.foldl (fun s q => if q ∈ s then s else putL s q) s).Pairwise (· < ·)
 | [],s,h => h
 | q :: W,s,h => by
  rw [List.foldl_cons]
  refine ris_songF ?_
  split
  ·exact h
  ·exact putL_rises h
theorem upto_rises {s : List Int} (h : ∀ q,q < s.length → el s q = (q : Int)) : s.Pairwise (· < ·) := rises_pairwise.1 (fun i hi => by rw [h i (by omega),h (i + 1) (by omega)];omega)
theorem mem_upto {s : List Int} (h : ∀ q,q < s.length → el s q = (q : Int)) {x : Int} : x ∈ s ↔ ∃ q : Nat,q < s.length ∧ x = (q : Int) := by
 constructor
 ·intro hx
  obtain ⟨j,hj,rfl⟩ := List.mem_iff_getElem.1 hx
  exact ⟨j,hj,by rw [← h j hj];simp [el,hj]⟩
 ·rintro ⟨q,hq,rfl⟩
  rw [← h q hq]
  exact el_mem hq
theorem el_over {l : List Int} {j : Nat} (h : l.length ≤ j) : el l j = 0 := by
 unfold el
 rw [List.getD_eq_getElem?_getD,List.getElem?_eq_none h]
 rfl
theorem el_gotUp {R : List Rw} {o : Rw} {n j : Nat} (hj : j < n) : el (gotUp R o n) j = max (el o.got j) ((rowN R j).txt.length : Int) := by
 unfold gotUp el
 simp [hj]
theorem learn_ris (R : List Rw) (id : Nat) : ∀ (L : List Nat) (o : Rw),o.sus.Pairwise (· < ·) → (learn R id o L).sus.Pairwise (· < ·)
 | [],o,h => h
 | k :: L,o,h => by
  refine learn_ris R id L (learn1 id o k (rowN R k)) ?_
  unfold learn1
  split
  ·exact h
  ·simp only
   generalize (rowN R k).sus = r
   induction r generalizing o with
   | nil => exact h
   | cons x r ih =>
    unfold learnS
    rw [List.foldl_cons]
    split
    ·exact ih o h
    ·exact ih { o with sus := putL o.sus x } (putL_rises h)
end Go.Proofs.YtidnfdobljihoaaGreat
namespace Go.Proofs.YtidnfdobljihoaaGreat
set_option linter.unusedVariables false
set_option linter.unusedSimpArgs false
open Go.RowKit Go.Sort
structure OkM (m : Mb) (i n : Nat) : Prop where
 hid : m.id = (i : Int)
 hn : m.n = (n : Int)
 n5 : 1 ≤ n ∧ n ≤ 5
 lt : i < n
 len : m.rows.length = n
 sl : m.sung.length ≤ 60
 ris : m.sung.Pairwise (· < ·)
 ok : ∀ j,j < n → OkR (rowN m.rows j) n
 sg : ∀ q,q < m.sung.length → (0 ≤ el m.sung q ∧ el m.sung q ≤ 59) ∧ (m.done = false → el m.sung q = (q : Int))
 gown : el (rowN m.rows i).got i = ((rowN m.rows i).txt.length : Int)
 self : (i : Int) ∉ (rowN m.rows i).sus
 dn : m.done = true → (rowN m.rows i).rdy = true
theorem rowN_mem {R : List Rw} {j : Nat} (h : j < R.length) : rowN R j ∈ R := by
 unfold rowN
 rw [List.getD_eq_getElem?_getD,List.getElem?_eq_getElem h]
 exact List.getElem_mem h
theorem mem_rowN {R : List Rw} {r : Rw} (h : r ∈ R) : ∃ j,j < R.length ∧ r = rowN R j := by
 obtain ⟨j,hj,rfl⟩ := List.mem_iff_getElem.1 h
 exact ⟨j,hj,by simp [rowN,hj]⟩
theorem okMb_iff {m : Mb} : okMb m = true ↔ ∃ i n,OkM m i n := by
 constructor
 ·intro h
  simp only [okMb,okSg,Bool.and_eq_true,decide_eq_true_eq,List.all_eq_true,List.mem_range,Bool.or_eq_true] at h
  obtain ⟨h1,h2,h3,h4,h5,h6,h7,h8,h9,h10⟩ := h
  have h1 := inB7.1 h1
  have h2 := inB7.1 h2
  have hid : m.id = ((m.id.toNat : Nat) : Int) := by omega
  have hn : m.n = ((m.n.toNat : Nat) : Int) := by omega
  refine ⟨m.id.toNat,m.n.toNat,hid,hn,by omega,by omega,by omega,h4,ris_iff.1 h5,fun j hj => okRw_iff.1 (by rw [← hn];exact h6 _ (rowN_mem (by omega))),fun q hq => ?_,h8,by rw [← hid];exact h9,fun hd => ?_⟩
  ·obtain ⟨q1,q2⟩ := h7 q hq
   have := inB7.1 q1
   refine ⟨this,fun hd => ?_⟩
   rcases q2 with q2 | q2
   ·rw [hd] at q2;cases q2
   ·exact q2
  ·rw [hd] at h10
   have h11 : m.own.rdy = true := by simpa using h10
   exact h11
 ·rintro ⟨i,n,M⟩
  have hlt := M.lt
  have hn5 := M.n5
  have hi : m.i = i := by rw [Mb.i,M.hid];rfl
  simp only [okMb,okSg,Bool.and_eq_true,decide_eq_true_eq,List.all_eq_true,List.mem_range,Bool.or_eq_true]
  refine ⟨inB7.2 (by rw [M.hn];omega),inB7.2 (by rw [M.hid,M.hn];omega),by rw [M.len,M.hn],M.sl,ris_iff.2 M.ris,fun r hr => ?_,fun q hq => ?_, ?_, ?_, ?_⟩
  ·obtain ⟨j,hj,rfl⟩ := mem_rowN hr
   rw [M.hn]
   exact okRw_iff.2 (M.ok j (by rw [← M.len];exact hj))
  ·obtain ⟨q1,q2⟩ := M.sg q hq
   refine ⟨inB7.2 q1, ?_⟩
   cases hd : m.done with
   | true => exact .inl rfl
   | false => exact .inr (q2 hd)
  ·rw [Mb.own,hi];exact M.gown
  ·rw [Mb.own,hi,M.hid];exact M.self
  ·cases hd : m.done with
   | false => exact .inl rfl
   | true => exact .inr (by rw [Mb.own,hi];exact M.dn hd)
theorem nx_fol {a b : Rw} {n : Nat} (ha : OkR a n) (hb : OkR b n) (h : Nx a b) : folB a b (n : Int) = true := by
 simp only [folB,Bool.and_eq_true,decide_eq_true_eq,List.all_eq_true]
 refine ⟨okRw_iff.2 ha,okRw_iff.2 hb,h.ver,h.txt.length_le, ?_,h.sus, ?_, ?_, ?_⟩
 ·have ht : twoB a.got b.got = true := by simp [twoB,ha.got,hb.got,ha.gl,hb.gl]
  rw [underB,ht,Bool.true_and]
  exact leB_true (fun j _ => h.got j)
 ·exact (List.prefix_iff_eq_take.1 h.txt).symm
 ·cases e : a.wed with
  | false => rfl
  | true => rw [(h.wed e).1];rfl
 ·cases e : a.rdy with
  | false => rfl
  | true =>
   obtain ⟨k1,k2,_⟩ := h.rdy e
   simp [k1,k2]
theorem lead_loc {R : List Rw} {i n : Nat} {o : Rw} {L : List Nat} (ok : OkR o n) (hw : o.wed = true) (hi : i < n) (hne : L ≠ []) (hL : ∀ k ∈ L,OkR (rowN R k) n) : OkR (lead R i o L) n ∧ Nx o (lead R i o L) := by
 unfold lead
 split
 ·exact ⟨ok,Nx.refl _⟩
 ·rename_i hnb
  split
  ·obtain ⟨b1,b2,b3⟩ := best_spec R L (-1,[])
   have key : (endOf R L).length = n ∧ ∀ s,s < n → 0 ≤ el (endOf R L) s ∧ el (endOf R L) s ≤ 12 := by
    unfold endOf
    split
    ·obtain ⟨m1,m2⟩ := meets_spec ok.n5 hne (fun k hk => ⟨(hL k hk).gl,(hL k hk).g⟩)
     refine ⟨m1,fun s hs => ?_⟩
     obtain ⟨a1,a2,j,a3,a4⟩ := m2 s hs
     have := (hL j a3).g s hs
     omega
    ·rename_i c
     rcases b1 with e | ⟨j,j1,j2,j3⟩
     ·rw [e] at c;simp at c
     ·rw [j3]
      exact ⟨((hL j j1).rdy j2).2.2.2.1,(hL j j1).t j2⟩
   have hoT := (small_iff ok.n5 key.1).2 key.2
   refine ⟨⟨ok.n5,ok.ver,ok.tl,ok.ts,ok.got,ok.gl,ok.g12,ok.sus,ok.ris,fun _ => ⟨hw,by simp only;omega,hoT.1,key.1,hoT.2⟩,fun h => by cases h⟩,Int.le_refl _,List.prefix_refl _,fun j => Int.le_refl _,fun x hx => hx,fun hw => ⟨hw,rfl,rfl⟩,fun hr => ⟨rfl, ?_,fun e => ?_⟩⟩
   ·have : ¬ (i : Int) ≤ o.by_ := fun h => hnb ⟨hr,h⟩
    simp only
    omega
   ·have : ¬ (i : Int) ≤ o.by_ := fun h => hnb ⟨hr,h⟩
    simp only at e
    omega
  ·exact ⟨ok,Nx.refl _⟩
theorem adopt_loc {R : List Rw} {i n f : Nat} {o : Rw} (ok : OkR o n) (hw : o.wed = true) (hf : f < n) (hr : OkR (rowN R f) n) : OkR (adopt R i o f) n ∧ Nx o (adopt R i o f) := by
 unfold adopt
 split
 ·rename_i hc
  obtain ⟨c1,c2,c3,c4⟩ := hc
  refine ⟨⟨ok.n5,ok.ver,ok.tl,ok.ts,ok.got,ok.gl,ok.g12,ok.sus,ok.ris,fun _ => ⟨hw,by simp only;omega,(hr.rdy c1).2.2⟩,fun h => by cases h⟩,Int.le_refl _,List.prefix_refl _,fun j => Int.le_refl _,fun x hx => hx,fun hw => ⟨hw,rfl,rfl⟩,fun hr => ⟨rfl, ?_,fun e => ?_⟩⟩
  ·have : ¬ (f : Int) ≤ o.by_ := fun h => c4 ⟨hr,h⟩
   simp only
   omega
  ·have : ¬ (f : Int) ≤ o.by_ := fun h => c4 ⟨hr,h⟩
   simp only at e
   omega
 ·exact ⟨ok,Nx.refl _⟩
theorem OkM.i {m : Mb} {i n : Nat} (M : OkM m i n) : m.i = i := by rw [Mb.i,M.hid];rfl
theorem OkM.k {m : Mb} {i n : Nat} (M : OkM m i n) : m.k = n := by rw [Mb.k,M.hn];rfl
theorem OkM.own {m : Mb} {i n : Nat} (M : OkM m i n) : m.own = rowN m.rows i := by rw [Mb.own,M.i]
structure Stp (m : Mb) (i n : Nat) : Prop where
 ok : OkR (mo5 m) n
 nx : Nx (rowN m.rows i) (mo5 m)
 self : (i : Int) ∉ (mo5 m).sus
 gown : el (mo5 m).got i = ((mo5 m).txt.length : Int)
 ok4 : OkR (mo4 m) n
 rdy : (mo5 m).rdy = (mo4 m).rdy
 trm : (mo5 m).trm = (mo4 m).trm
 wedS : (mo1 m).wed = true → moS m = m.sung
 dry : (mo1 m).wed = false → moE m = false
set_option maxHeartbeats 1600000 in
theorem step_loc {m : Mb} {i n : Nat} (M : OkM m i n) (hv : (rowN m.rows i).ver ≠ 1000000) : Stp m i n := by
 have hi := M.i
 have hk := M.k
 have hown := M.own
 have hlt := M.lt
 have ok := M.ok i hlt
 have hov := ok.ver
 have hlen : i < m.rows.length := by rw [M.len];exact hlt
 have e1 : mo1 m = learn m.rows i (rowN m.rows i) (leftN n (rowN m.rows i).sus) := by rw [mo1,hi,hk,hown]
 have L1 : Lrn (rowN m.rows i) (mo1 m) := by rw [e1];exact learn_lrn _ _ _ _
 have hsus1 : ∀ x ∈ (mo1 m).sus,(0 ≤ x ∧ x < (n : Int)) ∧ x ≠ (i : Int) := fun x hx => by
  rw [e1] at hx
  rcases learn_sus _ _ _ _ hx with hx | ⟨k,k1,k2,k3,k4⟩
  ·exact ⟨ok.sus x hx,fun e => M.self (e ▸ hx)⟩
  ·exact ⟨(M.ok k (mem_leftN.1 k1).1).sus x k3,k4⟩
 have ok1 : OkR (mo1 m) n := ⟨ok.n5,by rw [L1.ver];exact ok.ver,by rw [L1.txt];exact ok.tl,by rw [L1.txt];exact ok.ts,by rw [L1.got];exact ok.got,by rw [L1.got];exact ok.gl,by rw [L1.got];exact ok.g12,fun x hx => (hsus1 x hx).1,ris_iff.2 (by rw [e1];exact learn_ris _ _ _ _ (ris_iff.1 ok.ris)),fun hr => by
  rw [L1.rdy] at hr
  obtain ⟨a1,a2⟩ := ok.rdy hr
  rw [L1.by_,L1.trm]
  exact ⟨L1.wed a1,a2⟩,fun hr => by rw [L1.rdy] at hr;rw [L1.by_,L1.trm];exact ok.not hr⟩
 have self1 : (i : Int) ∉ (mo1 m).sus := fun hx => (hsus1 _ hx).2 rfl
 have last : ∀ (o4 : Rw),OkR o4 n → o4.ver = (rowN m.rows i).ver → OkR { o4 with ver := o4.ver + 1 } n ∧ Nx o4 { o4 with ver := o4.ver + 1 } := fun o4 ok4 hv4 => ⟨⟨ok4.n5,by simp only;omega,ok4.tl,ok4.ts,ok4.got,ok4.gl,ok4.g12,ok4.sus,ok4.ris,ok4.rdy,ok4.not⟩,by simp only;omega,List.prefix_refl _,fun _ => Int.le_refl _,fun _ h => h,fun h => ⟨h,rfl,rfl⟩,fun h => ⟨h,Int.le_refl _,fun _ => rfl⟩⟩
 -- from the fourth row to the last
 have fin : ∀ {o4 : Rw},mo4 m = o4 → OkR o4 n → Nx (rowN m.rows i) o4 → o4.ver = (rowN m.rows i).ver → (i : Int) ∉ o4.sus → el o4.got i = (o4.txt.length : Int) → ((mo1 m).wed = true → moS m = m.sung) → ((mo1 m).wed = false → moE m = false) → Stp m i n := fun {o4} e4 ok4 nx4 hv4 self4 g4 s4 d4 => by
  obtain ⟨l1,l2⟩ := last o4 ok4 hv4
  by_cases c : sameRw m.own (mo4 m) = true
  ·have e5 : mo5 m = o4 := by rw [mo5,if_pos c,e4]
   exact ⟨by rw [e5];exact ok4,by rw [e5];exact nx4,by rw [e5];exact self4,by rw [e5];exact g4,by rw [e4];exact ok4,by rw [e5,e4],by rw [e5,e4],s4,d4⟩
  ·have e5 : mo5 m = { o4 with ver := o4.ver + 1 } := by rw [mo5,if_neg c,e4]
   exact ⟨by rw [e5];exact l1,by rw [e5];exact nx4.trans l2,by rw [e5];exact self4,by rw [e5];exact g4,by rw [e4];exact ok4,by rw [e5,e4],by rw [e5,e4],s4,d4⟩
 cases hw1 : (mo1 m).wed with
 | false =>
  have hr1 := ok1.unr hw1
  have e2 : mo2 m = { mo1 m with got := gotUp m.rows (mo1 m) n } := by rw [mo2,if_neg (by rw [hw1];simp),hk]
  have hg2 : ∀ j,j < n → el (mo2 m).got j = max (el (rowN m.rows i).got j) ((rowN m.rows j).txt.length : Int) := fun j hj => by rw [e2];simp only;rw [el_gotUp hj,L1.got]
  have hgl2 : (mo2 m).got.length = n := by rw [e2];simp [gotUp]
  have hx2 : Nx (mo1 m) (mo2 m) := by
   refine ⟨by rw [e2];exact Int.le_refl _,by rw [e2];exact List.prefix_refl _,fun j => ?_,fun x hx => by rw [e2];exact hx,fun h => (by rw [hw1] at h;cases h),fun h => (by rw [hr1] at h;cases h)⟩
   by_cases hj : j < n
   ·rw [hg2 j hj,L1.got];omega
   ·rw [el_over (by rw [ok1.gl];omega),el_over (by rw [hgl2];omega)];exact Int.le_refl _
  have hr2 : (mo2 m).rdy = false := by rw [e2];exact hr1
  have hw2 : (mo2 m).wed = false := by rw [e2];exact hw1
  have ht2 : (mo2 m).txt = (rowN m.rows i).txt := by rw [e2];exact L1.txt
  have hsm := (small_iff ok.n5 hgl2).2 (fun j hj => by rw [hg2 j hj];have := ok.g j hj;have := (M.ok j hj).tl;omega)
  have ok2 : OkR (mo2 m) n := ⟨ok.n5,by rw [e2];exact ok1.ver,by rw [e2];exact ok1.tl,by rw [e2];exact ok1.ts,hsm.1,hgl2,hsm.2,by rw [e2];exact ok1.sus,by rw [e2];exact ok1.ris,fun h => (by rw [hr2] at h;cases h),fun _ => by rw [e2];exact ok1.not hr1⟩
  have e3 : mo3 m = mo2 m := by rw [mo3,if_neg (by rw [hw2];simp)]
  have e4 : mo4 m = mo2 m := by rw [mo4,e3,if_neg (by rw [hw2];simp)]
  refine fin e4 ok2 (L1.nx.trans hx2) (by rw [e2];exact L1.ver) (by rw [e2];exact self1) ?_ (fun h => (by rw [hw1] at h;cases h)) (fun _ => by rw [moE,e4,hr2];rfl)
  rw [hg2 i hlt,ht2,M.gown]
  omega
 | true =>
  have e2 : mo2 m = mo1 m := by rw [mo2,if_pos hw1]
  have eL : moL m = leftN n (mo1 m).sus := by rw [moL,e2,hk]
  have eS : moS m = m.sung := by rw [moS,if_pos hw1]
  have hiL : i ∈ leftN n (mo1 m).sus := mem_leftN.2 ⟨hlt,self1⟩
  have hneL : leftN n (mo1 m).sus ≠ [] := fun e => by rw [e] at hiL;cases hiL
  have hrow : ∀ {o : Rw},OkR o n → ∀ j,j < n → OkR (rowN (m.rows.set i o) j) n := fun {o} ho j hj => by
   rw [rowN_set hlen]
   split
   ·exact ho
   ·exact M.ok j hj
  obtain ⟨ok3,nx3,k1,k2,k3,k4,k5⟩ : OkR (mo3 m) n ∧ Nx (mo1 m) (mo3 m) ∧ (mo3 m).sus = (mo1 m).sus ∧ (mo3 m).wed = true ∧ (mo3 m).got = (mo1 m).got ∧ (mo3 m).txt = (mo1 m).txt ∧ (mo3 m).ver = (mo1 m).ver := by
   by_cases c : (mo2 m).wed = true ∧ m.k < 2 * (moL m).length ∧ (moL m).head? = some m.i
   ·have e3 : mo3 m = lead (m.rows.set i (mo1 m)) i (mo1 m) (leftN n (mo1 m).sus) := by rw [mo3,if_pos c,e2,eL,hi]
    obtain ⟨a1,a2,a3,a4,a5⟩ := lead_keep (m.rows.set i (mo1 m)) i (mo1 m) (leftN n (mo1 m).sus)
    obtain ⟨b1,b2⟩ := lead_loc (R := m.rows.set i (mo1 m)) ok1 hw1 hlt hneL (fun k hk => hrow ok1 k (mem_leftN.1 hk).1)
    rw [e3]
    exact ⟨b1,b2,a1,by rw [a2];exact hw1,a3,a4,a5⟩
   ·have e3 : mo3 m = mo1 m := by rw [mo3,if_neg c,e2]
    rw [e3]
    exact ⟨ok1,Nx.refl _,rfl,hw1,rfl,rfl,rfl⟩
  obtain ⟨ok4,nx4,l1,l2,l3,l4,l5⟩ : OkR (mo4 m) n ∧ Nx (mo3 m) (mo4 m) ∧ (mo4 m).sus = (mo1 m).sus ∧ (mo4 m).wed = true ∧ (mo4 m).got = (mo1 m).got ∧ (mo4 m).txt = (mo1 m).txt ∧ (mo4 m).ver = (mo1 m).ver := by
   by_cases c : (mo3 m).wed = true ∧ (moL m).head? ≠ some m.i
   ·have e4 : mo4 m = adopt (m.rows.set i (mo3 m)) i (mo3 m) ((leftN n (mo1 m).sus).headD 0) := by rw [mo4,if_pos c,eL,hi]
    have hf : (leftN n (mo1 m).sus).headD 0 < n := by
     cases eh : leftN n (mo1 m).sus with
     | nil => exact absurd eh hneL
     | cons f t => exact (mem_leftN.1 (show f ∈ leftN n (mo1 m).sus by rw [eh];exact List.mem_cons_self)).1
    obtain ⟨a1,a2,a3,a4,a5⟩ := adopt_keep (m.rows.set i (mo3 m)) i (mo3 m) ((leftN n (mo1 m).sus).headD 0)
    obtain ⟨b1,b2⟩ := adopt_loc (i := i) (R := m.rows.set i (mo3 m)) ok3 k2 hf (hrow ok3 _ hf)
    rw [e4]
    exact ⟨b1,b2,a1.trans k1,a2.trans k2,a3.trans k3,a4.trans k4,a5.trans k5⟩
   ·have e4 : mo4 m = mo3 m := by rw [mo4,if_neg c]
    rw [e4]
    exact ⟨ok3,Nx.refl _,k1,k2,k3,k4,k5⟩
  exact fin rfl ok4 ((L1.nx.trans nx3).trans nx4) (by rw [l5];exact L1.ver) (by rw [l1];exact self1) (by rw [l3,l4,L1.got,L1.txt];exact M.gown) (fun _ => eS) (fun h => (by rw [hw1] at h;cases h))
end Go.Proofs.YtidnfdobljihoaaGreat
namespace Go.Proofs.YtidnfdobljihoaaGreat
set_option linter.unusedVariables false
set_option linter.unusedSimpArgs false
open Go.RowKit Go.Sort
end Go.Proofs.YtidnfdobljihoaaGreat
namespace Go.Proofs.YtidnfdobljihoaaGreat
set_option linter.unusedVariables false
set_option linter.unusedSimpArgs false
open Go.RowKit Go.Sort
theorem newRw_ok {n : Nat} (hn : 1 ≤ n ∧ n ≤ 5) : OkR (newRw (n : Int)) n ∧ newRw (n : Int) = ⟨0,[],List.replicate n 0,[],false,false,0,[]⟩ := by
 have e : newRw (n : Int) = ⟨0,[],List.replicate n 0,[],false,false,0,[]⟩ := by rw [newRw,if_pos (inB7.2 (by omega))];simp
 rw [e]
 have hg := (small_iff (v := List.replicate n 0) hn (by simp)).2 (fun j hj => by simp [el,List.getElem?_replicate,hj])
 exact ⟨⟨hn,by simp,by simp,fun t ht => (by cases ht),hg.1,by simp,hg.2,fun x hx => (by cases hx),by simp [risB],fun h => (by cases h),fun _ => ⟨rfl,rfl⟩⟩,rfl⟩
theorem wov_nn {T : List Int} {n : Nat} (hl : T.length = n) (hn : n ≤ 5) {x : Int} (hx : x ∈ wovs T 12) : ∃ q : Nat,x = (q : Int) ∧ q < 12 * n := by
 obtain ⟨k,i,h1,h2,h3,h4⟩ := mem_wovs.1 hx
 rw [hl] at h2 h4
 refine ⟨n * k + i,by rw [h4];push_cast;rfl, ?_⟩
 have : n * k ≤ n * 11 := Nat.mul_le_mul_left n (by omega)
 omega
end Go.Proofs.YtidnfdobljihoaaGreat
namespace Go.Proofs.YtidnfdobljihoaaGreat
set_option linter.unusedVariables false
set_option linter.unusedSimpArgs false
open Go.RowKit Go.Sort
theorem ris_ge : ∀ {l : List Int} {a : Int},l.Pairwise (· < ·) → (∀ x ∈ l,a ≤ x) → ∀ q,q < l.length → a + (q : Int) ≤ el l q
 | x :: l,a,h,hx,0,_ => by
  have := hx x List.mem_cons_self
  simpa [el] using this
 | x :: l,a,h,hx,q + 1,hq => by
  have h1 := List.pairwise_cons.1 h
  have hxa := hx x List.mem_cons_self
  have ih := ris_ge (l := l) (a := a + 1) h1.2 (fun y hy => by have := h1.1 y hy;omega) q (by simp at hq;omega)
  have e : el (x :: l) (q + 1) = el l q := by simp [el]
  rw [e]
  push_cast
  omega
theorem ris_short {l : List Int} {k : Nat} (h : l.Pairwise (· < ·)) (hx : ∀ x ∈ l,0 ≤ x ∧ x < (k : Int)) : l.length ≤ k := by
 refine Classical.byContradiction fun hn => ?_
 have h1 := ris_ge h (fun x hx2 => (hx x hx2).1) (l.length - 1) (by omega)
 have h2 := (hx _ (el_mem (i := l.length - 1) (xs := l) (by omega))).2
 omega
theorem mem_el17 {l : List Int} {x : Int} (h : x ∈ l) : ∃ q,q < l.length ∧ el l q = x := by
 obtain ⟨j,hj,rfl⟩ := List.mem_iff_getElem.1 h
 exact ⟨j,hj,by simp [el,hj]⟩
theorem OkM.elem {m : Mb} {i n : Nat} (M : OkM m i n) {x : Int} (hx : x ∈ m.sung) : 0 ≤ x ∧ x ≤ 59 := by
 obtain ⟨q,hq,rfl⟩ := mem_el17 hx
 exact (M.sg q hq).1
theorem OkM.to {m : Mb} {i n : Nat} (M : OkM m i n) {o' : Rw} (ok : OkR o' n) (self : (i : Int) ∉ o'.sus) (gown : el o'.got i = (o'.txt.length : Int)) {sung' : List Int} {done' : Bool}
  (sl : sung'.length ≤ 60) (ris : sung'.Pairwise (· < ·)) (sg : ∀ q,q < sung'.length → (0 ≤ el sung' q ∧ el sung' q ≤ 59) ∧ (done' = false → el sung' q = (q : Int))) (dn : done' = true → o'.rdy = true) :
  OkM { m with rows := m.rows.set i o',sung := sung',done := done' } i n := by
 have hi : i < m.rows.length := by rw [M.len];exact M.lt
 have e1 : rowN (m.rows.set i o') i = o' := by rw [rowN_set hi,if_pos rfl]
 refine ⟨M.hid,M.hn,M.n5,M.lt,by simp only [List.length_set];exact M.len,sl,ris,fun j hj => ?_,sg,by simp only [e1];exact gown,by simp only [e1];exact self,by simp only [e1];exact dn⟩
 simp only [rowN_set hi]
 split
 ·exact ok
 ·exact M.ok j hj
theorem new_okM {id n : Int} (h : (newMb id n).2 = true) : okMb (newMb id n).1 = true := by
 unfold newMb at h ⊢
 split at h
 ·rename_i hc
  rw [if_pos hc]
  have h1 := inB7.1 hc.1
  have h2 := inB7.1 hc.2
  have hid : id = ((id.toNat : Nat) : Int) := by omega
  have hn : n = ((n.toNat : Nat) : Int) := by omega
  have hlt : id.toNat < n.toNat := by omega
  obtain ⟨ok,e⟩ := newRw_ok (n := n.toNat) (by omega)
  rw [← hn] at ok e
  have hr : ∀ j,j < n.toNat → rowN (List.replicate n.toNat (newRw n)) j = newRw n := fun j hj => by simp [rowN,List.getElem?_replicate,hj]
  refine okMb_iff.2 ⟨id.toNat,n.toNat,hid,hn,by omega,hlt,by simp,by simp,List.Pairwise.nil,fun j hj => ?_,fun q hq => (by simp at hq), ?_, ?_,fun h => (by cases h)⟩
  ·simp only [hr j hj];exact ok
  ·simp only [hr _ hlt]
   rw [e]
   simp [el,List.getElem?_replicate,hlt]
  ·simp only [hr _ hlt]
   rw [e]
   simp
 ·cases h
theorem say_loc {m : Mb} {i n : Nat} (M : OkM m i n) (t : List UInt8) : OkM (sayMb m t).1 i n ∧ ((sayMb m t).2 = false → (sayMb m t).1 = m) ∧ ((sayMb m t).2 = true → (rowN (sayMb m t).1.rows i).txt = (rowN m.rows i).txt ++ [t]) ∧ Nx (rowN m.rows i) (rowN (sayMb m t).1.rows i) ∧ (sayMb m t).1.sung = m.sung ∧ (sayMb m t).1.done = m.done ∧ (∀ j,j ≠ i → rowN (sayMb m t).1.rows j = rowN m.rows j) := by
 unfold sayMb
 split
 ·exact ⟨M,fun _ => rfl,fun h => (by cases h),Nx.refl _,rfl,rfl,fun _ _ => rfl⟩
 ·rename_i hn
  simp only [not_or] at hn
  obtain ⟨h1,h2,h3,h4,h5⟩ := hn
  rw [M.own] at h1 h3 h5 ⊢
  have hd : m.done = false := by simpa using h2
  have hw : (rowN m.rows i).wed = false := by simpa using h1
  have ok := M.ok i M.lt
  have hr := ok.unr hw
  have hgi := M.gown
  have htl := ok.tl
  have hov := ok.ver
  have hi : i < m.rows.length := by rw [M.len];exact M.lt
  have hlen : i < (rowN m.rows i).got.length := by rw [ok.gl];exact M.lt
  have hx : Nx (rowN m.rows i) { rowN m.rows i with txt := (rowN m.rows i).txt ++ [t],got := (rowN m.rows i).got.set i (el (rowN m.rows i).got i + 1),ver := (rowN m.rows i).ver + 1 } := by
   refine ⟨by simp only;omega,List.prefix_append _ _,fun j => ?_,fun x hx => hx,fun hw2 => (by rw [hw] at hw2;cases hw2),fun hr2 => (by rw [hr] at hr2;cases hr2)⟩
   simp only [el_set hlen]
   split
   ·rename_i e;rw [e];omega
   ·exact Int.le_refl _
  simp only [Mb.put,M.i]
  refine ⟨?_,fun h => (by cases h),fun _ => by rw [rowN_set hi,if_pos rfl],by rw [rowN_set hi,if_pos rfl];exact hx,trivial,trivial,fun j hj => by rw [rowN_set hi,if_neg hj]⟩
  refine M.to (o' := { rowN m.rows i with txt := (rowN m.rows i).txt ++ [t],got := (rowN m.rows i).got.set i (el (rowN m.rows i).got i + 1),ver := (rowN m.rows i).ver + 1 }) (sung' := m.sung) (done' := m.done) ?_ M.self ?_ M.sl M.ris M.sg (fun h => (by rw [hd] at h;cases h))
  ·have hg : ∀ j,j < n → 0 ≤ el ((rowN m.rows i).got.set i (el (rowN m.rows i).got i + 1)) j ∧ el ((rowN m.rows i).got.set i (el (rowN m.rows i).got i + 1)) j ≤ 12 := fun j hj => by
    rw [el_set hlen]
    split
    ·omega
    ·exact ok.g j hj
   have hgl : ((rowN m.rows i).got.set i (el (rowN m.rows i).got i + 1)).length = n := by rw [List.length_set];exact ok.gl
   have := (small_iff ok.n5 hgl).2 hg
   refine ⟨ok.n5,by simp only;omega,by simp only [List.length_append,List.length_singleton];omega,fun x hx => ?_,this.1,hgl,this.2,ok.sus,ok.ris,fun h => (by simp only at h;rw [hr] at h;cases h),fun h => ok.not hr⟩
   rcases List.mem_append.1 hx with hx | hx
   ·exact ok.ts x hx
   ·have := List.mem_singleton.1 hx;rw [this];omega
  ·simp only [el_set hlen,if_pos,List.length_append,List.length_singleton]
   omega
theorem doubt_loc {m : Mb} {i n : Nat} (M : OkM m i n) (who : Int) : OkM (doubtMb m who).1 i n ∧ ((doubtMb m who).2 = false → (doubtMb m who).1 = m) ∧ ((doubtMb m who).2 = true → who ∈ (rowN (doubtMb m who).1.rows i).sus ∧ (rowN (doubtMb m who).1.rows i).wed = true) ∧ Nx (rowN m.rows i) (rowN (doubtMb m who).1.rows i) ∧ (doubtMb m who).1.sung = m.sung ∧ (doubtMb m who).1.done = m.done ∧ (∀ j,j ≠ i → rowN (doubtMb m who).1.rows j = rowN m.rows j) := by
 unfold doubtMb
 split
 ·exact ⟨M,fun _ => rfl,fun h => (by cases h),Nx.refl _,rfl,rfl,fun _ _ => rfl⟩
 ·rename_i hn
  simp only [not_or] at hn
  obtain ⟨h1,h2,h3,h4,h5⟩ := hn
  rw [M.own] at h3 h5 ⊢
  rw [M.hid] at h2
  rw [M.hn] at h1
  have h1 := inB7.1 (by simpa using h1)
  have hd : m.done = false := by simpa using h4
  have ok := M.ok i M.lt
  have hov := ok.ver
  have hi : i < m.rows.length := by rw [M.len];exact M.lt
  have hx : Nx (rowN m.rows i) { rowN m.rows i with sus := putL (rowN m.rows i).sus who,wed := true,ver := (rowN m.rows i).ver + 1 } :=
   ⟨by simp only;omega,List.prefix_refl _,fun j => Int.le_refl _,fun x hx => mem_putL.2 (.inr hx),fun _ => ⟨rfl,rfl,rfl⟩,fun hr => ⟨hr,Int.le_refl _,fun _ => rfl⟩⟩
  simp only [Mb.put,M.i]
  refine ⟨?_,fun h => (by cases h),fun _ => by rw [rowN_set hi,if_pos rfl];exact ⟨mem_putL.2 (.inl rfl),rfl⟩,by rw [rowN_set hi,if_pos rfl];exact hx,trivial,trivial,fun j hj => by rw [rowN_set hi,if_neg hj]⟩
  refine M.to (o' := { rowN m.rows i with sus := putL (rowN m.rows i).sus who,wed := true,ver := (rowN m.rows i).ver + 1 }) (sung' := m.sung) (done' := m.done) ?_ (fun hm => ?_) M.gown M.sl M.ris M.sg (fun h => (by rw [hd] at h;cases h))
  ·refine ⟨ok.n5,by simp only;omega,ok.tl,ok.ts,ok.got,ok.gl,ok.g12,fun x hx => ?_,ris_iff.2 (putL_rises (ris_iff.1 ok.ris)),fun hr => ⟨rfl,(ok.rdy hr).2⟩,ok.not⟩
   rcases mem_putL.1 hx with e | hx
   ·rw [e];omega
   ·exact ok.sus x hx
  ·rcases mem_putL.1 hm with e | hx
   ·exact h2 e.symm
   ·exact M.self hx
theorem heard_loc {m : Mb} {i n : Nat} (M : OkM m i n) (fr : Int) (r : Rw) : OkM (heardMb m fr r).1 i n ∧ ((heardMb m fr r).2 = false → (heardMb m fr r).1 = m) ∧ ((heardMb m fr r).2 = true → rowN (heardMb m fr r).1.rows fr.toNat = r) ∧ rowN (heardMb m fr r).1.rows i = rowN m.rows i ∧ (heardMb m fr r).1.sung = m.sung ∧ (heardMb m fr r).1.done = m.done := by
 unfold heardMb
 split
 ·exact ⟨M,fun _ => rfl,fun h => (by cases h),rfl,rfl,rfl⟩
 ·rename_i hn
  simp only [not_or] at hn
  obtain ⟨h1,h2,h3,h4,h5,h6⟩ := hn
  rw [M.hid] at h2
  rw [M.hn] at h5 h1
  have h1 := inB7.1 (by simpa using h1)
  have hne : i ≠ fr.toNat := fun e => h2 (by omega)
  have okr : OkR r n := okRw_iff.1 (by simpa using h5)
  have hfl : fr.toNat < m.rows.length := by rw [M.len];omega
  have e1 : rowN (m.rows.set fr.toNat r) i = rowN m.rows i := by rw [rowN_set hfl,if_neg hne]
  refine ⟨⟨M.hid,M.hn,M.n5,M.lt,by simp only [List.length_set];exact M.len,M.sl,M.ris,fun j hj => ?_,M.sg,by simp only [e1];exact M.gown,by simp only [e1];exact M.self,by simp only [e1];exact M.dn⟩,fun h => (by cases h),fun _ => by rw [rowN_set hfl,if_pos rfl],e1,rfl,rfl⟩
  simp only [rowN_set hfl]
  split
  ·exact okr
  ·exact M.ok j hj
structure StpM (m : Mb) (i n : Nat) : Prop where
 ok : OkM (stepMb m) i n
 nx : Nx (rowN m.rows i) (rowN (stepMb m).rows i)
 oth : ∀ j,j ≠ i → rowN (stepMb m).rows j = rowN m.rows j
 sub : ∀ x ∈ m.sung,x ∈ (stepMb m).sung
 pre : (stepMb m).done = false → m.sung <+: (stepMb m).sung
 dn : m.done = true → stepMb m = m
 wed : (rowN m.rows i).wed = true → (stepMb m).done = false → (stepMb m).sung = m.sung
 trm : (stepMb m).done = true → ∀ x ∈ (stepMb m).sung,x ∈ m.sung ∨ (m.done = false ∧ x ∈ wovs (rowN (stepMb m).rows i).trm 12)
theorem upto_pre {a b : List Int} (ha : ∀ q,q < a.length → el a q = (q : Int)) (hb : ∀ q,q < b.length → el b q = (q : Int)) (hl : a.length ≤ b.length) : a <+: b := by
 rw [List.prefix_iff_eq_take]
 refine List.ext_getElem (by rw [List.length_take];omega) (fun q h1 h2 => ?_)
 have e1 := ha q h1
 have e2 := hb q (by omega)
 simp only [List.getElem_take]
 have k1 : el a q = a[q] := by simp [el,h1]
 have k2 : el b q = b[q] := by simp [el,show q < b.length by omega]
 rw [← k1,← k2,e1,e2]
theorem stepM {m : Mb} {i n : Nat} (M : OkM m i n) : StpM m i n := by
 by_cases c : m.done = true ∨ m.own.ver = 1000000
 ·have e : stepMb m = m := by rw [stepMb,if_pos c]
  refine ⟨by rw [e];exact M,by rw [e];exact Nx.refl _,fun j _ => by rw [e],fun x hx => by rw [e];exact hx,fun _ => by rw [e];exact List.prefix_refl _,fun _ => e,fun _ _ => by rw [e],fun _ x hx => ?_⟩
  rw [e] at hx
  exact .inl hx
 ·have hd : m.done = false := by
   cases e : m.done with
   | false => rfl
   | true => exact absurd (.inl e) c
  have hv : (rowN m.rows i).ver ≠ 1000000 := fun e => c (.inr (by rw [M.own];exact e))
  have T := step_loc M hv
  have hi : i < m.rows.length := by rw [M.len];exact M.lt
  have hs0 : ∀ q,q < m.sung.length → el m.sung q = (q : Int) := fun q hq => (M.sg q hq).2 hd
  have e : stepMb m = { m with rows := m.rows.set i (mo5 m),sung := if moE m = true then songT (moS m) (mo4 m).trm else moS m,done := moE m } := by rw [stepMb,if_neg c,M.i]
  have e1 : rowN (m.rows.set i (mo5 m)) i = mo5 m := by rw [rowN_set hi,if_pos rfl]
  have hoth : ∀ j,j ≠ i → rowN (m.rows.set i (mo5 m)) j = rowN m.rows j := fun j hj => by rw [rowN_set hi,if_neg hj]
  have hl1 := M.sl
  cases hE : moE m with
  | true =>
   have hw1 : (mo1 m).wed = true := by
    cases h : (mo1 m).wed with
    | true => rfl
    | false => rw [T.dry h] at hE;cases hE
   have hS := T.wedS hw1
   have hr : (mo4 m).rdy = true := by
    rw [moE,Bool.and_eq_true] at hE
    exact hE.1
   have hrd := T.ok4.rdy hr
   have e2 : stepMb m = { m with rows := m.rows.set i (mo5 m),sung := songT m.sung (mo4 m).trm,done := true } := by rw [e,hE,if_pos rfl,hS]
   have hris : (songT m.sung (mo4 m).trm).Pairwise (· < ·) := ris_songF M.ris
   have hel : ∀ x ∈ songT m.sung (mo4 m).trm,0 ≤ x ∧ x < 60 := fun x hx => by
    rcases mem_songF.1 hx with h | h
    ·have := M.elem h;omega
    ·obtain ⟨q,rfl,hq⟩ := wov_nn hrd.2.2.2.1 M.n5.2 h
     have := M.n5.2
     omega
   have hsl := ris_short (k := 60) hris hel
   have T' : OkM { m with rows := m.rows.set i (mo5 m),sung := songT m.sung (mo4 m).trm,done := true } i n := M.to (o' := mo5 m) (sung' := songT m.sung (mo4 m).trm) (done' := true) T.ok T.self T.gown hsl hris (fun q hq => ⟨by have := hel _ (el_mem hq);omega,fun h => (by cases h)⟩) (fun _ => by rw [T.rdy];exact hr)
   refine ⟨by rw [e2];exact T',by rw [e2];simp only [e1];exact T.nx,fun j hj => by rw [e2];exact hoth j hj,fun x hx => by rw [e2];exact mem_songF.2 (.inl hx),fun h => (by rw [e2] at h;cases h),fun h => (by rw [hd] at h;cases h),fun _ h => (by rw [e2] at h;cases h),fun _ x hx => ?_⟩
   rw [e2] at hx ⊢
   simp only [e1,T.trm]
   rcases mem_songF.1 hx with h | h
   ·exact .inl h
   ·exact .inr ⟨hd,h⟩
  | false =>
   have e2 : stepMb m = { m with rows := m.rows.set i (mo5 m),sung := moS m,done := false } := by rw [e,hE,if_neg (by simp)]
   obtain ⟨s1,s2,s3⟩ : (moS m).length ≤ 60 ∧ (∀ q,q < (moS m).length → el (moS m) q = (q : Int)) ∧ m.sung.length ≤ (moS m).length := by
    unfold moS
    split
    ·exact ⟨M.sl,hs0,Nat.le_refl _⟩
    ·obtain ⟨q1,q2,q3,q4⟩ := sing_spec (m.rows.set m.i (mo2 m)) m.k (60 - m.sung.length) m.sung hs0
     exact ⟨by omega,q3,q2⟩
   have hpre := upto_pre hs0 s2 s3
   have T' : OkM { m with rows := m.rows.set i (mo5 m),sung := moS m,done := false } i n := M.to (o' := mo5 m) (sung' := moS m) (done' := false) T.ok T.self T.gown s1 (upto_rises s2) (fun q hq => ⟨by rw [s2 q hq];omega,fun _ => s2 q hq⟩) (fun h => (by cases h))
   refine ⟨by rw [e2];exact T',by rw [e2];simp only [e1];exact T.nx,fun j hj => by rw [e2];exact hoth j hj,fun x hx => by rw [e2];exact hpre.subset hx,fun _ => by rw [e2];exact hpre,fun h => (by rw [hd] at h;cases h),fun hw _ => ?_,fun h => (by rw [e2] at h;cases h)⟩
   rw [e2]
   refine T.wedS ?_
   have e3 : mo1 m = learn m.rows i (rowN m.rows i) (leftN n (rowN m.rows i).sus) := by rw [mo1,M.i,M.k,M.own]
   rw [e3]
   exact (learn_lrn _ _ _ _).wed hw
end Go.Proofs.YtidnfdobljihoaaGreat
namespace Go.Proofs.YtidnfdobljihoaaGreat
set_option linter.unusedVariables false
set_option linter.unusedSimpArgs false
open Go.RowKit Go.Sort
def Pv (w : World) (B o : Nat) (cs : List Cel) : Prop := ∃ vs,(∀ j,j < vs.length → w.cell? ⟨B,o + j,none⟩ = vs[j]?) ∧ vwL w cs vs
theorem Plc.pv {w : World} {B o : Nat} {cs : List Cel} {fp : Fp} (h : Plc w B o cs fp) : Pv w B o cs := by
 obtain ⟨vs,h1,h2,_⟩ := h
 exact ⟨vs,h1.cell,owL_vw h2⟩
theorem Pv.at {w : World} {B o : Nat} {cs : List Cel} (h : Pv w B o cs) {j : Nat} {c : Cel} (hj : cs[j]? = some c) : ∃ u,w.cell? ⟨B,o + j,none⟩ = some u ∧ Cel.vw w c u := by
 obtain ⟨vs,h1,h2⟩ := h
 obtain ⟨u,hu,hv⟩ := vwL_at h2 hj
 refine ⟨u,(h1 j ?_).trans hu,hv⟩
 rcases Nat.lt_or_ge j vs.length with h | h
 ·exact h
 ·rw [List.getElem?_eq_none h] at hu;cases hu
theorem vwL_split {w : World} : ∀ {cs ds : List Cel} {ws : List Value},vwL w (cs ++ ds) ws → ∃ us vs,ws = us ++ vs ∧ vwL w cs us ∧ vwL w ds vs
 | [],ds,ws,h => ⟨[],ws,rfl,rfl,h⟩
 | c :: cs,ds,ws,h => by
  obtain ⟨u,us',rfl,h1,h2⟩ := h
  obtain ⟨us,vs,rfl,h3,h4⟩ := vwL_split h2
  exact ⟨u :: us,vs,rfl,⟨u,us,rfl,h1,h3⟩,h4⟩
theorem vw_elF {α : Type} {F : α → List Cel} {s : Nat} (hF : ∀ x,(F x).length = s) {w : World} {a : Option Addr} {c : Nat} {L : List α} (h : Cel.vw w (lcl s F L) (.slice a L.length c)) {k : Nat} {x : α} (hk : L[k]? = some x) : ∃ g off,a = some ⟨g,off,none⟩ ∧ Pv w g (off + k * s) (F x) := by
 obtain ⟨a0,c0,us,e0,h1,h2,h3,h4,h5⟩ := h
 cases e0
 have hkl : k < L.length := by
  rcases Nat.lt_or_ge k L.length with h | h
  ·exact h
  ·rw [List.getElem?_eq_none h] at hk;cases hk
 rcases h4 with h4 | ⟨b,off,rfl,hc⟩
 ·omega
 have hks : k * s + s ≤ L.length * s := by
  have : (k + 1) * s ≤ L.length * s := Nat.mul_le_mul_right s hkl
  rw [Nat.add_mul,Nat.one_mul] at this
  exact this
 have e1 : L.flatMap F = (L.flatMap F).take (k * s) ++ (((L.flatMap F).drop (k * s)).take s ++ (L.flatMap F).drop (k * s + s)) := by
  rw [← List.drop_drop,List.take_append_drop,List.take_append_drop]
 rw [e1] at h5
 obtain ⟨u1,u23,rfl,l1,l23⟩ := vwL_split h5
 obtain ⟨u2,u3,rfl,l2,l3⟩ := vwL_split l23
 rw [flat_take hF hk] at l2
 have hd := flat_len hF L
 have n1 : u1.length = k * s := by rw [vwL_len l1,List.length_take];omega
 have n2 : u2.length = s := by rw [vwL_len l2,hF]
 refine ⟨b,off,rfl,u2,fun j hj => ?_,l2⟩
 rw [Nat.add_assoc,hc (k * s + j) (by omega),List.getElem?_append_right (by omega),List.getElem?_append_left (by omega),n1]
 congr 1
 omega
def rw8 (r : Rw) : List Cel := [.v (.int .i64 r.ver),scl r.txt,icl r.got,icl r.sus,.v (.bool r.wed),.v (.bool r.rdy),.v (.int .i64 r.by_),icl r.trm]
theorem rw8_len (r : Rw) : (rw8 r).length = 8 := rfl
def C8 (w : World) (g o : Nat) (x0 x1 x2 x3 x4 x5 x6 x7 : Value) : Prop := (w.cell? ⟨g,o,none⟩ = some x0 ∧ w.cell? ⟨g,o + 1,none⟩ = some x1 ∧ w.cell? ⟨g,o + 2,none⟩ = some x2 ∧ w.cell? ⟨g,o + 3,none⟩ = some x3) ∧ w.cell? ⟨g,o + 4,none⟩ = some x4 ∧ w.cell? ⟨g,o + 5,none⟩ = some x5 ∧ w.cell? ⟨g,o + 6,none⟩ = some x6 ∧ w.cell? ⟨g,o + 7,none⟩ = some x7
theorem Pv.row {w : World} {g o : Nat} {r : Rw} (h : Pv w g o (rw8 r)) (hf : FitR r) : ∃ A : Ra,C8 w g o (.int .i64 r.ver) (.slice A.ta r.txt.length A.tc) (.slice A.ga r.got.length A.gc) (.slice A.sa r.sus.length A.sc) (.bool r.wed) (.bool r.rdy) (.int .i64 r.by_) (.slice A.ma r.trm.length A.mc) ∧ RwS w A r := by
 obtain ⟨u0,c0,rfl⟩ := h.at (j := 0) rfl
 obtain ⟨u1,c1,v1⟩ := h.at (j := 1) rfl
 obtain ⟨u2,c2,v2⟩ := h.at (j := 2) rfl
 obtain ⟨u3,c3,v3⟩ := h.at (j := 3) rfl
 obtain ⟨u4,c4,rfl⟩ := h.at (j := 4) rfl
 obtain ⟨u5,c5,rfl⟩ := h.at (j := 5) rfl
 obtain ⟨u6,c6,rfl⟩ := h.at (j := 6) rfl
 obtain ⟨u7,c7,v7⟩ := h.at (j := 7) rfl
 obtain ⟨ta,tc,rfl,t1,t2,t3⟩ := vw_scl v1
 obtain ⟨ga,gc,rfl,g1,g2,g3⟩ := vw_icl v2 hf.1
 obtain ⟨sa,sc,rfl,s1,s2,s3⟩ := vw_icl v3 hf.2.1
 obtain ⟨ma,mc,rfl,m1,m2,m3⟩ := vw_icl v7 hf.2.2
 exact ⟨⟨ta,tc,ga,gc,sa,sc,ma,mc⟩,⟨⟨c0,c1,c2,c3⟩,c4,c5,c6,c7⟩,t1,g1,s1,m1,by omega,by omega,by omega,by omega⟩
structure Ma where
 ra : Option Addr
 rc : Nat
 sa : Option Addr
 sc : Nat
def mbC (A : Ma) (m : Mb) : Array Value := #[.int .i64 m.id,.int .i64 m.n,.slice A.ra m.rows.length A.rc,.slice A.sa m.sung.length A.sc,.bool m.done]
def mbV (A : Ma) (m : Mb) : Value := .agg (mbC A m)
def mbCels (m : Mb) : List Cel := [lcl 8 rw8 m.rows,icl m.sung]
def mbVals (A : Ma) (m : Mb) : List Value := [.slice A.ra m.rows.length A.rc,.slice A.sa m.sung.length A.sc]
def mb5 (m : Mb) : List Cel := [.v (.int .i64 m.id),.v (.int .i64 m.n),lcl 8 rw8 m.rows,icl m.sung,.v (.bool m.done)]
def FitM (m : Mb) : Prop := (∀ r ∈ m.rows,FitR r) ∧ Fits m.sung
structure MbS (w : World) (A : Ma) (m : Mb) : Prop where
 rows : Cel.vw w (lcl 8 rw8 m.rows) (.slice A.ra m.rows.length A.rc)
 sung : Vec w A.sa m.sung.length m.sung
 mr : m.rows.length ≤ maxLen
 ms : m.sung.length ≤ maxLen
 fit : ∀ r ∈ m.rows,FitR r
theorem MbS.below {w w' : World} {A : Ma} {m : Mb} (h : MbS w A m) (hb : Below w.heap.size w w') : MbS w' A m := ⟨Cel.vw_below h.rows hb,h.sung.below hb (Nat.le_refl _),h.mr,h.ms,h.fit⟩
theorem mbs_of {w : World} {A : Ma} {m : Mb} (h : vwL w (mbCels m) (mbVals A m)) (hf : FitM m) : MbS w A m := by
 obtain ⟨u1,us1,e1,h1,h2⟩ := h
 cases e1
 obtain ⟨u2,us2,e2,h3,_⟩ := h2
 cases e2
 obtain ⟨a,c,e,h4,h5,h6⟩ := vw_icl h3 hf.2
 cases e
 have k := h1
 obtain ⟨_,_,_,e,k1,k2,_⟩ := k
 cases e
 exact ⟨h1,h4,by omega,by omega,hf.1⟩
theorem MbS.row {w : World} {A : Ma} {m : Mb} (h : MbS w A m) {k : Nat} (hk : k < m.rows.length) : ∃ g off Ak,A.ra = some ⟨g,off,none⟩ ∧ C8 w g (off + k * 8) (.int .i64 (rowN m.rows k).ver) (.slice Ak.ta (rowN m.rows k).txt.length Ak.tc) (.slice Ak.ga (rowN m.rows k).got.length Ak.gc) (.slice Ak.sa (rowN m.rows k).sus.length Ak.sc) (.bool (rowN m.rows k).wed) (.bool (rowN m.rows k).rdy) (.int .i64 (rowN m.rows k).by_) (.slice Ak.ma (rowN m.rows k).trm.length Ak.mc) ∧ RwS w Ak (rowN m.rows k) := by
 have e : m.rows[k]? = some (rowN m.rows k) := by simp [rowN,List.getD,hk]
 obtain ⟨g,off,h1,h2⟩ := vw_elF rw8_len h.rows e
 obtain ⟨Ak,h3,h4⟩ := h2.row (h.fit _ (List.mem_of_getElem? e))
 exact ⟨g,off,Ak,h1,h3,h4⟩
end Go.Proofs.YtidnfdobljihoaaGreat
namespace Go.Proofs.YtidnfdobljihoaaGreat
set_option linter.unusedVariables false
set_option linter.unusedSimpArgs false
open Go.RowKit Go.Sort
theorem Bx.r5 {w : World} {B : Nat} {T : TypeId} {x0 x1 x2 x3 x4 : Value} (h : Bx w B T #[x0,x1,x2,x3,x4]) : w.cell? ⟨B,0,none⟩ = some x0 ∧ w.cell? ⟨B,1,none⟩ = some x1 ∧ w.cell? ⟨B,2,none⟩ = some x2 ∧ w.cell? ⟨B,3,none⟩ = some x3 ∧ w.cell? ⟨B,4,none⟩ = some x4 :=
 ⟨h.at 0 rfl,h.at 1 rfl,h.at 2 rfl,h.at 3 rfl,h.at 4 rfl⟩
theorem rowN_at {R : List Rw} {k : Nat} (hk : k < R.length) : R[k]? = some (rowN R k) := by simp [rowN,List.getD,hk]
theorem okMb_row {m : Mb} {k : Nat} (hk : k < m.rows.length) (h : okRw (rowN m.rows k) m.n = false) : okMb m = false := by
 have : m.rows.all (fun r => okRw r m.n) = false := by
  rw [List.all_eq_false]
  exact ⟨rowN m.rows k,List.mem_of_getElem? (rowN_at hk),by simp [h]⟩
 simp only [okMb,this,Bool.false_and,Bool.and_false]
theorem okMb_sg {m : Mb} {k : Nat} (hk : k < m.sung.length) (h : (inB (el m.sung k) 0 59 && (m.done || decide (el m.sung k = (k : Int)))) = false) : okMb m = false := by
 have : okSg m = false := by
  rw [okSg,List.all_eq_false]
  exact ⟨k,List.mem_range.2 hk,by simp [h]⟩
 simp only [okMb,this,Bool.false_and,Bool.and_false]
theorem okMb_end {m : Mb} (h1 : inB m.n 1 5 = true) (h2 : inB m.id 0 (m.n - 1) = true) (h3 : (m.rows.length : Int) = m.n) (h4 : m.sung.length ≤ 60) (h5 : risB m.sung = true) (h6 : ∀ j,j < m.rows.length → okRw (rowN m.rows j) m.n = true) (h7 : ∀ j,j < m.sung.length → (inB (el m.sung j) 0 59 && (m.done || decide (el m.sung j = (j : Int)))) = true) :
  okMb m = (decide (el m.own.got m.i = (m.own.txt.length : Int)) && (decide (m.id ∉ m.own.sus) && (!m.done || m.own.rdy))) := by
 have e6 : m.rows.all (fun r => okRw r m.n) = true := by
  rw [List.all_eq_true]
  intro r hr
  obtain ⟨j,hj,rfl⟩ := List.mem_iff_getElem.1 hr
  have := h6 j hj
  simpa [rowN,List.getD,hj] using this
 have e7 : okSg m = true := by
  rw [okSg,List.all_eq_true]
  intro j hj
  exact h7 j (List.mem_range.1 hj)
 simp only [okMb,h1,h2,h3,h4,h5,e6,e7,decide_true,Bool.true_and]
theorem okRw_len {r : Rw} {n : Int} (h : okRw r n = true) : (r.got.length : Int) = n := by
 simp only [okRw,smB,Bool.and_eq_true,decide_eq_true_eq] at h
 exact h.2.2.2.1.2.1
set_option maxRecDepth 100000 in
set_option maxHeartbeats 3200000 in
theorem mbkS_any (A : Ma) (m : Mb) (w : World) (hv : MbS w A m) :
    Calls Tryz.prog 16 #[mbV A m] w fun e w' => e = .returned (.bool (okMb m)) ∧ Below w.heap.size w w' := by
  have hB0 := oneA16 w (.cells (mbC A m) 27)
  have hx := Bx.new w 27 (mbC A m)
  have h0 := hv.below hB0
  generalize hW : w.alloc (.cells (mbC A m) 27) = W at *
  obtain ⟨id, n, rows, sung, done⟩ := m
  obtain ⟨ra, rc, sa, sc⟩ := A
  have hw0 : w.alloc (.cells #[.int .i64 id, .int .i64 n, .slice ra rows.length rc, .slice sa sung.length sc, .bool done] 27) = W := hW
  obtain ⟨c0, c1, c2, c3, c4⟩ := Bx.r5 hx
  have HX : Hid (Bx W w.heap.size 27 #[.int .i64 id, .int .i64 n, .slice ra rows.length rc, .slice sa sung.length sc, .bool done]) := hx
  have HV : Hid (MbS W ⟨ra, rc, sa, sc⟩ ⟨id, n, rows, sung, done⟩) := h0
  have hsu := h0.sung
  have mr := h0.mr
  have ms := h0.ms
  simp only at hsu mr ms c0 c1 c2 c3 c4
  have HB0 : Hid (Below w.heap.size w W) := hB0
  have hR := l1Rises_any sa sung.length sc sung W hsu ms
  unfold mbV mbC
  clear hv hx hW hB0 h0
  simp only
  cases e1 : inB n 1 5 with
  | false =>
    have HZ : Hid (okMb ⟨id, n, rows, sung, done⟩ = false) := by rw [Hid]; simp only [okMb, e1, Bool.false_and]
    go_enter Tryz.func16, Tryz.ntmps16
    go_wp2_with (first | (go_at_call 48; refine (l1In_any _ _ _ _).mono ?_; rintro e w' ⟨rfl, hw'⟩; rw [hw']; clear hw'))
    go_ret
    exact ⟨ret_bool (by rw [HZ.out]), HB0.out⟩
  | true =>
  have hn5 := inB7.1 e1
  have wn : wrap64 (n - 1) = n - 1 := by unfold wrap64; omega
  have HE1 : Hid (inB n 1 5 = true) := e1
  cases e2 : inB id 0 (n - 1) with
  | false =>
    have HZ : Hid (okMb ⟨id, n, rows, sung, done⟩ = false) := by rw [Hid]; simp only [okMb, e2, Bool.false_and, Bool.and_false]
    go_enter Tryz.func16, Tryz.ntmps16
    go_wp2_with (first | (go_at_call 48; refine (l1In_any _ _ _ _).mono ?_; rintro e w' ⟨rfl, hw'⟩; rw [hw']; clear hw'))
    go_ret
    exact ⟨ret_bool (by rw [HZ.out]), HB0.out⟩
  | true =>
  have HE2 : Hid (inB id 0 (n - 1) = true) := e2
  have hid := inB7.1 e2
  by_cases h3 : (rows.length : Int) = n
  rotate_left
  · have g3 : ((rows.length : Int) != n) = true := by simpa using h3
    have HZ : Hid (okMb ⟨id, n, rows, sung, done⟩ = false) := by rw [Hid]; simp only [okMb, decide_eq_false h3, Bool.false_and, Bool.and_false]
    clear h3
    go_enter Tryz.func16, Tryz.ntmps16
    go_wp2_with (first | (go_at_call 48; refine (l1In_any _ _ _ _).mono ?_; rintro e w' ⟨rfl, hw'⟩; rw [hw']; clear hw'))
    go_ret
    exact ⟨ret_bool (by rw [HZ.out]), HB0.out⟩
  have g3 : ((rows.length : Int) != n) = false := by simpa using h3
  have HE3 : Hid ((rows.length : Int) = n) := h3
  clear h3
  by_cases h4 : sung.length ≤ 60
  rotate_left
  · have g4 : (60 : Int) < (sung.length : Int) := by omega
    have HZ : Hid (okMb ⟨id, n, rows, sung, done⟩ = false) := by rw [Hid]; simp only [okMb, decide_eq_false h4, Bool.false_and, Bool.and_false]
    go_enter Tryz.func16, Tryz.ntmps16
    go_wp2_with (first | (go_at_call 48; refine (l1In_any _ _ _ _).mono ?_; rintro e w' ⟨rfl, hw'⟩; rw [hw']; clear hw'))
    go_ret
    exact ⟨ret_bool (by rw [HZ.out]), HB0.out⟩
  have g4 : ¬ ((60 : Int) < (sung.length : Int)) := by omega
  cases e5 : risB sung with
  | false =>
    rw [e5] at hR
    have HZ : Hid (okMb ⟨id, n, rows, sung, done⟩ = false) := by rw [Hid]; simp only [okMb, e5, Bool.false_and, Bool.and_false]
    go_enter Tryz.func16, Tryz.ntmps16
    go_wp2_with (first | (go_at_call 48; refine (l1In_any _ _ _ _).mono ?_; rintro e w' ⟨rfl, hw'⟩; rw [hw']; clear hw') | (go_at_call 49; refine hR.mono ?_; rintro e w2 ⟨rfl, q, hw2⟩; have hb2 : Below W.heap.size W w2 := (by rw [hw2]; exact belowN (Below.refl _ _)); clear hw2))
    go_ret
    exact ⟨ret_bool (by rw [HZ.out]), HB0.out.trans (hb2.mono HB0.out.size)⟩
  | true =>
  rw [e5] at hR
  have HE5 : Hid (risB sung = true) := e5
  clear e5
  go_enter Tryz.func16, Tryz.ntmps16
  go_wp2_with (first | (go_at_call 48; refine (l1In_any _ _ _ _).mono ?_; rintro e w' ⟨rfl, hw'⟩; rw [hw']; clear hw') | (go_at_call 49; refine hR.mono ?_; rintro e w2 ⟨rfl, q, hw2⟩; have hb2 : Below W.heap.size W w2 := (by rw [hw2]; exact belowN (Below.refl _ _)); clear hw2))
  have HB2 : Hid (Below w.heap.size w w2) := HB0.out.trans (hb2.mono HB0.out.size)
  have HX2 : Hid (Bx w2 w.heap.size 27 #[.int .i64 id, .int .i64 n, .slice ra rows.length rc, .slice sa sung.length sc, .bool done]) := HX.out.below hb2
  have HV2 : Hid (MbS w2 ⟨ra, rc, sa, sc⟩ ⟨id, n, rows, sung, done⟩) := HV.out.below hb2
  unfold maxLen at mr ms
  clear hR hb2 c0 c1 c2 c3 c4 hw0 g3 e1 e2 HX HV HB0 hsu
  go_loopw [3] (fun i wr => ∃ k : Nat, k ≤ rows.length ∧ i = .int .i64 k ∧ (∀ j, j < k → okRw (rowN rows j) n = true) ∧ Below w2.heap.size w2 wr) (fun i _ => rows.length - (intOf i).toNat)
  case atStart => exact ⟨0, Nat.zero_le _, rfl, fun j hj => by omega, Below.refl _ _⟩
  case round =>
    obtain ⟨k, hk, rfl, hall, hgr⟩ := hrel
    have HA : Hid (∀ j, j < k → okRw (rowN rows j) n = true) := hall
    have HG : Hid (Below w2.heap.size w2 wr) := hgr
    obtain ⟨c0, c1, c2, c3, c4⟩ := Bx.r5 (HX2.out.below hgr)
    clear hall
    by_cases hlt : k < rows.length
    · have k1 : (k : Int) < (rows.length : Int) := by omega
      have k0 : (0 : Int) ≤ (k : Int) := by omega
      obtain ⟨g, off, Ak, hra, ⟨⟨d0, d1, d2, d3⟩, d4, d5, d6, d7⟩, hrs⟩ := (HV2.out.below hgr).row (k := k) hlt
      simp only at hra hrs d0 d1 d2 d3 d4 d5 d6 d7
      subst hra
      have C : ∀ q : Bk wr, Calls Tryz.prog 50 #[rwV Ak (rowN rows k), .int .i64 n] q.w fun e w' => e = .returned (.bool (okRw (rowN rows k) n)) ∧ Below q.w.heap.size q.w w' := fun q => rowS_any Ak _ n q.w (hrs.below q.h)
      have HY : Hid (okRw (rowN rows k) n = true → ∀ j, j < k + 1 → okRw (rowN rows j) n = true) := fun h1 j hj => by
        rcases Nat.lt_succ_iff_lt_or_eq.1 hj with h | h
        · exact HA.out j h
        · rw [h]; exact h1
      have HNo : Hid (okRw (rowN rows k) n = false → okMb ⟨id, n, rows, sung, done⟩ = false) := fun h => okMb_row (k := k) hlt h
      have p2 : ∀ q : Bk wr, q.w.cell? ⟨w.heap.size, 2, none⟩ = _ := fun q => (q.h.cell (World.block_lt_of_cell? _ _ c2)).trans c2
      have p1 : ∀ q : Bk wr, q.w.cell? ⟨w.heap.size, 1, none⟩ = _ := fun q => (q.h.cell (World.block_lt_of_cell? _ _ c1)).trans c1
      have r0 : ∀ q : Bk wr, q.w.cell? ⟨g, off + k * 8, none⟩ = _ := fun q => (q.h.cell (World.block_lt_of_cell? _ _ d0)).trans d0
      have r1 : ∀ q : Bk wr, q.w.cell? ⟨g, off + k * 8 + 1, none⟩ = _ := fun q => (q.h.cell (World.block_lt_of_cell? _ _ d1)).trans d1
      have r2 : ∀ q : Bk wr, q.w.cell? ⟨g, off + k * 8 + 2, none⟩ = _ := fun q => (q.h.cell (World.block_lt_of_cell? _ _ d2)).trans d2
      have r3 : ∀ q : Bk wr, q.w.cell? ⟨g, off + k * 8 + 3, none⟩ = _ := fun q => (q.h.cell (World.block_lt_of_cell? _ _ d3)).trans d3
      have r4 : ∀ q : Bk wr, q.w.cell? ⟨g, off + k * 8 + 4, none⟩ = _ := fun q => (q.h.cell (World.block_lt_of_cell? _ _ d4)).trans d4
      have r5 : ∀ q : Bk wr, q.w.cell? ⟨g, off + k * 8 + 5, none⟩ = _ := fun q => (q.h.cell (World.block_lt_of_cell? _ _ d5)).trans d5
      have r6 : ∀ q : Bk wr, q.w.cell? ⟨g, off + k * 8 + 6, none⟩ = _ := fun q => (q.h.cell (World.block_lt_of_cell? _ _ d6)).trans d6
      have r7 : ∀ q : Bk wr, q.w.cell? ⟨g, off + k * 8 + 7, none⟩ = _ := fun q => (q.h.cell (World.block_lt_of_cell? _ _ d7)).trans d7
      unfold rwV rwC at C
      generalize okRw (rowN rows k) n = ob at *
      generalize rowN rows k = r at *
      clear hrs d0 d1 d2 d3 d4 d5 d6 d7 hgr
      go_wp2_with fail
      refine wp_region_bk (by kernel_rfl) (by kernel_rfl) ?_
      repeat (go_big_quiet_step ((first | (go_at_call 50; exact bk_call _ (C _)) | rfl)))
      refine wpQuiet_nil ?_
      intro wE hw'
      obtain ⟨⟨w11, hb11⟩, hw''⟩ := hw'
      have hwe : wE = w11 := hw''
      clear hw''
      subst hwe
      have HGE : Hid (Below w2.heap.size w2 wE) := HG.out.trans (hb11.mono HG.out.size)
      clear p1 p2 r0 r1 r2 r3 r4 r5 r6 r7 C hb11 c0 c1 c2 c3 c4
      cases ob
      · have HZ : Hid (okMb ⟨id, n, rows, sung, done⟩ = false) := HNo.out rfl
        go_wp2
        go_ret
        exact ⟨ret_bool (by rw [HZ.out]), HB2.out.trans (HGE.out.mono HB2.out.size)⟩
      · have HN2 := HY.out rfl
        go_wp2
        go_roundw
        case rel => exact ⟨k + 1, by omega, by go_num, HN2, HGE.out⟩
        case measure => simp [intOf]; omega
    · have k1 : ¬ ((k : Int) < (rows.length : Int)) := by omega
      have HAll : Hid (∀ j, j < rows.length → okRw (rowN rows j) n = true) := fun j hj => HA.out j (by omega)
      have HV3 : Hid (MbS wr ⟨ra, rc, sa, sc⟩ ⟨id, n, rows, sung, done⟩) := HV2.out.below hgr
      have HB3 : Hid (Below w.heap.size w wr) := HB2.out.trans (hgr.mono HB2.out.size)
      have hsu := HV3.out.sung
      simp only at hsu
      clear HA hgr HG HX2 HV2 HB2
      go_wp2
      go_loop [4] (fun i => ∃ k : Nat, k ≤ sung.length ∧ i = .int .i64 k ∧ ∀ j, j < k → (inB (el sung j) 0 59 && (done || decide (el sung j = (j : Int)))) = true) (fun i => sung.length - (intOf i).toNat)
      case atStart => exact ⟨0, Nat.zero_le _, rfl, fun j hj => by omega⟩
      case round =>
        obtain ⟨k, hk, rfl, hall⟩ := hrel
        have HA : Hid (∀ j, j < k → (inB (el sung j) 0 59 && (done || decide (el sung j = (j : Int)))) = true) := hall
        clear hall
        by_cases hlt : k < sung.length
        · have HNo : Hid ((inB (el sung k) 0 59 && (done || decide (el sung k = (k : Int)))) = false → okMb ⟨id, n, rows, sung, done⟩ = false) := fun h => okMb_sg (m := ⟨id, n, rows, sung, done⟩) (k := k) hlt h
          have HY : Hid ((inB (el sung k) 0 59 && (done || decide (el sung k = (k : Int)))) = true → ∀ j, j < k + 1 → (inB (el sung j) 0 59 && (done || decide (el sung j = (j : Int)))) = true) := fun h1 j hj => by
            rcases Nat.lt_succ_iff_lt_or_eq.1 hj with h | h
            · exact HA.out j h
            · rw [h]; exact h1
          rcases hsu.2.2 with h0 | ⟨b, off, rfl, hc⟩
          · omega
          have hck := hc k hlt
          have k1 : (k : Int) < (sung.length : Int) := by omega
          have k0 : (0 : Int) ≤ (k : Int) := by omega
          clear hc
          generalize el sung k = x at *
          cases e1 : inB x 0 59 with
          | false =>
            have HZ : Hid (okMb ⟨id, n, rows, sung, done⟩ = false) := HNo.out (by rw [e1]; rfl)
            go_wp2_with (first | (go_at_call 48; refine (l1In_any _ _ _ _).mono ?_; rintro e w' ⟨rfl, hw'⟩; rw [hw']; clear hw'))
            go_ret
            exact ⟨ret_bool (by rw [HZ.out]), HB3.out⟩
          | true =>
          cases done with
          | true =>
            have HN := HY.out (by rw [e1]; rfl)
            have HNN : Hid (∀ j, j < k + 1 → (inB (el sung j) 0 59 && (true || decide (el sung j = (j : Int)))) = true) := HN
            clear HN HY HNo
            go_wp2_with (first | (go_at_call 48; refine (l1In_any _ _ _ _).mono ?_; rintro e w' ⟨rfl, hw'⟩; rw [hw']; clear hw'))
            go_round
            case rel => exact ⟨k + 1, by omega, by go_num, HNN.out⟩
            case measure => simp [intOf]; omega
          | false =>
          by_cases hxk : x = (k : Int)
          · have g : (x != (k : Int)) = false := by simpa using hxk
            have HN := HY.out (by rw [e1]; simp [hxk])
            have HNN : Hid (∀ j, j < k + 1 → (inB (el sung j) 0 59 && (false || decide (el sung j = (j : Int)))) = true) := HN
            clear HN HY HNo hxk
            go_wp2_with (first | (go_at_call 48; refine (l1In_any _ _ _ _).mono ?_; rintro e w' ⟨rfl, hw'⟩; rw [hw']; clear hw'))
            go_round
            case rel => exact ⟨k + 1, by omega, by go_num, HNN.out⟩
            case measure => simp [intOf]; omega
          · have g : (x != (k : Int)) = true := by simpa using hxk
            have HZ : Hid (okMb ⟨id, n, rows, sung, false⟩ = false) := HNo.out (by rw [e1]; simp [hxk])
            clear hxk HY HNo
            go_wp2_with (first | (go_at_call 48; refine (l1In_any _ _ _ _).mono ?_; rintro e w' ⟨rfl, hw'⟩; rw [hw']; clear hw'))
            go_ret
            exact ⟨ret_bool (by rw [HZ.out]), HB3.out⟩
        · have k1 : ¬ ((k : Int) < (sung.length : Int)) := by omega
          obtain ⟨I, rfl⟩ : ∃ I : Nat, id = (I : Int) := ⟨id.toNat, by omega⟩
          have HEnd : Hid (okMb ⟨(I : Int), n, rows, sung, done⟩ = (decide (el (rowN rows I).got I = ((rowN rows I).txt.length : Int)) && (decide ((I : Int) ∉ (rowN rows I).sus) && (!done || (rowN rows I).rdy)))) := okMb_end (m := ⟨(I : Int), n, rows, sung, done⟩) HE1.out HE2.out HE3.out h4 HE5.out HAll.out (fun j hj => HA.out j (by have : j < sung.length := hj; omega))
          have hil : I < rows.length := by have := HE3.out; omega
          have i0 : (0 : Int) ≤ (I : Int) := hid.1
          have i1 : (I : Int) < (rows.length : Int) := by have := HE3.out; omega
          have hgl := okRw_len (HAll.out I hil)
          obtain ⟨g, off, Ak, hra, ⟨⟨d0, d1, d2, d3⟩, d4, d5, d6, d7⟩, hrs⟩ := HV3.out.row (k := I) hil
          simp only at hra hrs d0 d1 d2 d3 d4 d5 d6 d7
          subst hra
          have hH := fun X (h : Below wr.heap.size wr X) => l1Has_any Ak.sa (rowN rows I).sus.length Ak.sc (I : Int) (rowN rows I).sus X (hrs.sus.below h (Nat.le_refl _)) hrs.ms
          rcases hrs.got.2.2 with h0 | ⟨gb, go, hga, hgc⟩
          · omega
          have hge := hgc I (by omega)
          have i2 : (I : Int) < ((rowN rows I).got.length : Int) := by omega
          rw [hga] at d2
          have hbo := oneA16 wr (.cells #[.int .i64 (rowN rows I).ver, .slice Ak.ta (rowN rows I).txt.length Ak.tc, .slice (some ⟨gb, go, none⟩) (rowN rows I).got.length Ak.gc, .slice Ak.sa (rowN rows I).sus.length Ak.sc, .bool (rowN rows I).wed, .bool (rowN rows I).rdy, .int .i64 (rowN rows I).by_, .slice Ak.ma (rowN rows I).trm.length Ak.mc] 37)
          have hxo := Bx.new wr 37 #[.int .i64 (rowN rows I).ver, .slice Ak.ta (rowN rows I).txt.length Ak.tc, .slice (some ⟨gb, go, none⟩) (rowN rows I).got.length Ak.gc, .slice Ak.sa (rowN rows I).sus.length Ak.sc, .bool (rowN rows I).wed, .bool (rowN rows I).rdy, .int .i64 (rowN rows I).by_, .slice Ak.ma (rowN rows I).trm.length Ak.mc]
          generalize rowN rows I = r at *
          generalize hWo : wr.alloc (.cells #[.int .i64 r.ver, .slice Ak.ta r.txt.length Ak.tc, .slice (some ⟨gb, go, none⟩) r.got.length Ak.gc, .slice Ak.sa r.sus.length Ak.sc, .bool r.wed, .bool r.rdy, .int .i64 r.by_, .slice Ak.ma r.trm.length Ak.mc] 37) = Wo at *
          have C : ∀ q : Bk Wo, Calls Tryz.prog 51 #[.slice Ak.sa r.sus.length Ak.sc, .int .i64 (I : Int)] q.w fun e w' => e = .returned (.bool (decide ((I : Int) ∈ r.sus))) ∧ Below q.w.heap.size q.w w' := fun q => (hH q.w (hbo.trans (q.h.mono hbo.size))).mono (fun e w' h => ⟨h.1, by rw [h.2]; exact Below.refl _ _⟩)
          obtain ⟨⟨y0, y1, y2, y3⟩, y4, y5, y6, y7⟩ := Bx.r8 hxo
          have z0 : Wo.cell? ⟨w.heap.size, 0, none⟩ = _ := (hbo.cell (World.block_lt_of_cell? _ _ c0)).trans c0
          have z4 : Wo.cell? ⟨w.heap.size, 4, none⟩ = _ := (hbo.cell (World.block_lt_of_cell? _ _ c4)).trans c4
          have hgo : Wo.cell? ⟨gb, go + I, none⟩ = _ := (hbo.cell (World.block_lt_of_cell? _ _ hge)).trans hge
          have x1 : ∀ q : Bk Wo, q.w.cell? ⟨wr.heap.size, 1, none⟩ = _ := fun q => (q.h.cell (World.block_lt_of_cell? _ _ y1)).trans y1
          have x2 : ∀ q : Bk Wo, q.w.cell? ⟨wr.heap.size, 2, none⟩ = _ := fun q => (q.h.cell (World.block_lt_of_cell? _ _ y2)).trans y2
          have x3 : ∀ q : Bk Wo, q.w.cell? ⟨wr.heap.size, 3, none⟩ = _ := fun q => (q.h.cell (World.block_lt_of_cell? _ _ y3)).trans y3
          have x5 : ∀ q : Bk Wo, q.w.cell? ⟨wr.heap.size, 5, none⟩ = _ := fun q => (q.h.cell (World.block_lt_of_cell? _ _ y5)).trans y5
          have v0 : ∀ q : Bk Wo, q.w.cell? ⟨w.heap.size, 0, none⟩ = _ := fun q => (q.h.cell (World.block_lt_of_cell? _ _ z0)).trans z0
          have v4 : ∀ q : Bk Wo, q.w.cell? ⟨w.heap.size, 4, none⟩ = _ := fun q => (q.h.cell (World.block_lt_of_cell? _ _ z4)).trans z4
          have vg : ∀ q : Bk Wo, q.w.cell? ⟨gb, go + I, none⟩ = _ := fun q => (q.h.cell (World.block_lt_of_cell? _ _ hgo)).trans hgo
          have HB5 : Hid (Below w.heap.size w Wo) := HB3.out.trans (hbo.mono HB3.out.size)
          clear hgc hge hH hxo hbo HA hrs HAll HV3 hsu y0 y1 y2 y3 y4 y5 y6 y7 z0 z4 hgo
          have HEq : Hid (((el r.got I == (r.txt.length : Int)) && (!(decide ((I : Int) ∈ r.sus)) && (!done || r.rdy))) = okMb ⟨(I : Int), n, rows, sung, done⟩) := by
            rw [Hid, HEnd.out]
            simp only [decide_not]
            rfl
          generalize hrd : r.rdy = rd at *
          generalize hel : el r.got I = eg at *
          cases e7 : (eg == (r.txt.length : Int)) <;> cases e8 : decide ((I : Int) ∈ r.sus) <;> cases done <;> rw [e7, e8] at HEq <;> rw [e8] at C <;>
           (go_wp2_with fail
            refine wp_region_bk (by kernel_rfl) (by kernel_rfl) ?_
            repeat (go_big_quiet_step ((first | (go_at_call 51; exact bk_call _ (C _)) | rfl)))
            refine wpQuiet_nil ?_
            intro wE hw'
            obtain ⟨⟨w11, hb11⟩, hw''⟩ := hw'
            have hwe : wE = w11 := hw''
            clear hw''
            subst hwe
            have HBE : Hid (Below w.heap.size w wE) := HB5.out.trans (hb11.mono HB5.out.size)
            go_wp2
            go_ret
            exact ⟨ret_bool (by rw [← HEq.out]; try rfl), HBE.out⟩)
end Go.Proofs.YtidnfdobljihoaaGreat